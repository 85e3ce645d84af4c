/- Walks: bytes.Equal, bytes.Clone; windows of slices; Open's answers. -/
import Derived.Test.YtandmdmgleeogaaX4
import Derived.Laws.OwnMore
import Derived.Lib.SliceRun
namespace Go.Proofs.Ytandmdmgleeogaa
open Go.RowKit
open Go.Lib (byteCells)

theorem Sl.conv {w : World} {A : Option Addr} {n c : Nat} {l : List UInt8} (h : Sl w A n c (byteCells l)) : (convert 23 9 (.slice A n c)).run Try.prog w = .ok (.string ⟨l.toArray⟩) w :=
  conv_run h.2.2.2 23 9 5 Try.underlying23 Try.underlying5 Try.underlying9 (fun e => by have := h.2.2.1 e; have := h.1; omega)

set_option maxRecDepth 20000 in
theorem equal29 (A A' : Option Addr) (n c n' c' : Nat) (l l' : List UInt8) (w : World) (h : Sl w A n c (byteCells l)) (h' : Sl w A' n' c' (byteCells l')) :
    Calls Try.prog 29 #[.slice A n c, .slice A' n' c'] w fun e w' => e = .returned (.bool (l == l')) ∧ w = w' := by
  have h1 := h.conv
  have h2 := h'.conv
  clear h h'
  go_enter Try.func29, Try.ntmps29
  go_wp2
  go_ret
  exact ⟨rfl, rfl⟩

theorem equal29' (A A' : Option Addr) (n c n' c' : Nat) (l l' : List UInt8) (r : Bool) (hr : (l == l') = r) (w : World) (h : Sl w A n c (byteCells l)) (h' : Sl w A' n' c' (byteCells l')) :
    Calls Try.prog 29 #[.slice A n c, .slice A' n' c'] w fun e w' => e = .returned (.bool r) ∧ w = w' := by
  subst hr
  exact equal29 A A' n c n' c' l l' w h h'
theorem Sl.drewN {w : World} {A : Option Addr} {n c : Nat} {xs : List Value} (h : Sl w A n c xs) (k : Nat) : Sl (w.drewN k) A n c xs := h.below (Drawn.below ⟨k, rfl⟩ _)

set_option maxRecDepth 20000 in
theorem clone30 (A : Option Addr) (n c : Nat) (l : List UInt8) (w : World) (h : Sl w A n c (byteCells l)) (hn : n ≤ 100000000) :
    Calls Try.prog 30 #[.slice A n c] w (Grew w w.heap.size l) := by
  obtain ⟨i0, hi, hz0, hz1, hz2⟩ := info_parts info5
  have hlen := h.len
  have Hlen := hide hlen
  have H := hide h
  have q : ∀ (w : World) (a : Option Addr) (n c n' c' : Nat), (binOp .eql 23 (.slice a n c) (.slice none n' c')).run Try.prog w = .ok (.bool a.isNone) w := fun w a n c n' c' => Lib.run_eql_slice_nil w _ _ a n c n' c' Try.underlying23
  clear hlen h
  cases A with
  | none =>
    have hl : l = [] := List.eq_nil_of_length_eq_zero (by have := H.out.1; have := H.out.2.2.1 rfl; rw [Hlen.out]; omega)
    subst hl
    go_enter Try.func30, Try.ntmps30
    go_wp2
    go_ret
    exact ⟨_, rfl, World.ownsRow_nil _ _ _ _, Below.refl _ _⟩
  | some ad =>
    have ho := World.ownsRow_lit (e := 5) (size := 1) (base := w.heap.size) w #[] 0 (Nat.le_refl _) (Nat.zero_le _) rfl
    have Ho := hide ho
    have H1 := hide (H.out.below (bnew (Below.refl _ w) (.cells #[] 5)))
    clear ho
    go_enter Try.func30, Try.ntmps30
    go_wp2_with (at_builtin; refine wp_join rfl (.tmp 5) (.tmp 6) 23 rfl 5 i0 (.int .u8 0) 1 Try.underlying23 hi hz0 hz1 hz2 rfl w.heap.size _ [] rfl _ Ho.out (by simp) (some ad) n c (byteCells l) rfl H1.out (bytes_one _) (by simp; omega) (by simp; unfold maxLen; omega) ?_)
    intro v2 w2 ho2 hb2
    have Ho2 := hide ho2
    have B2 := hide ((bnew (Below.refl _ w) (.cells #[] 5)).trans hb2)
    clear ho2 hb2
    go_wp2
    go_ret
    exact ⟨_, rfl, Ho2.out, B2.out⟩

/-- b[k:m] -/
theorem Sl.win {w : World} {A : Option Addr} {n c : Nat} {l : List UInt8} (h : Sl w A n c (byteCells l)) {k m : Nat} (hkm : k ≤ m) (hm : m ≤ n) (hk : k < c) : Sl w (A.map fun x => x.add k) (m - k) (c - k) (byteCells ((l.drop k).take (m - k))) := by
  have hcut := h.reads.cut (k := k) (cap := c) (by omega) h.1
  rw [if_neg (by omega), ← bytes_drop] at hcut
  have htake := hcut.take (k := m - k) (by omega)
  rw [← bytes_take] at htake
  have hc := h.2.1
  have hn := h.1
  refine ⟨by omega, by omega, fun e => ?_, htake⟩
  have := h.2.2.1
  cases A with
  | none => have := this rfl; omega
  | some a => cases e

end Go.Proofs.Ytandmdmgleeogaa
