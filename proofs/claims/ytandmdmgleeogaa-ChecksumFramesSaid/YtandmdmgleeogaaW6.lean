/- Walks: Put, PutString. -/
import Derived.Test.YtandmdmgleeogaaW5
import Derived.Test.YtandmdmgleeogaaW4
namespace Go.Proofs.Ytandmdmgleeogaa
open Go.RowKit
open Go.Lib (byteCells strCells)

/-- A slice of one-cell elements that reads as xs. -/
def Sl (w : World) (A : Option Addr) (n c : Nat) (xs : List Value) : Prop := n ≤ c ∧ c ≤ 9223372036854775807 ∧ (A = none → c = 0) ∧ Reads w w.heap.size A n xs

theorem Sl.below {w w' : World} {A : Option Addr} {n c : Nat} {xs : List Value} (h : Sl w A n c xs) (hb : Below w.heap.size w w') : Sl w' A n c xs :=
  ⟨h.1, h.2.1, h.2.2.1, (h.2.2.2.below hb).more hb.size⟩
theorem Sl.len {w : World} {A : Option Addr} {n c : Nat} {l : List UInt8} (h : Sl w A n c (byteCells l)) : l.length = n := by rw [← bytes_size]; exact h.2.2.2.1
theorem Sl.nil (w : World) : Sl w none 0 0 [] := ⟨Nat.le_refl _, by omega, fun _ => rfl, Reads.nil⟩
theorem Sl.src {w : World} {A : Option Addr} {n : Nat} {c : Nat} {xs : List Value} (h : Sl w A n c xs) (B : Nat) (e : TypeId) : Src w B e (.slice A n n) xs := by
  have hn : xs.length = n := h.2.2.2.1
  subst hn
  exact Or.inr ⟨A, rfl, fun e => by have := h.2.2.1 e; have := h.1; omega, h.2.2.2⟩
theorem Own.sl {w : World} {B : Nat} {e : TypeId} {v : Value} {xs : List Value} (h : Own w B e v xs) : ∃ A c, v = .slice A xs.length c ∧ Sl w A xs.length c xs := by
  have h' := h
  rcases h'.2 with ⟨rfl, h0⟩ | ⟨g, cap, cur, rfl, hb, hg, hc, hm, r⟩
  · obtain rfl : xs = [] := List.eq_nil_of_length_eq_zero h0
    exact ⟨none, 0, rfl, Sl.nil w⟩
  · exact ⟨_, cap, rfl, hc, by unfold maxLen at hm; omega, fun e => (by cases e), Reads.of_own h⟩
theorem Grew.sl {w w' : World} {B : Nat} {l : List UInt8} {e : Ending} (h : Grew w B l e w') : ∃ A c, e = .returned (.slice A l.length c) ∧ Sl w' A l.length c (byteCells l) ∧ Own w' B 5 (.slice A l.length c) (byteCells l) ∧ Below B w w' := by
  obtain ⟨v, rfl, ho, hb⟩ := h
  obtain ⟨A, c, rfl, hs⟩ := ho.sl
  rw [bytes_size] at hs ho ⊢
  exact ⟨A, c, rfl, hs, ho, hb⟩

set_option maxRecDepth 20000 in
theorem full33 (A : Option Addr) (n c : Nat) (w : World) (hnc : n ≤ c) :
    Calls Try.prog 33 #[.slice A n c] w fun e w' => e = .returned (.slice A n n) ∧ w = w' := by
  go_enter Try.func33, Try.ntmps33
  go_wp2
  go_ret
  exact ⟨rfl, rfl⟩

set_option maxRecDepth 20000 in
theorem put25 (A : Option Addr) (n c : Nat) (l : List UInt8) (i : Int) (w : World) (h : Sl w A n c (byteCells l)) (hi : i ≤ 9223372036854775807) (hn : n ≤ 1000000000) :
    Calls Try.prog 25 #[.slice A n c, .int .i64 i] w (Grew w w.heap.size (l ++ enc i.toNat)) := by
  have hlen := h.len
  have Hlen := hide hlen
  have hnc := h.1
  have Hsrc := hide (h.src w.heap.size 5)
  clear hlen h
  go_enter Try.func25, Try.ntmps25
  go_wp2_with fail
  with_reducible refine (full33 A n c w hnc).mono ?_
  rintro e w' ⟨rfl, rfl⟩
  go_wp2_with fail
  with_reducible refine (app32 _ (.slice A n n) l i w (Nat.le_refl _) Hsrc.out hi (by rw [Hlen.out]; exact hn)).mono ?_
  rintro e w' ⟨v, rfl, hown, hb⟩
  have Hown := hide hown
  have Hb := hide hb
  clear hown hb
  go_wp2
  go_ret
  exact ⟨v, rfl, Hown.out, Hb.out⟩

theorem str_cells (s : ByteArray) : strCells s = byteCells s.data.toList := rfl

theorem take_snoc' (l : List UInt8) (k : Nat) (b : UInt8) (h : l[k]? = some b) : byteCells (l.take (k + 1)) = byteCells (l.take k) ++ [.int .u8 (b.toNat : Int)] := by
  have hk := (List.getElem?_eq_some_iff.1 h).1
  rw [List.take_succ_eq_append_getElem hk, Go.Lib.byteCells_append, (List.getElem?_eq_some_iff.1 h).2]
  rfl

set_option maxRecDepth 20000 in
set_option maxHeartbeats 1600000 in
theorem rput22 (A : Option Addr) (n c : Nat) (l : List UInt8) (i : Int) (w : World) (h : Sl w A n c (byteCells l)) (hi : i ≤ 9223372036854775807) (hn : n ≤ 1000000000) :
    Calls Try.prog 22 #[.slice A n c, .int .i64 i] w (Grew w w.heap.size (l ++ enc i.toNat)) := by
  obtain ⟨i0, hi', hz0, hz1, hz2⟩ := info_parts info5
  have H9 := enc_len9 i.toNat (by omega)
  have hlen := h.len
  have Hlen := hide hlen
  have H := hide h
  clear hlen h
  go_enter Try.func22, Try.ntmps22
  go_wp2
  go_loopw [5, 6] (fun u x wr => ∃ k : Nat, k ≤ n ∧ x = .int .i64 k ∧ Own wr w.heap.size 5 u (byteCells (l.take k)) ∧ Below w.heap.size w wr) (fun _ x _ => n - (intOf x).toNat)
  case atStart => exact ⟨0, Nat.zero_le _, rfl, World.ownsRow_nil _ _ _ _, Below.refl _ _⟩
  case round =>
    obtain ⟨k, hk, rfl, hown, hbel⟩ := hrel
    have hsz := hbel.size
    have Hown := hide hown
    have Hb := hide hbel
    clear hown hbel
    by_cases hlt : k < n
    · obtain ⟨ad, b, rfl, hb, hcell⟩ := (H.out.below Hb.out).2.2.2.byte hlt
      have htk := take_snoc' l k b hb
      have Htk := hide htk
      have hbb : b.toNat < 256 := UInt8.toNat_lt b
      have hbl : (byteCells (l.take k)).length ≤ 1000000000 := by rw [bytes_size, List.length_take]; omega
      clear htk hb
      go_wp2_with (at_builtin; refine wp_push rfl (.tmp 14) (.tmp 19) 23 rfl 5 i0 (.int .u8 0) 1 Try.underlying23 hi' hz0 hz1 hz2 rfl w.heap.size _ (byteCells (l.take k)) rfl _ _ rfl Hown.out.src hsz _ rfl rfl (by omega) (by unfold maxLen; omega) ?_)
      intro v' w' hown' hb'
      have Hown' := hide hown'
      have Hb' := hide hb'
      clear hown' hb'
      go_wp2
      go_roundw
      case rel => exact ⟨k + 1, by omega, by go_num, by rw [Htk.out]; exact Hown'.out, Hb.out.trans Hb'.out⟩
      case measure => simp [intOf]; omega
    · have hown2 := Hown.out
      rw [List.take_of_length_le (by rw [Hlen.out]; omega)] at hown2
      have Hown2 := hide hown2
      clear hown2 Hown
      go_wp2
      go_loopw [5, 7] (fun u x wr => ∃ (done : List UInt8) (m : Nat), x = .int .i64 m ∧ (m : Int) ≤ 9223372036854775807 ∧ Own wr w.heap.size 5 u (byteCells done) ∧ Below w.heap.size w wr ∧ done ++ enc m = l ++ enc i.toNat) (fun _ x _ => (intOf x).toNat)
      case atStart => exact ⟨l, i.toNat, by rw [show max i 0 = ((i.toNat : Nat) : Int) by omega], by omega, Hown2.out, Hb.out, rfl⟩
      case round =>
        clear Hb hsz
        obtain ⟨done, m, rfl, hm, hown, hbel, heq⟩ := hrel
        have hsz := hbel.size
        have hbl : (byteCells done).length ≤ 1000000009 := by
          have := congrArg List.length heq
          rw [List.length_append, List.length_append, Hlen.out] at this
          rw [bytes_size]; omega
        have Heq := hide heq
        have Hs := hide hown
        have Hb := hide hbel
        clear heq hown hbel
        by_cases h128 : m < 128
        · have hcell := cell_low m h128
          have Hcell := hide hcell
          have hres := enc_low m h128
          have Hres := hide hres
          clear hcell hres
          go_wp2_with (at_builtin; refine wp_push rfl (.tmp 34) (.tmp 37) 23 rfl 5 i0 (.int .u8 0) 1 Try.underlying23 hi' hz0 hz1 hz2 rfl w.heap.size _ (byteCells done) rfl _ _ rfl Hs.out.src hsz _ rfl rfl (by omega) (by unfold maxLen; omega) ?_)
          intro v' w' hown hb'
          have Hown := hide hown
          clear hown
          go_wp2
          go_ret
          refine ⟨v', rfl, ?_, Hb.out.trans hb'⟩
          rw [← Heq.out, Hres.out, Go.Lib.byteCells_append, Hcell.out]
          exact Hown.out
        · have hcell := cell_high m
          have hres := enc_high m h128
          have Hres := hide hres
          have Hcell := hide hcell
          clear hcell hres
          have hm1 : 128 ≤ m := by omega
          go_wp2_with (at_builtin; refine wp_push rfl (.tmp 25) (.tmp 30) 23 rfl 5 i0 (.int .u8 0) 1 Try.underlying23 hi' hz0 hz1 hz2 rfl w.heap.size _ (byteCells done) rfl _ _ rfl Hs.out.src hsz _ rfl rfl (by omega) (by unfold maxLen; omega) ?_)
          intro v' w' hown hb'
          have Hown := hide hown
          have Hb' := hide hb'
          clear hown hb'
          go_wp2
          go_roundw
          case rel =>
            refine ⟨done ++ [UInt8.ofNat (m % 128 + 128)], m / 128, by simp, by omega, ?_, Hb.out.trans Hb'.out, ?_⟩
            · rw [Go.Lib.byteCells_append, Hcell.out]
              exact Hown.out
            · rw [← Heq.out, Hres.out, List.append_assoc]; rfl
          case measure => simp [intOf]; omega

end Go.Proofs.Ytandmdmgleeogaa
