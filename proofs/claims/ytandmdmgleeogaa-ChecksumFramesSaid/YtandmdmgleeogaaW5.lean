/- Memory: slices that are grown, one element at a time; walks: appendNumber, Put. -/
import Derived.Test.YtandmdmgleeogaaW1
namespace Go.Proofs.Ytandmdmgleeogaa
open Go.RowKit
open Go.Lib (byteCells strCells)

/-- v owns the cells xs in blocks from B on. -/
def Own (w : World) (B : Nat) (e : TypeId) (v : Value) (xs : List Value) : Prop := w.ownsRow B e 1 v xs.length xs

/-- What an append grows: a row of the call's own, or a slice without room. -/
def Src (w : World) (B : Nat) (e : TypeId) (v : Value) (xs : List Value) : Prop :=
  Own w B e v xs ∨ ∃ A, v = .slice A xs.length xs.length ∧ (A = none → xs.length = 0) ∧ Reads w w.heap.size A xs.length xs

theorem Own.src {w : World} {B : Nat} {e : TypeId} {v : Value} {xs : List Value} (h : Own w B e v xs) : Src w B e v xs := Or.inl h

theorem owns_below' {w w' : World} {B e : Nat} {sz n : Nat} {v : Value} {xs : List Value} (h : w.ownsRow B e sz v n xs) (hb : Below w.heap.size w w') : w'.ownsRow B e sz v n xs := by
  obtain ⟨h1, h2⟩ := h
  refine ⟨h1, ?_⟩
  rcases h2 with h2 | ⟨g, cap, cur, hv, hg, hh, r⟩
  · exact Or.inl h2
  · exact Or.inr ⟨g, cap, cur, hv, hg, (hb.block g (lt_of_block hh)).trans hh, r⟩
theorem Own.below {w w' : World} {B : Nat} {e : TypeId} {v : Value} {xs : List Value} (h : Own w B e v xs) (hb : Below w.heap.size w w') : Own w' B e v xs := owns_below' h hb
theorem Own.mono {w : World} {B B' : Nat} {e : TypeId} {v : Value} {xs : List Value} (h : Own w B e v xs) (hb : B' ≤ B) : Own w B' e v xs := owns_mono h hb

section
variable {P : Program} {ops : Array Oper} {rest : List Oper} {o : Oper} {a : Act} {Q : Exit → Act → World → Prop}
/-- b = append(b, c) -/
theorem wp_push (hgd : o.guard = none) (s x : Operand) (t : TypeId) (ho : o.op = .call { callee := .builtin .append, args := #[s, x], argTypes := #[t, t] })
    (e : TypeId) (i : TypeInfo) (z : Value) (bytes : Nat) (ht : P.underlying t = some (.slice e)) (hi : P.info? e = some i) (hz : i.zero = some z) (hsize : i.size = 1) (hby : i.bytes = bytes) (hzs : z.cells.size = 1)
    (B : Nat) (v : Value) (xs : List Value) (hs : a.eval s = v) (w0 : World) (c : Value) (hc : c.oneCell' = true) (hsrc : Src w0 B e v xs) (hB : B ≤ w0.heap.size) (H : Nat) (hH : H = w0.heap.size)
    (hx : a.eval x = .slice (some ⟨H, 0, none⟩) 1 1) (hlen : (xs.length + 1) * bytes ≤ 140737488355328) (h63 : xs.length + 1 ≤ maxLen)
    (h : ∀ v' w', Own w' B e v' (xs ++ [c]) → Below B w0 w' → wpList P ops Q rest (a.put o.dst v') w') : wpList P ops Q (o :: rest) a (w0.alloc (.cells #[c] e)) := by
  subst hH
  have hsz : w0.heap.size ≤ (w0.alloc (.cells #[c] e)).heap.size := by simp
  have hone : ∀ u ∈ [c], u.oneCell' = true := by intro u hu; simp at hu; subst hu; exact hc
  have hl1 : (xs ++ [c]).length = xs.length + 1 := by simp
  rcases hsrc with hown | ⟨A, rfl, hA, hr⟩
  · refine wpList_append_own _ hgd s x t ho B e i z 1 bytes ht hi hz hsize hby hzs (by decide) v xs.length xs hs (hown.alloc _) ⟨w0.heap.size, 0, none⟩ 1 1 [c] hx rfl (c1_one _ _ _) hone h63 hlen (by omega) ?_
    intro v' w' hown' hg _
    refine h v' w' (by unfold Own; rw [hl1]; exact hown') ?_
    exact ((Below.refl B w0).alloc hB _).grown hg (by omega) fun k hk => (hown.lt k hk).1
  · have hr' : Reads (w0.alloc (.cells #[c] e)) w0.heap.size A xs.length xs := hr.keep fun p hp => World.cell?_alloc_lt w0 _ p hp
    refine wpList_append_grows _ hgd s x t ho e i z 1 bytes ht hi hz hsize hby hzs (by decide) A xs.length xs.length xs hs (fun e0 => ⟨hA e0, hA e0⟩) (by simp) (fun b hb j u hu => ?_) ⟨w0.heap.size, 0, none⟩ 1 1 [c] hx rfl (c1_one _ _ _) hone (by omega) h63 hlen ?_
    · obtain ⟨ad, hA', _, hcell⟩ := hr'.2 j u hu
      rw [hb] at hA'
      cases hA'
      exact hcell
    · intro v' w' hown' hg
      refine h v' w' (by unfold Own; rw [hl1]; exact owns_mono hown' (by omega)) ?_
      exact ((Below.refl B w0).alloc hB _).grown hg (by omega) fun k hk => by cases hk
end

theorem info5 : (Try.prog.info? 5).map (fun i => (i.zero, i.size, i.bytes)) = some (some (.int .u8 0), 1, 1) := by kernel_rfl
theorem info3 : (Try.prog.info? 3).map (fun i => (i.zero, i.size, i.bytes)) = some (some (.int .i64 0), 1, 8) := by kernel_rfl

theorem enc_len : ∀ (k n : Nat), n < 128 ^ (k + 1) → (enc n).length ≤ k + 1
  | 0, n, h => by rw [enc_low n (by simpa using h)]; simp
  | k + 1, n, h => by
    by_cases h1 : n < 128
    · rw [enc_low n h1]; simp
    · rw [enc_high n h1, List.length_cons]
      have := enc_len k (n / 128) (by rw [Nat.pow_succ] at h; omega)
      omega
theorem enc_len9 (n : Nat) (h : n < 9223372036854775808) : (enc n).length ≤ 9 := enc_len 8 n (Nat.lt_of_lt_of_le h (by decide))
theorem enc_pos (n : Nat) : 0 < (enc n).length := by
  by_cases h : n < 128
  · rw [enc_low n h]; simp
  · rw [enc_high n h]; simp

theorem cell_low (n : Nat) (h : n < 128) : byteCells [UInt8.ofNat n] = [.int .u8 (n : Int)] := by
  simp [byteCells]; omega
theorem cell_high (n : Nat) : byteCells [UInt8.ofNat (n % 128 + 128)] = [.int .u8 ((n : Int) % 128 + 128)] := by
  simp [byteCells]; omega

/-- What is grown by the encoding of a number. -/
def Grew (w : World) (B : Nat) (l : List UInt8) (e : Ending) (w' : World) : Prop := ∃ v', e = .returned v' ∧ Own w' B 5 v' (byteCells l) ∧ Below B w w'

set_option maxRecDepth 20000 in
set_option maxHeartbeats 1600000 in
theorem app32 (B : Nat) (v : Value) (l : List UInt8) (n : Int) (w : World) (hB : B ≤ w.heap.size) (hsrc : Src w B 5 v (byteCells l)) (hn : n ≤ 9223372036854775807) (hl : l.length ≤ 1000000000) :
    Calls Try.prog 32 #[v, .int .i64 n] w (Grew w B (l ++ enc n.toNat)) := by
  obtain ⟨i0, hi, hz0, hz1, hz2⟩ := info_parts info5
  have H9 := enc_len9 n.toNat (by omega)
  have Hsrc := hide hsrc
  clear hsrc
  go_enter Try.func32, Try.ntmps32
  go_wp2
  go_loopw [0, 1] (fun u x wr => ∃ (done : List UInt8) (m : Nat), x = .int .i64 m ∧ (m : Int) ≤ 9223372036854775807 ∧ Src wr B 5 u (byteCells done) ∧ Below B w wr ∧ B ≤ wr.heap.size ∧ done ++ enc m = l ++ enc n.toNat) (fun _ x _ => (intOf x).toNat)
  case atStart => exact ⟨l, n.toNat, by rw [show max n 0 = ((n.toNat : Nat) : Int) by omega], by omega, Hsrc.out, Below.refl _ _, hB, rfl⟩
  case round =>
    obtain ⟨done, m, rfl, hm, hsrc, hbel, hBr, heq⟩ := hrel
    have hdl : done.length ≤ 1000000009 := by
      have := congrArg List.length heq
      rw [List.length_append, List.length_append] at this
      omega
    have hbl : (byteCells done).length ≤ 1000000009 := by rw [bytes_size]; exact hdl
    have Heq := hide heq
    have Hs := hide hsrc
    have Hb := hide hbel
    clear heq hsrc hbel
    by_cases h128 : m < 128
    · have hcell := cell_low m h128
      have Hcell := hide hcell
      have hres := enc_low m h128
      have Hres := hide hres
      clear hcell hres
      go_wp2_with (at_builtin; refine wp_push rfl (.tmp 18) (.tmp 21) 23 rfl 5 i0 (.int .u8 0) 1 Try.underlying23 hi hz0 hz1 hz2 rfl B _ (byteCells done) rfl _ _ rfl Hs.out hBr _ rfl rfl (by omega) (by unfold maxLen; omega) ?_)
      intro v' w' hown hb'
      have Hown := hide hown
      clear hown
      go_wp2
      go_ret
      refine ⟨v', rfl, ?_, Hb.out.trans hb'⟩
      rw [← Heq.out, Hres.out, Go.Lib.byteCells_append, Hcell.out]
      exact Hown.out
    · have hcell := cell_high m
      have hres := enc_high m h128
      have Hres := hide hres
      have Hcell := hide hcell
      clear hcell hres
      have hm1 : 128 ≤ m := by omega
      go_wp2_with (at_builtin; refine wp_push rfl (.tmp 9) (.tmp 14) 23 rfl 5 i0 (.int .u8 0) 1 Try.underlying23 hi hz0 hz1 hz2 rfl B _ (byteCells done) rfl _ _ rfl Hs.out hBr _ rfl rfl (by omega) (by unfold maxLen; omega) ?_)
      intro v' w' hown hb'
      have Hown := hide hown
      have hsz := hb'.size
      have Hb' := hide hb'
      clear hown hb'
      go_wp2
      go_roundw
      case rel =>
        refine ⟨done ++ [UInt8.ofNat (m % 128 + 128)], m / 128, by simp, by omega, ?_, Hb.out.trans Hb'.out, by omega, ?_⟩
        · rw [Go.Lib.byteCells_append, Hcell.out]
          exact Hown.out.src
        · rw [← Heq.out, Hres.out, List.append_assoc]; rfl
      case measure => simp [intOf]; omega

end Go.Proofs.Ytandmdmgleeogaa
