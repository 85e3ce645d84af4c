/- Walks: the chapter's examples; the laws on Sum, Extend, Seal and Open. -/
import Derived.Test.YtandmdmgleeogaaX7
import Derived.Lib.SlBytesConst
namespace Go.Proofs.Ytandmdmgleeogaa
open Go.RowKit
open Go.Lib (byteCells)

theorem enc0 : enc 0 = [0] := enc_low 0 (by decide)
theorem seal_nil : sealP [] = [0, 82, 125, 83, 81] := by
  show (enc 0 ++ []) ++ four (sumP (enc 0 ++ [])) = _
  rw [enc0]
  decide +kernel
theorem sum9 : ((sumP [49, 50, 51, 52, 53, 54, 55, 56, 57] : Nat) : Int) = 3808858755 := by decide +kernel
theorem sum0 : ((sumP [] : Nat) : Int) = 0 := by decide +kernel
theorem ex_ok : openP [0, 82, 125, 83, 81] 0 0 = ([], 5, 0) := by decide +kernel
theorem ex_short : openP [0, 82, 125, 83] 0 0 = ([], 0, 5) := by decide +kernel
theorem ex_sum : openP [0, 82, 125, 83, 80] 0 0 = ([], 0, 6) := by decide +kernel
theorem ex_long : openP [0, 82, 125, 83, 81] 0 (-1) = ([], 0, 4) := by decide +kernel

theorem sl_of {w w' : World} {B : Nat} {l : List UInt8} {e : Ending} (h : Grew w B l e w') : ∃ A m c, e = .returned (.slice A m c) ∧ m = l.length ∧ Sl w' A m c (byteCells l) ∧ Below B w w' := by
  obtain ⟨v, rfl, ho, hb⟩ := h
  obtain ⟨A, m, c, rfl, hm, hs⟩ := ho.sl5
  exact ⟨A, m, c, rfl, hm, hs, hb⟩
theorem opened_sl {w w' : World} {r : List UInt8 × Nat × Nat} {e : Ending} (h : Opened w r e w') : ∃ A m c, e = .returned (.tuple #[.slice A m c, .int .i64 (r.2.1 : Int), .int .i64 (r.2.2 : Int)]) ∧ m = r.1.length ∧ Sl w' A m c (byteCells r.1) ∧ Below w.heap.size w w' := by
  obtain ⟨v, rfl, ho, hb⟩ := h
  obtain ⟨A, m, c, rfl, hm, hs⟩ := ho.sl5
  exact ⟨A, m, c, rfl, hm, hs, hb⟩

theorem lit_slm (w : World) (cs : Array Value) (T : TypeId) (fr : Nat × Nat) (xs : List Value) (n : Nat) (hx : cs.toList = xs) (hn : xs.length = n) (hm : n ≤ 9223372036854775807) : Sl (w.alloc (.cells cs T fr)) (some ⟨w.heap.size, 0, none⟩) n n xs := by
  refine ⟨Nat.le_refl _, hm, (fun e => by cases e), hn, fun j u hu => ⟨_, rfl, by simp, ?_⟩⟩
  rw [addr0, World.cell?_alloc_mark, ← hu, ← hx]
  simp
theorem sum11c (A : Option Addr) (n c : Nat) (l : List UInt8) (s : Int) (hs : ((sumP l : Nat) : Int) = s) (w : World) (h : Sl w A n c (byteCells l)) : Calls Try.prog 11 #[.slice A n c] w fun e w' => e = .returned (.int .u32 s) ∧ w = w' := by
  subst hs
  exact sum11 _ A n c l w h.reads (by have := h.1; have := h.2.1; omega)

/-- Open of a literal. -/
theorem open18c (w0 : World) (g : Nat) (h0 : g = w0.heap.size) (cs : Array Value) (l : List UInt8) (n : Nat) (i most : Int) (nx er : Nat) (hx : cs.toList = byteCells l) (hn : l.length = n) (hm : n ≤ 100000000) (hg : openP l i most = ([], nx, er)) :
    Calls Try.prog 18 #[.slice (some ⟨g, 0, none⟩) n n, .int .i64 i, .int .i64 most] (w0.alloc (.cells cs 5)) fun e w' => ∃ A c, e = .returned (.tuple #[.slice A 0 c, .int .i64 (nx : Int), .int .i64 (er : Int)]) ∧ Below w0.heap.size w0 w' := by
  subst h0
  have s := lit_sl w0 cs 5 (byteCells l) n hx (by rw [bytes_size]; exact hn) (by omega)
  refine (open18 _ n n l _ s hm i most).mono ?_
  rw [hg]
  intro e w' h
  obtain ⟨A, m, c, rfl, hm0, _, hb⟩ := opened_sl h
  have h0 : m = 0 := hm0
  subst h0
  exact ⟨A, c, rfl, (bnew (Below.refl _ w0) (.cells cs 5)).trans (hb.mono (by simp))⟩

set_option maxRecDepth 20000 in
set_option maxHeartbeats 3200000 in
theorem alive10 (w : World) : Calls Try.prog 10 #[] w fun e w' => e = .returned (.bool true) ∧ Below w.heap.size w w' := by
  go_enter Try.func10, Try.ntmps10
  go_wp2_with fail
  refine (seal16 none 0 0 [] _ (Sl.nil _) (by decide)).mono ?_
  intro e w1 hg
  obtain ⟨A1, m1, c1, rfl, hm1, hs1, hb1⟩ := sl_of hg
  rw [seal_nil] at hm1 hs1
  have hm1' : m1 = 5 := hm1
  subst hm1'
  have B1 := hide hb1
  have S2 := hide (hs1.below (bnew (Below.refl _ w1) (.cells #[.int .u8 0, .int .u8 82, .int .u8 125, .int .u8 83, .int .u8 81] 5)))
  have L2 := hide (lit_sl w1 #[.int .u8 0, .int .u8 82, .int .u8 125, .int .u8 83, .int .u8 81] 5 (byteCells [0, 82, 125, 83, 81]) 5 rfl rfl (by decide))
  clear hg hm1 hs1 hb1
  go_wp2_with fail
  refine (same15 A1 _ 5 c1 5 5 [0, 82, 125, 83, 81] _ S2.out L2.out).mono ?_
  rintro e w2 ⟨rfl, hd2⟩
  have B2 := hide ((bnew B1.out _).trans (hd2.below _))
  clear hd2 B1 S2 L2
  have kc := fun (w : World) (C : Array Value) (n c : Nat) => Lib.run_convert_bytes_const (P := Try.prog) w 23 5 C n c Try.underlying23 Try.underlying5
  have L3 := hide (lit_slm w2 #[.int .u8 49, .int .u8 50, .int .u8 51, .int .u8 52, .int .u8 53, .int .u8 54, .int .u8 55, .int .u8 56, .int .u8 57] 5 (9, 10) (byteCells [49, 50, 51, 52, 53, 54, 55, 56, 57]) 9 rfl rfl (by decide))
  go_wp2_with fail
  refine (sum11c _ 9 9 _ _ sum9 _ L3.out).mono ?_
  rintro e w3 ⟨rfl, rfl⟩
  go_wp2_with fail
  refine (sum11c none 0 0 [] _ sum0 _ (Sl.nil _)).mono ?_
  rintro e w3 ⟨rfl, rfl⟩
  clear L3 kc
  have B3 := hide (bnew B2.out (.cells #[.int .u8 49, .int .u8 50, .int .u8 51, .int .u8 52, .int .u8 53, .int .u8 54, .int .u8 55, .int .u8 56, .int .u8 57] 5 (9, 10)))
  clear B2
  go_wp2_with fail
  refine (open18c _ _ (by simp) _ [0, 82, 125, 83, 81] 5 0 0 5 0 rfl rfl (by decide) ex_ok).mono ?_
  rintro e w4 ⟨A4, c4, rfl, hb4⟩
  have B4 := hide (bgo B3.out hb4)
  clear B3 hb4
  go_wp2_with fail
  refine (open18c _ _ (by simp) _ [0, 82, 125, 83] 4 0 0 0 5 rfl rfl (by decide) ex_short).mono ?_
  rintro e w5 ⟨A5, c5, rfl, hb5⟩
  have B5 := hide (bgo B4.out hb5)
  clear B4 hb5
  go_wp2_with fail
  refine (open18c _ _ (by simp) _ [0, 82, 125, 83, 80] 5 0 0 0 6 rfl rfl (by decide) ex_sum).mono ?_
  rintro e w6 ⟨A6, c6, rfl, hb6⟩
  have B6 := hide (bgo B5.out hb6)
  clear B5 hb6
  go_wp2_with fail
  refine (open18c _ _ (by simp) _ [0, 82, 125, 83, 81] 5 0 (-1) 0 4 rfl rfl (by decide) ex_long).mono ?_
  rintro e w7 ⟨A7, c7, rfl, hb7⟩
  have B7 := hide (bgo B6.out hb7)
  clear B6 hb7
  go_wp2
  go_ret
  exact ⟨rfl, B7.out⟩

end Go.Proofs.Ytandmdmgleeogaa
