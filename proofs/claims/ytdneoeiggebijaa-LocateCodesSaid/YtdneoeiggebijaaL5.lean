/- Layer 7: the program's contracts; the examples walked. -/
import Derived.Test.YtdneoeiggebijaaL4
namespace Go.Proofs.Ytdneoeiggebijaa
open Go.RowKit

/-- What the program's functions do. -/
structure Cs : Prop where
  find : ∀ (s t : ByteArray) (f : Bool) (w : World), s.size ≤ 1000 → t.size ≤ 1000 → Calls Try.prog 12 #[.string s, .string t, .bool f] w (GotI w (findS f s.data.toList t.data.toList))
  count : ∀ (s t : ByteArray) (f : Bool) (w : World), s.size ≤ 1000 → t.size ≤ 1000 → Calls Try.prog 14 #[.string s, .string t, .bool f] w fun e w' => e = .returned (.int .i64 ((countS f s.data.toList t.data.toList : Nat) : Int)) ∧ Below w.heap.size w w'
  codes : ∀ (t : ByteArray) (w : World), t.size ≤ 1000 → Calls Try.prog 16 #[.string t] w (GotI w (ofS t.data.toList))
  poss : ∀ (A : Option Addr) (n c : Nat) (cs : List Int) (t : ByteArray) (w : World), Sl w A n c (numCells cs) → In64 cs → n ≤ 1000 → t.size ≤ 1000 → Calls Try.prog 18 #[.slice A n c, .string t] w fun e w' => e = .returned (.bool (possS cs t.data.toList)) ∧ Below w.heap.size w w'
  cand : ∀ (A : Option Addr) (n c : Nat) (gs : List (Int × List Int)) (t : ByteArray) (w : World), GrS w A n c gs → n ≤ 1000 → (∀ g ∈ gs, g.2.length ≤ 1000) → (∀ g ∈ gs, In64 g.2) → t.size ≤ 1000 → Calls Try.prog 20 #[.slice A n c, .string t] w (GotIB w (candS gs t.data.toList) (decide (3 ≤ t.size)))

theorem litI (w : World) (cs : Array Value) (l : List Int) (n : Nat) (h : cs.toList = numCells l) (hn : cs.size = n) (hm : n ≤ 1000) : Sl (w.alloc (.cells cs 3)) (some ⟨w.heap.size, 0, none⟩) n n (numCells l) :=
  lit_sl w cs 3 (numCells l) n h (by rw [← h, Array.length_toList]; exact hn) (by omega)
theorem in64_of {l : List Int} (h : ∀ z ∈ l, 0 ≤ z ∧ z < 16777216) : In64 l := fun z hz => by
  have := h z hz
  omega
theorem asz (w : World) (o : Obj) : (w.alloc o).heap.size = w.heap.size + 1 := by simp
/-- A literal of two grams. -/
theorem litG (w : World) (A B : Option Addr) (n c m b : Nat) (y z : Int) (l k : List Int) (hA : Sl w A n c (numCells l)) (hB : Sl w B m b (numCells k)) :
    GrS (w.alloc (.cells #[.int .i64 y, .slice A n c, .int .i64 z, .slice B m b] 32)) (some ⟨w.heap.size, 0, none⟩) 2 2 [(y, l), (z, k)] := by
  have hb := (Below.refl w.heap.size w).alloc (Nat.le_refl _) (.cells #[.int .i64 y, .slice A n c, .int .i64 z, .slice B m b] 32)
  refine ⟨Nat.le_refl _, by decide, rfl, fun i x hx => ⟨w.heap.size, 0, rfl, ?_⟩⟩
  match i, hx with
  | 0, hx =>
    simp at hx
    subst hx
    refine ⟨A, n, c, ?_, ?_, hA.below hb⟩
    · rw [World.cell?_alloc_mark]; rfl
    · rw [World.cell?_alloc_mark]; rfl
  | 1, hx =>
    simp at hx
    subst hx
    refine ⟨B, m, b, ?_, ?_, hB.below hb⟩
    · rw [World.cell?_alloc_mark]; rfl
    · rw [World.cell?_alloc_mark]; rfl

theorem ex_f1 : findS false (⟨#[97, 98, 97, 98, 97]⟩ : ByteArray).data.toList (⟨#[97, 98, 97]⟩ : ByteArray).data.toList = [0, 2] := by decide
theorem ex_f2 : findS true (⟨#[97, 66]⟩ : ByteArray).data.toList (⟨#[98]⟩ : ByteArray).data.toList = [1] := by decide
theorem ex_c1 : countS false (⟨#[97, 98, 97, 98, 97]⟩ : ByteArray).data.toList (⟨#[97, 98, 97]⟩ : ByteArray).data.toList = 1 := by decide
theorem ex_c2 : countS false (⟨#[97, 97, 97, 97]⟩ : ByteArray).data.toList (⟨#[]⟩ : ByteArray).data.toList = 5 := by decide
def exG : List (Int × List Int) := [(6382179, [0, 5]), (6447969, [1])]
theorem ex_a1 : candS [(6382179, [0, 5]), (6447969, [1])] (⟨#[97, 98, 99, 97]⟩ : ByteArray).data.toList = [0] := by decide
theorem ex_a2 : candS [(6382179, [0, 5]), (6447969, [1])] (⟨#[97, 66, 67]⟩ : ByteArray).data.toList = [0, 5] := by decide
theorem ex_o : ofS (⟨#[97, 98, 99, 97]⟩ : ByteArray).data.toList = [6382179, 6447969] := by decide
theorem ex_p1 : possS [6447969, 6382179] (⟨#[97, 98, 99, 97]⟩ : ByteArray).data.toList = true := by decide
theorem ex_p2 : possS [6447969] (⟨#[97, 98, 99, 97]⟩ : ByteArray).data.toList = false := by decide
theorem ex_len : ∀ g ∈ ([(6382179, [0, 5]), (6447969, [1])] : List (Int × List Int)), g.2.length ≤ 1000 := by decide
theorem ex_in : ∀ g ∈ ([(6382179, [0, 5]), (6447969, [1])] : List (Int × List Int)), In64 g.2 := by
  intro g hg
  simp at hg
  rcases hg with rfl | rfl <;> (intro z hz; simp at hz; omega)

set_option maxRecDepth 100000 in
set_option maxHeartbeats 6400000 in
theorem alive10 (C : Cs) (w : World) : Calls Try.prog 10 #[] w fun e w' => e = .returned (.bool true) ∧ Below w.heap.size w w' := by
  have CC := hide C
  clear C
  go_enter Try.func10, Try.ntmps10
  go_wp2_with fail
  with_reducible refine (CC.out.find _ _ _ _ (by decide) (by decide)).mono ?_
  rw [ex_f1]
  rintro e v1 ⟨A1, n1, c1, rfl, hs, hb⟩
  have S1 := hide (hs.below (bnew (Below.refl _ v1) (.cells #[.int .i64 0, .int .i64 2] 3)))
  have L1 := hide (litI v1 #[.int .i64 0, .int .i64 2] [0, 2] 2 rfl rfl (by decide))
  have B1 := hide (bnew hb (.cells #[.int .i64 0, .int .i64 2] 3))
  clear hs hb
  go_wp2_with fail
  with_reducible refine (rsame11 A1 _ n1 c1 2 2 [0, 2] _ S1.out L1.out).mono ?_
  rintro e u1 ⟨rfl, hd⟩
  have B2 := hide (B1.out.trans (hd.below _))
  clear hd S1 L1 B1
  go_wp2_with fail
  with_reducible refine (CC.out.find _ _ _ _ (by decide) (by decide)).mono ?_
  rw [ex_f2]
  rintro e v2 ⟨A2, n2, c2, rfl, hs, hb⟩
  have S2 := hide (hs.below (bnew (Below.refl _ v2) (.cells #[.int .i64 1] 3)))
  have L2 := hide (litI v2 #[.int .i64 1] [1] 1 rfl rfl (by decide))
  have B3 := hide (bnew (bgo B2.out hb) (.cells #[.int .i64 1] 3))
  clear hs hb B2
  go_wp2_with fail
  with_reducible refine (rsame11 A2 _ n2 c2 1 1 [1] _ S2.out L2.out).mono ?_
  rintro e u2 ⟨rfl, hd⟩
  have B4 := hide (B3.out.trans (hd.below _))
  clear hd S2 L2 B3
  go_wp2_with fail
  with_reducible refine (CC.out.count _ _ _ _ (by decide) (by decide)).mono ?_
  rw [ex_c1]
  rintro e v3 ⟨rfl, hb⟩
  have B5 := hide (bgo B4.out hb)
  clear hb B4
  go_wp2_with fail
  with_reducible refine (CC.out.count _ _ _ _ (by decide) (by decide)).mono ?_
  rw [ex_c2]
  rintro e v4 ⟨rfl, hb⟩
  have B6 := hide (bgo B5.out hb)
  clear hb B5
  have k0 := hide (litI v4 #[.int .i64 0, .int .i64 5] [0, 5] 2 rfl rfl (by decide))
  obtain ⟨x0, hx0⟩ : ∃ x, x = v4.alloc (.cells #[.int .i64 0, .int .i64 5] 3) := ⟨_, rfl⟩
  rw [← hx0] at k0
  have k1 := hide (litI x0 #[.int .i64 1] [1] 1 rfl rfl (by decide))
  have k2 := hide (k0.out.below (bnew (Below.refl _ x0) (.cells #[.int .i64 1] 3)))
  obtain ⟨x1, hx1⟩ : ∃ x, x = x0.alloc (.cells #[.int .i64 1] 3) := ⟨_, rfl⟩
  rw [← hx1] at k1 k2
  have g1 := (litG x1 _ _ _ _ _ _ 6382179 6447969 [0, 5] [1] k2.out k1.out)
  have b7 := (bnew (bnew (bnew B6.out (.cells #[.int .i64 0, .int .i64 5] 3)) (.cells #[.int .i64 1] 3)) (.cells #[.int .i64 6382179, .slice (some ⟨v4.heap.size, 0, none⟩) 2 2, .int .i64 6447969, .slice (some ⟨x0.heap.size, 0, none⟩) 1 1] 32))
  rw [← hx0, ← hx1] at b7
  subst hx1 hx0
  simp only [asz] at g1 b7
  have G1 := hide g1
  have B7 := hide b7
  clear g1 b7
  clear k0 k1 k2 B6
  go_wp2_with fail
  with_reducible refine (CC.out.cand _ _ _ [(6382179, [0, 5]), (6447969, [1])] ⟨#[97, 98, 99, 97]⟩ _ G1.out (by decide) ex_len ex_in (by decide)).mono ?_
  rw [ex_a1]
  rintro e v5 ⟨A5, n5, c5, rfl, hs, hb⟩
  have S5 := hide hs
  have G2 := hide (G1.out.below hb)
  have B8 := hide (bgo B7.out hb)
  clear hs hb B7 G1
  go_wp2_with fail
  with_reducible refine (CC.out.cand _ _ _ [(6382179, [0, 5]), (6447969, [1])] ⟨#[97, 66, 67]⟩ _ G2.out (by decide) ex_len ex_in (by decide)).mono ?_
  rw [ex_a2]
  rintro e v6 ⟨A6, n6, c6, rfl, hs, hb⟩
  have S6 := hide (S5.out.below hb)
  have T6 := hide hs
  have G3 := hide (G2.out.below hb)
  have B9 := hide (bgo B8.out hb)
  clear hs hb B8 G2 S5
  go_wp2_with fail
  with_reducible refine (CC.out.cand _ _ _ [(6382179, [0, 5]), (6447969, [1])] ⟨#[97, 98]⟩ _ G3.out (by decide) ex_len ex_in (by decide)).mono ?_
  rintro e v7 ⟨A7, n7, c7, rfl, hs, hb⟩
  have S7 := hide (S6.out.below hb)
  have T7 := hide (T6.out.below hb)
  have B10 := hide (bgo B9.out hb)
  clear hs hb B9 G3 S6 T6
  go_wp2_with fail
  with_reducible refine (CC.out.codes _ _ (by decide)).mono ?_
  rw [ex_o]
  rintro e v8 ⟨A8, n8, c8, rfl, hs, hb⟩
  have hn := bnew (Below.refl _ v8) (.cells #[.int .i64 6382179, .int .i64 6447969] 3)
  have U8 := hide (hs.below hn)
  have S8 := hide ((S7.out.below hb).below hn)
  have T8 := hide ((T7.out.below hb).below hn)
  have L8 := hide (litI v8 #[.int .i64 6382179, .int .i64 6447969] [6382179, 6447969] 2 rfl rfl (by decide))
  have B11 := hide (bgo (bgo B10.out hb) hn)
  clear hs hb hn B10 S7 T7
  go_wp2_with fail
  with_reducible refine (rsame11 A8 _ n8 c8 2 2 [6382179, 6447969] _ U8.out L8.out).mono ?_
  rintro e u8 ⟨rfl, hd⟩
  have hn := bgo (hd.below _) (bnew (Below.refl _ u8) (.cells #[.int .i64 6447969, .int .i64 6382179] 3))
  have S9 := hide (S8.out.below hn)
  have T9 := hide (T8.out.below hn)
  have L9 := hide (litI u8 #[.int .i64 6447969, .int .i64 6382179] [6447969, 6382179] 2 rfl rfl (by decide))
  have B12 := hide (bgo B11.out hn)
  clear hd hn U8 L8 B11 S8 T8
  go_wp2_with fail
  with_reducible refine (CC.out.poss _ _ _ [6447969, 6382179] ⟨#[97, 98, 99, 97]⟩ _ L9.out (in64_of (by decide)) (by decide) (by decide)).mono ?_
  rw [ex_p1]
  rintro e v9 ⟨rfl, hb⟩
  have hn := bgo hb (bnew (Below.refl _ v9) (.cells #[.int .i64 6447969] 3))
  have S10 := hide (S9.out.below hn)
  have T10 := hide (T9.out.below hn)
  have L10 := hide (litI v9 #[.int .i64 6447969] [6447969] 1 rfl rfl (by decide))
  have B13 := hide (bgo B12.out hn)
  clear hb hn B12 S9 T9 L9
  go_wp2_with fail
  with_reducible refine (CC.out.poss _ _ _ [6447969] ⟨#[97, 98, 99, 97]⟩ _ L10.out (in64_of (by decide)) (by decide) (by decide)).mono ?_
  rw [ex_p2]
  rintro e v10 ⟨rfl, hb⟩
  have hn := bgo hb (bnew (Below.refl _ v10) (.cells #[.int .i64 0] 3))
  have S11 := hide (S10.out.below hn)
  have T11 := hide (T10.out.below hn)
  have L11 := hide (litI v10 #[.int .i64 0] [0] 1 rfl rfl (by decide))
  have B14 := hide (bgo B13.out hn)
  clear hb hn B13 S10 T10 L10
  go_wp2_with fail
  with_reducible refine (rsame11 A5 _ n5 c5 1 1 [0] _ S11.out L11.out).mono ?_
  rintro e u11 ⟨rfl, hd⟩
  have hn := bgo (hd.below _) (bnew (Below.refl _ u11) (.cells #[.int .i64 0, .int .i64 5] 3))
  have T12 := hide (T11.out.below hn)
  have L12 := hide (litI u11 #[.int .i64 0, .int .i64 5] [0, 5] 2 rfl rfl (by decide))
  have B15 := hide (bgo B14.out hn)
  clear hd hn B14 S11 T11 L11
  go_wp2_with fail
  with_reducible refine (rsame11 A6 _ n6 c6 2 2 [0, 5] _ T12.out L12.out).mono ?_
  rintro e u12 ⟨rfl, hd⟩
  have B16 := hide (B15.out.trans (hd.below _))
  clear hd T12 L12 B15
  go_wp2
  go_ret
  exact ⟨rfl, B16.out⟩

end Go.Proofs.Ytdneoeiggebijaa
