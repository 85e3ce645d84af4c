/- Walk of layer 11's law: alive. -/
import Derived.Test.YteokeljmggdecaaDoorLa
namespace Go.Proofs.YteokeljmggdecaaDoor
open Go.RowKit

/-! ### the chapter's examples -/
def ex1 : List Tk := [⟨1, [120, 49], 0, 2⟩, ⟨5, [61], 2, 3⟩, ⟨4, [97, 10], 3, 8⟩, ⟨5, [59], 8, 9⟩]
theorem ex1_is : scanS false [120, 49, 61, 34, 97, 92, 110, 34, 59, 32, 47, 47, 32, 101, 110, 100] = .ok ex1 := by kernel_rfl
theorem ex2_is : scanS false [97, 32, 38, 32, 98] = .error (2, 11) := by kernel_rfl
theorem ex3_is : scanS false [48, 48, 55] = .error (0, 11) := by kernel_rfl
theorem ex4_is : scanS false [49, 50, 51, 52, 53, 54, 55, 56, 57, 48] = .error (0, 4) := by kernel_rfl
def ex5 : List Tk := [⟨1, [102], 0, 1⟩, ⟨5, [40], 1, 2⟩, ⟨6, [88], 2, 4⟩, ⟨5, [44], 4, 5⟩, ⟨7, [95], 6, 9⟩, ⟨5, [41], 9, 10⟩]
theorem ex5_is : scanS true [102, 40, 36, 88, 44, 32, 36, 36, 95, 41] = .ok ex5 := by kernel_rfl
def ex6 : List Tk := [⟨1, [97], 0, 0⟩, ⟨5, [47], 0, 0⟩, ⟨5, [47], 0, 0⟩]
theorem ex6_right : allRight ex6 = true := by decide
theorem ex6_is : printS ex6 = [97, 32, 47, 32, 47] := by decide
/-- A literal of tokens. -/
theorem tkS_lit (w : World) (cs : Array Value) (l : List Tk) (n : Nat) (h : cs.toList = tkCells l) (hn : l.length = n) (hl : n ≤ 1000) : TkS (w.alloc (.cells cs 33)) (some ⟨w.heap.size, 0, none⟩) n n l := by
  refine ⟨Nat.le_refl _, by omega, hn, fun i t ht => ?_⟩
  obtain ⟨e0, e1, e2, e3⟩ := tkCells_get l i t ht
  refine ⟨w.heap.size, 0, rfl, ?_, ?_, ?_, ?_⟩
  · rw [World.cell?_alloc_mark, Nat.zero_add, ← e0, ← h]; simp
  · rw [World.cell?_alloc_mark, Nat.zero_add, ← e1, ← h]; simp
  · rw [World.cell?_alloc_mark, Nat.zero_add, ← e2, ← h]; simp
  · rw [World.cell?_alloc_mark, Nat.zero_add, ← e3, ← h]; simp

set_option maxRecDepth 100000 in
set_option maxHeartbeats 12800000 in
theorem alive9 (w : World) : Calls Tryd.prog 9 #[] w fun en w' => en = .returned (.bool true) ∧ Below w.heap.size w w' := by
  have H1 := pScan ⟨#[120, 49, 61, 34, 97, 92, 110, 34, 59, 32, 47, 47, 32, 101, 110, 100]⟩ (by decide) w
  rw [show (⟨#[120, 49, 61, 34, 97, 92, 110, 34, 59, 32, 47, 47, 32, 101, 110, 100]⟩ : ByteArray).data.toList = [120, 49, 61, 34, 97, 92, 110, 34, 59, 32, 47, 47, 32, 101, 110, 100] from rfl, ex1_is] at H1
  have H1 : Calls Tryd.prog 10 #[.string ⟨#[120, 49, 61, 34, 97, 92, 110, 34, 59, 32, 47, 47, 32, 101, 110, 100]⟩] w (GotS w (ex1, 0, 0)) := H1
  have H2 : ∀ W : World, Calls Tryd.prog 23 #[.string ⟨#[97, 32, 38, 32, 98]⟩, .int .i64 2, .int .i64 11] W fun en w' => en = .returned (.bool true) ∧ Below W.heap.size W w' := fun W => lfails ⟨#[97, 32, 38, 32, 98]⟩ (by decide) 2 11 ex2_is W
  have H3 : ∀ W : World, Calls Tryd.prog 23 #[.string ⟨#[48, 48, 55]⟩, .int .i64 0, .int .i64 11] W fun en w' => en = .returned (.bool true) ∧ Below W.heap.size W w' := fun W => lfails ⟨#[48, 48, 55]⟩ (by decide) 0 11 ex3_is W
  have H4 : ∀ W : World, Calls Tryd.prog 23 #[.string ⟨#[49, 50, 51, 52, 53, 54, 55, 56, 57, 48]⟩, .int .i64 0, .int .i64 4] W fun en w' => en = .returned (.bool true) ∧ Below W.heap.size W w' := fun W => lfails ⟨#[49, 50, 51, 52, 53, 54, 55, 56, 57, 48]⟩ (by decide) 0 4 ex4_is W
  have H5 := fun W => pScanPattern ⟨#[102, 40, 36, 88, 44, 32, 36, 36, 95, 41]⟩ (by decide) W
  have H5 : ∀ W, Calls Tryd.prog 13 #[.string ⟨#[102, 40, 36, 88, 44, 32, 36, 36, 95, 41]⟩] W (GotS W (ex5, 0, 0)) := fun W => by
    have := H5 W
    rw [show (⟨#[102, 40, 36, 88, 44, 32, 36, 36, 95, 41]⟩ : ByteArray).data.toList = [102, 40, 36, 88, 44, 32, 36, 36, 95, 41] from rfl, ex5_is] at this
    exact this
  have H6 := fun (W : World) => pprint (some ⟨W.heap.size, 0, none⟩) 3 3 ex6 (W.alloc (.cells #[.int .i64 1, .string ⟨#[97]⟩, .int .i64 0, .int .i64 0, .int .i64 5, .string ⟨#[47]⟩, .int .i64 0, .int .i64 0, .int .i64 5, .string ⟨#[47]⟩, .int .i64 0, .int .i64 0] 33)) (tkS_lit W _ ex6 3 rfl rfl (by decide)) (by decide) (by unfold Short; decide)
  rw [if_pos ex6_right, if_pos ex6_right, ex6_is] at H6
  have H7 := fun W => pkeyword ⟨#[116, 104, 105, 115]⟩ (by decide) W
  have H8 := fun W => pkeyword ⟨#[84, 104, 105, 115]⟩ (by decide) W
  rw [show isKw (⟨#[116, 104, 105, 115]⟩ : ByteArray).data.toList = true from by decide] at H7
  rw [show isKw (⟨#[84, 104, 105, 115]⟩ : ByteArray).data.toList = false from by decide] at H8
  have HL := fun (W : World) => tkS_lit W #[.int .i64 1, .string ⟨#[120, 49]⟩, .int .i64 0, .int .i64 2, .int .i64 5, .string ⟨#[61]⟩, .int .i64 2, .int .i64 3, .int .i64 4, .string ⟨#[97, 10]⟩, .int .i64 3, .int .i64 8, .int .i64 5, .string ⟨#[59]⟩, .int .i64 8, .int .i64 9] ex1 4 rfl rfl (by decide)
  have H1 := hide H1
  have H2 := hide H2
  have H3 := hide H3
  have H4 := hide H4
  have H5 := hide H5
  have H6 := hide H6
  have H7 := hide H7
  have H8 := hide H8
  have HL := hide HL
  go_enter Tryd.func9, Tryd.ntmps9
  go_wp2_with fail
  with_reducible refine H1.out.mono ?_
  rintro en w1 ⟨A, n, c, rfl, hts, hb1⟩
  have HB1 := hide hb1
  have HT1 := hide (hts.below (bnew (Below.refl w1.heap.size w1) (.cells #[.int .i64 1, .string ⟨#[120, 49]⟩, .int .i64 0, .int .i64 2, .int .i64 5, .string ⟨#[61]⟩, .int .i64 2, .int .i64 3, .int .i64 4, .string ⟨#[97, 10]⟩, .int .i64 3, .int .i64 8, .int .i64 5, .string ⟨#[59]⟩, .int .i64 8, .int .i64 9] 33)))
  have HB2 := hide (bnew hb1 (.cells #[.int .i64 1, .string ⟨#[120, 49]⟩, .int .i64 0, .int .i64 2, .int .i64 5, .string ⟨#[61]⟩, .int .i64 2, .int .i64 3, .int .i64 4, .string ⟨#[97, 10]⟩, .int .i64 3, .int .i64 8, .int .i64 5, .string ⟨#[59]⟩, .int .i64 8, .int .i64 9] 33))
  have HE := hide (requal A (some ⟨w1.heap.size, 0, none⟩) n c 4 4 ex1 _ HT1.out (HL.out w1))
  have hnc := hts.1
  clear hts hb1
  dsimp only
  go_wp2_with fail
  with_reducible refine HE.out.mono ?_
  rintro en w2 ⟨rfl, hb2⟩
  have HB3 := hide (bgo HB2.out hb2)
  clear hb2
  go_wp2_with fail
  with_reducible refine (H2.out _).mono ?_
  rintro en w3 ⟨rfl, hb3⟩
  have HB4 := hide (bgo HB3.out hb3)
  clear hb3
  go_wp2_with fail
  with_reducible refine (H3.out _).mono ?_
  rintro en w4 ⟨rfl, hb4⟩
  have HB5 := hide (bgo HB4.out hb4)
  clear hb4
  go_wp2_with fail
  with_reducible refine (H4.out _).mono ?_
  rintro en w5 ⟨rfl, hb5⟩
  have HB6 := hide (bgo HB5.out hb5)
  clear hb5
  go_wp2_with fail
  with_reducible refine (H5.out _).mono ?_
  rintro en w6 ⟨A5, n5, c5, rfl, hts5, hb6⟩
  have hn5 : n5 = 6 := hts5.2.2.1.symm
  subst hn5
  obtain ⟨g, o, t2, hA, ht2, c0, c1, c2, c3⟩ := hts5.at_ (k := 2) (by decide)
  obtain rfl : t2 = ⟨6, [88], 2, 4⟩ := by injection ht2.symm
  obtain ⟨g', o', t4, hA', ht4, d0, d1, d2, d3⟩ := hts5.at_ (k := 4) (by decide)
  obtain rfl : t4 = ⟨7, [95], 6, 9⟩ := by injection ht4.symm
  subst hA
  injection hA' with hA'
  injection hA' with hg' ho'
  subst hg' ho'
  have hnc5 := hts5.1
  have hcc5 := hts5.2.1
  have HB7 := hide (bgo HB6.out hb6)
  clear hts5 hb6 ht2 ht4
  dsimp only at c0 c1 c2 c3 d0 d1 d2 d3 ⊢
  rw [show bs [88] = (⟨#[88]⟩ : ByteArray) from rfl] at c1
  clear c2 c3 d1
  go_wp2_with fail
  with_reducible refine (H6.out w6).mono ?_
  rintro en w7 ⟨rfl, hb7⟩
  have HB8 := hide (HB7.out.trans ((bnew (Below.refl w6.heap.size w6) (.cells #[.int .i64 1, .string ⟨#[97]⟩, .int .i64 0, .int .i64 0, .int .i64 5, .string ⟨#[47]⟩, .int .i64 0, .int .i64 0, .int .i64 5, .string ⟨#[47]⟩, .int .i64 0, .int .i64 0] 33)).trans (hb7.mono (by simp)) |>.mono HB7.out.size))
  clear hb7
  rw [show bs [97, 32, 47, 32, 47] = (⟨#[97, 32, 47, 32, 47]⟩ : ByteArray) from rfl]
  go_wp2_with fail
  with_reducible refine (H7.out _).mono ?_
  rintro en w8 ⟨rfl, hb8⟩
  have HB9 := hide (bgo HB8.out hb8)
  clear hb8
  go_wp2_with fail
  with_reducible refine (H8.out _).mono ?_
  rintro en w9 ⟨rfl, hb9⟩
  have HB10 := hide (bgo HB9.out hb9)
  clear hb9
  go_wp2
  go_ret
  exact ⟨rfl, HB10.out⟩
end Go.Proofs.YteokeljmggdecaaDoor
