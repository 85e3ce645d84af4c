/- The examples of layer 5 walked, over the contracts of what they call. -/
import Derived.Test.YtfljmnjcoagbmaaRE
namespace Go.Proofs.Ytfljmnjcoagbmaa
open Go.RowKit
open Go.Lib (byteCells)

set_option maxRecDepth 100000 in
set_option maxHeartbeats 6400000 in
theorem alive10 (C : Cs0) (w : World) : Calls Try.prog 10 #[] w fun e w' => e = .returned (.bool true) ∧ Below w.heap.size w w' := by
  have CC := hide C
  clear C
  have SA0 := hide ((litI w _ rfl #[.int .i64 1, .int .i64 3, .int .i64 5] [1, 3, 5] 3 rfl rfl (by decide)).below (bnew (Below.refl _ _) (.cells #[.int .i64 5, .int .i64 3, .int .i64 3] 3)))
  have SB0 := hide (litI (w.alloc (.cells #[.int .i64 1, .int .i64 3, .int .i64 5] 3)) (w.heap.size + 1) (by simp) #[.int .i64 5, .int .i64 3, .int .i64 3] [5, 3, 3] 3 rfl rfl (by decide))
  have B0 := hide (bnew (bnew (Below.refl _ w) (.cells #[.int .i64 1, .int .i64 3, .int .i64 5] 3)) (.cells #[.int .i64 5, .int .i64 3, .int .i64 3] 3))
  go_enter Try.func10, Try.ntmps10
  go_wp2_with fail
  with_reducible refine (CC.out.inter _ _ 3 3 3 3 [1, 3, 5] [5, 3, 3] _ SA0.out SB0.out (by decide) (by decide)).mono ?_
  rw [ex_and]
  intro e v1 hg
  obtain ⟨A1, m1, c1, rfl, -, hs, hb⟩ := hg.sl
  have S1 := hide (hs.below (bnew (Below.refl _ v1) (.cells #[.int .i64 3, .int .i64 5] 3)))
  have L1 := hide (litI v1 _ rfl #[.int .i64 3, .int .i64 5] [3, 5] 2 rfl rfl (by decide))
  have SA1 := hide ((SA0.out.below hb).below (bnew (Below.refl _ v1) (.cells #[.int .i64 3, .int .i64 5] 3)))
  have SB1 := hide ((SB0.out.below hb).below (bnew (Below.refl _ v1) (.cells #[.int .i64 3, .int .i64 5] 3)))
  have B1 := hide (bnew (bgo B0.out hb) (.cells #[.int .i64 3, .int .i64 5] 3))
  clear hg hs hb SA0 SB0 B0
  go_wp2_with fail
  with_reducible refine (rsame13 A1 _ m1 c1 2 2 [3, 5] _ S1.out L1.out).mono ?_
  rintro e u1 ⟨rfl, hd⟩
  have SA1b := hide (SA1.out.below (hd.below _))
  have SB1b := hide (SB1.out.below (hd.below _))
  have B1b := hide (B1.out.trans (hd.below _))
  clear hd S1 L1 SA1 SB1 B1
  go_wp2_with fail
  with_reducible refine (CC.out.union _ _ 3 3 3 3 [1, 3, 5] [5, 3, 3] _ SA1b.out SB1b.out (by decide) (by decide)).mono ?_
  rw [ex_or]
  intro e v2 hg
  obtain ⟨A2, m2, c2, rfl, -, hs, hb⟩ := hg.sl
  have S2 := hide (hs.below (bnew (Below.refl _ v2) (.cells #[.int .i64 1, .int .i64 3, .int .i64 5] 3)))
  have L2 := hide (litI v2 _ rfl #[.int .i64 1, .int .i64 3, .int .i64 5] [1, 3, 5] 3 rfl rfl (by decide))
  have SA2 := hide ((SA1b.out.below hb).below (bnew (Below.refl _ v2) (.cells #[.int .i64 1, .int .i64 3, .int .i64 5] 3)))
  have SB2 := hide ((SB1b.out.below hb).below (bnew (Below.refl _ v2) (.cells #[.int .i64 1, .int .i64 3, .int .i64 5] 3)))
  have B2 := hide (bnew (bgo B1b.out hb) (.cells #[.int .i64 1, .int .i64 3, .int .i64 5] 3))
  clear hg hs hb SA1b SB1b B1b
  go_wp2_with fail
  with_reducible refine (rsame13 A2 _ m2 c2 3 3 [1, 3, 5] _ S2.out L2.out).mono ?_
  rintro e u2 ⟨rfl, hd⟩
  have SA2b := hide (SA2.out.below (hd.below _))
  have SB2b := hide (SB2.out.below (hd.below _))
  have B2b := hide (B2.out.trans (hd.below _))
  clear hd S2 L2 SA2 SB2 B2
  go_wp2_with fail
  with_reducible refine (CC.out.minus _ _ 3 3 3 3 [1, 3, 5] [5, 3, 3] _ SA2b.out SB2b.out (by decide) (by decide)).mono ?_
  rw [ex_minus]
  intro e v3 hg
  obtain ⟨A3, m3, c3, rfl, -, hs, hb⟩ := hg.sl
  have S3 := hide (hs.below (bnew (Below.refl _ v3) (.cells #[.int .i64 1] 3)))
  have L3 := hide (litI v3 _ rfl #[.int .i64 1] [1] 1 rfl rfl (by decide))
  have SA3 := hide ((SA2b.out.below hb).below (bnew (Below.refl _ v3) (.cells #[.int .i64 1] 3)))
  have SB3 := hide ((SB2b.out.below hb).below (bnew (Below.refl _ v3) (.cells #[.int .i64 1] 3)))
  have B3 := hide (bnew (bgo B2b.out hb) (.cells #[.int .i64 1] 3))
  clear hg hs hb SA2b SB2b B2b
  go_wp2_with fail
  with_reducible refine (rsame13 A3 _ m3 c3 1 1 [1] _ S3.out L3.out).mono ?_
  rintro e u3 ⟨rfl, hd⟩
  have SA3b := hide (SA3.out.below (hd.below _))
  have SB3b := hide (SB3.out.below (hd.below _))
  have B3b := hide (B3.out.trans (hd.below _))
  clear hd S3 L3 SA3 SB3 B3
  clear SA3b SB3b
  have R4 := hide (rows3 u3 _ rfl)
  have B4 := hide (bnew (bnew (bnew (bnew B3b.out (.cells #[.int .i64 1, .int .i64 2] 3)) (.cells #[.int .i64 2, .int .i64 2] 3)) (.cells #[.int .i64 1] 3)) (.cells #[.slice (some ⟨u3.heap.size, 0, none⟩) 2 2, .slice (some ⟨u3.heap.size + 1, 0, none⟩) 2 2, .slice (some ⟨u3.heap.size + 2, 0, none⟩) 1 1] 22))
  clear B3b
  go_wp2_with fail
  with_reducible refine (CC.out.least _ 3 3 [[1, 2], [2, 2], [1]] 2 _ R4.out (by decide) (by decide) (by decide)).mono ?_
  rw [ex_least]
  intro e v5 hg
  obtain ⟨A5, m5, c5, rfl, -, hs, hb⟩ := hg.sl
  have S5 := hide (hs.below (bnew (Below.refl _ v5) (.cells #[.int .i64 1, .int .i64 2] 3)))
  have L5 := hide (litI v5 _ rfl #[.int .i64 1, .int .i64 2] [1, 2] 2 rfl rfl (by decide))
  have B5 := hide (bnew (bgo B4.out hb) (.cells #[.int .i64 1, .int .i64 2] 3))
  clear hg hs hb R4 B4
  go_wp2_with fail
  with_reducible refine (rsame13 A5 _ m5 c5 2 2 [1, 2] _ S5.out L5.out).mono ?_
  rintro e u5 ⟨rfl, hd⟩
  have B5b := hide (B5.out.trans (hd.below _))
  clear hd S5 L5 B5
  have L6 := hide (litI u5 _ rfl #[.int .i64 5, .int .i64 300] [5, 300] 2 rfl rfl (by decide))
  have B6 := hide (bnew B5b.out (.cells #[.int .i64 5, .int .i64 300] 3))
  clear B5b
  go_wp2_with fail
  with_reducible refine (CC.out.pack _ 2 2 [5, 300] _ L6.out (by decide)).mono ?_
  rw [ex_packR]
  intro e v7 hg
  obtain ⟨A7, m7, c7, rfl, hm7, hs, hb⟩ := hg.sl
  have hm7' : m7 = 8 := hm7
  subst hm7'
  have S7 := hide (show Sl v7 A7 8 c7 (byteCells [2, 172, 2, 4, 2, 5, 167, 2]) from hs)
  have B7 := hide (bnew (bgo B6.out hb) (.cells #[.int .u8 2, .int .u8 172, .int .u8 2, .int .u8 4, .int .u8 2, .int .u8 5, .int .u8 167, .int .u8 2] 5))
  have S7b := hide (S7.out.below (bnew (Below.refl _ v7) (.cells #[.int .u8 2, .int .u8 172, .int .u8 2, .int .u8 4, .int .u8 2, .int .u8 5, .int .u8 167, .int .u8 2] 5)))
  have L7 := hide (lit_sl v7 #[.int .u8 2, .int .u8 172, .int .u8 2, .int .u8 4, .int .u8 2, .int .u8 5, .int .u8 167, .int .u8 2] 5 (byteCells [2, 172, 2, 4, 2, 5, 167, 2]) 8 rfl rfl (by decide))
  have hbb : (([2, 172, 2, 4, 2, 5, 167, 2] : List UInt8) == [2, 172, 2, 4, 2, 5, 167, 2]) = true := by decide
  clear hg hs hb hm7 B6 L6 S7
  go_wp2_with fail
  with_reducible refine (sameb24 A7 _ 8 c7 8 8 [2, 172, 2, 4, 2, 5, 167, 2] [2, 172, 2, 4, 2, 5, 167, 2] _ S7b.out L7.out).mono ?_
  rintro e u7 ⟨rfl, rfl⟩
  rw [hbb]
  clear L7
  go_wp2_with fail
  with_reducible refine (CC.out.unpack A7 8 c7 [2, 172, 2, 4, 2, 5, 167, 2] _ S7b.out (by decide)).mono ?_
  rw [ex_unpR]
  intro e v8 hg
  obtain ⟨A8, m8, c8, rfl, hm8, hs, hb⟩ := hg.sl
  have S8 := hide (show Sl v8 A8 m8 c8 (numCells [5, 300]) from hs)
  have hm8' : m8 = 2 := hm8
  have hm8b : m8 ≤ 100000 := by omega
  have S78 := hide (S7b.out.below hb)
  have B8 := hide (bgo B7.out hb)
  clear hg hs hb hm8 hm8' S7b B7
  go_wp2_with fail
  with_reducible refine (CC.out.seek A7 8 c7 [2, 172, 2, 4, 2, 5, 167, 2] 6 _ S78.out (by decide)).mono ?_
  rw [ex_seek6]
  rintro e v9 ⟨rfl, hb⟩
  have S9 := hide (S8.out.below hb)
  have S79 := hide (S78.out.below hb)
  have B9 := hide (bgo B8.out hb)
  clear hb S8 S78 B8
  go_wp2_with fail
  with_reducible refine (CC.out.seek A7 8 c7 [2, 172, 2, 4, 2, 5, 167, 2] 301 _ S79.out (by decide)).mono ?_
  rw [ex_seek301]
  rintro e v10 ⟨rfl, hb⟩
  have S10 := hide ((S9.out.below hb).below (bnew (Below.refl _ v10) (.cells #[.int .i64 5, .int .i64 300] 3)))
  have L10 := hide (litI v10 _ rfl #[.int .i64 5, .int .i64 300] [5, 300] 2 rfl rfl (by decide))
  have B10 := hide (bnew (bgo B9.out hb) (.cells #[.int .i64 5, .int .i64 300] 3))
  clear hb S9 S79 B9
  go_wp2_with fail
  with_reducible refine (rsame13 A8 _ m8 c8 2 2 [5, 300] _ S10.out L10.out).mono ?_
  rintro e v11 ⟨rfl, hd⟩
  have S11 := hide (S10.out.below (hd.below _))
  have B11 := hide (B10.out.trans (hd.below _))
  have hmem : (valP [5, 300] && decide ((5 : Int) ∈ [5, 300])) = true := by decide
  clear hd S10 L10 B10
  go_wp2_with fail
  with_reducible refine (CC.out.has A8 m8 c8 [5, 300] 5 _ S11.out (by omega)).mono ?_
  rw [hmem]
  rintro e v12 ⟨rfl, hb⟩
  have B12 := hide (bgo B11.out hb)
  clear hb
  go_wp2
  go_ret
  exact ⟨rfl, B12.out⟩

end Go.Proofs.Ytfljmnjcoagbmaa
