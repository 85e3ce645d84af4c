/- Layer 6: the examples walked. -/
import Derived.Test.YtdegppifgcbaeaaT7
namespace Go.Proofs.Ytdegppifgcbaeaa
open Go.RowKit

theorem GotI.cast {w w' : World} {l m : List Int} {e : Ending} (h : GotI w l e w') (hlm : l = m) : GotI w m e w' := by rw [← hlm]; exact h

set_option maxRecDepth 100000 in
set_option maxHeartbeats 6400000 in
theorem alive9 (C : Cs) (w : World) : Calls Try.prog 9 #[] w fun e w' => e = .returned (.bool true) ∧ Below w.heap.size w w' := by
  have CC := hide C
  clear C
  go_enter Try.func9, Try.ntmps9
  go_wp2_with fail
  with_reducible refine (CC.out.of _ _ (by decide)).mono ?_
  rw [ex_of]
  rintro e v1 ⟨A1, n1, c1, rfl, hs, hb⟩
  have S1 := hide (hs.below (bnew (Below.refl _ v1) (.cells #[.int .i64 6382179, .int .i64 6447969, .int .i64 6512994] 3)))
  have L1 := hide (litI v1 #[.int .i64 6382179, .int .i64 6447969, .int .i64 6512994] [6382179, 6447969, 6512994] 3 rfl rfl (by decide))
  have B1 := hide (bnew hb (.cells #[.int .i64 6382179, .int .i64 6447969, .int .i64 6512994] 3))
  clear hs hb
  go_wp2_with fail
  with_reducible refine (rsame14 A1 _ n1 c1 3 3 [6382179, 6447969, 6512994] _ S1.out L1.out).mono ?_
  rintro e u1 ⟨rfl, hd⟩
  have B2 := hide (B1.out.trans (hd.below _))
  clear hd S1 L1 B1
  go_wp2_with fail
  with_reducible refine (CC.out.grams _ _ (by decide)).mono ?_
  rintro e v2 ⟨A2, n2, c2, rfl, hg, hb⟩
  obtain ⟨G, hG⟩ : ∃ G, gramsS (⟨#[120, 65, 66, 67, 97, 98, 99]⟩ : ByteArray).data.toList = G := ⟨_, rfl⟩
  have X1 := ex_at1
  have X2 := ex_at2
  have XL := grams_len (⟨#[120, 65, 66, 67, 97, 98, 99]⟩ : ByteArray).data.toList (by decide)
  rw [hG] at hg X1 X2 XL
  have YL := hide XL
  have G2 := hide hg
  have B3 := hide (bgo B2.out hb)
  have Y1 := hide X1
  have Y2 := hide X2
  clear hG hg hb B2 X1 X2 XL
  go_wp2_with fail
  with_reducible refine (CC.out.code _ _ (by decide)).mono ?_
  rw [ex_code]
  rintro e v3 ⟨rfl, hb⟩
  have G3 := hide (G2.out.below hb)
  have B4 := hide (bgo B3.out hb)
  clear hb B3 G2
  go_wp2_with fail
  with_reducible refine (CC.out.str 6382179 _ (by decide)).mono ?_
  rw [ex_str, show strOk 6382179 = true from by decide]
  rintro e v4 ⟨rfl, hb⟩
  have G4 := hide (G3.out.below hb)
  have B5 := hide (bgo B4.out hb)
  clear hb B4 G3
  go_wp2_with fail
  with_reducible refine (CC.out.code _ _ (by decide)).mono ?_
  rintro e v5 ⟨rfl, hb⟩
  have G5 := hide (G4.out.below hb)
  have B6 := hide (bgo B5.out hb)
  clear hb B5 G4
  go_wp2_with fail
  with_reducible refine (CC.out.str 16777216 _ (by decide)).mono ?_
  rw [show strOk 16777216 = false from by decide]
  rintro e v6 ⟨rfl, hb⟩
  have G6 := hide (G5.out.below hb)
  have B7 := hide (bgo B6.out hb)
  clear hb B6 G5
  go_wp2_with fail
  with_reducible refine (CC.out.at_ A2 n2 c2 G 6382179 _ G6.out YL.out).mono ?_
  rw [Y1.out]
  rintro e v7 ⟨A7, n7, c7, rfl, hs, hb⟩
  have S7 := hide (hs.below (bnew (Below.refl _ v7) (.cells #[.int .i64 1, .int .i64 4] 3)))
  have L7 := hide (litI v7 #[.int .i64 1, .int .i64 4] [1, 4] 2 rfl rfl (by decide))
  have B8 := hide (bnew (bgo B7.out hb) (.cells #[.int .i64 1, .int .i64 4] 3))
  have G7 := hide ((G6.out.below hb).below (bnew (Below.refl _ v7) (.cells #[.int .i64 1, .int .i64 4] 3)))
  clear hs hb B7 G6
  go_wp2_with fail
  with_reducible refine (rsame14 A7 _ n7 c7 2 2 [1, 4] _ S7.out L7.out).mono ?_
  rintro e u8 ⟨rfl, hd⟩
  have G8 := hide (G7.out.below (hd.below _))
  have B9 := hide (B8.out.trans (hd.below _))
  clear hd S7 L7 B8 G7
  go_wp2_with fail
  with_reducible refine (CC.out.at_ A2 n2 c2 G 6447969 _ G8.out YL.out).mono ?_
  rw [Y2.out]
  rintro e v9 ⟨A9, n9, c9, rfl, hs, hb⟩
  have S9 := hide (hs.below (bnew (Below.refl _ v9) (.cells #[.int .i64 2] 3)))
  have L9 := hide (litI v9 #[.int .i64 2] [2] 1 rfl rfl (by decide))
  have B10 := hide (bnew (bgo B9.out hb) (.cells #[.int .i64 2] 3))
  clear hs hb B9 G8
  go_wp2_with fail
  with_reducible refine (rsame14 A9 _ n9 c9 1 1 [2] _ S9.out L9.out).mono ?_
  rintro e u9 ⟨rfl, hd⟩
  have B11 := hide (B10.out.trans (hd.below _))
  clear hd S9 L9 B10
  go_wp2_with fail
  with_reducible refine (CC.out.grams _ _ (by decide)).mono ?_
  rintro e v10 ⟨A10, n10, c10, rfl, hg, hb⟩
  have G10 := hide hg
  have B12 := hide (bgo B11.out hb)
  clear hg hb B11
  go_wp2_with fail
  with_reducible refine (CC.out.at_ A10 n10 c10 _ 6381921 _ G10.out (grams_len _ (by decide))).mono ?_
  rw [ex_at3]
  rintro e v11 ⟨A11, n11, c11, rfl, hs, hb⟩
  have S11 := hide (hs.below (bnew (Below.refl _ v11) (.cells #[.int .i64 0, .int .i64 1] 3)))
  have L11 := hide (litI v11 #[.int .i64 0, .int .i64 1] [0, 1] 2 rfl rfl (by decide))
  have B13 := hide (bnew (bgo B12.out hb) (.cells #[.int .i64 0, .int .i64 1] 3))
  clear hs hb B12 G10
  go_wp2_with fail
  with_reducible refine (rsame14 A11 _ n11 c11 2 2 [0, 1] _ S11.out L11.out).mono ?_
  rintro e u11 ⟨rfl, hd⟩
  have B14 := hide (B13.out.trans (hd.below _))
  clear hd S11 L11 B13
  go_wp2
  go_ret
  exact ⟨rfl, B14.out⟩

set_option maxRecDepth 20000 in
set_option maxHeartbeats 1600000 in
theorem law3 (C : Cs) (s : ByteArray) (c : Int) (w : World) (hs : s.size ≤ 9223372036854775807) (hc : -9223372036854775808 ≤ c ∧ c ≤ 9223372036854775807) :
    Calls Try.prog 3 #[.string s, .int .i64 c] w fun e w' => e = .returned (.bool true) ∧ Below w.heap.size w w' := by
  have CC := hide C
  clear C
  obtain ⟨x, hx⟩ : ∃ x, codeS s.data.toList = x := ⟨_, rfl⟩
  obtain ⟨b, hb⟩ : ∃ b, decide (s.size = 3) = b := ⟨_, rfl⟩
  obtain ⟨t, ht⟩ : ∃ t, strA c = t := ⟨_, rfl⟩
  obtain ⟨o, ho⟩ : ∃ o, strOk c = o := ⟨_, rfl⟩
  have HX := hide hx
  have HB := hide hb
  have HT := hide ht
  have HO := hide ho
  clear hx hb ht ho
  go_enter Try.func3, Try.ntmps3
  go_wp2_with fail
  refine (alive9 CC.out _).mono ?_
  rintro e w1 ⟨rfl, h1⟩
  have B1 := hide h1
  clear h1
  go_wp2_with fail
  with_reducible refine (CC.out.code s _ hs).mono ?_
  rw [HX.out, HB.out]
  rintro e w2 ⟨rfl, h1⟩
  have B2 := hide (bgo B1.out h1)
  clear h1 B1
  go_wp2_with fail
  with_reducible refine (rcode11 s _ hs).mono ?_
  rw [HX.out, HB.out]
  rintro e w3 ⟨rfl, h1⟩
  have B3 := hide (B2.out.trans (h1.below _))
  clear h1 B2
  go_wp2_with fail
  with_reducible refine (CC.out.str c _ hc).mono ?_
  rw [HT.out, HO.out]
  rintro e w4 ⟨rfl, h1⟩
  have B4 := hide (bgo B3.out h1)
  clear h1 B3
  go_wp2_with fail
  with_reducible refine (rstr13 c _ hc).mono ?_
  rw [HT.out, HO.out]
  rintro e w5 ⟨rfl, h1⟩
  have B5 := hide (bgo B4.out h1)
  clear h1 B4
  go_wp2
  go_ret
  exact ⟨by simp, B5.out⟩

set_option maxRecDepth 20000 in
set_option maxHeartbeats 1600000 in
theorem law4 (C : Cs) (s : ByteArray) (w : World) (hs : s.size ≤ 9223372036854775807) :
    Calls Try.prog 4 #[.string s] w fun e w' => e = .returned (.bool true) ∧ Below w.heap.size w w' := by
  have CC := hide C
  clear C
  go_enter Try.func4, Try.ntmps4
  go_wp2_with fail
  refine (alive9 CC.out _).mono ?_
  rintro e w1 ⟨rfl, h1⟩
  have B1 := hide h1
  clear h1
  by_cases hlt : 2000 < s.size
  · go_wp2
    go_ret
    exact ⟨rfl, B1.out⟩
  · obtain ⟨L, hL⟩ : ∃ L, ofS s.data.toList = L := ⟨_, rfl⟩
    obtain ⟨G, hG⟩ : ∃ G, gramsS s.data.toList = G := ⟨_, rfl⟩
    have HL := hide hL
    have HG := hide hG
    clear hL hG
    go_wp2_with fail
    with_reducible refine (CC.out.of s _ (by omega)).mono ?_
    rw [HL.out]
    rintro e w2 ⟨A1, n1, c1, rfl, h2, h1⟩
    have B2 := hide (bgo B1.out h1)
    have S2 := hide h2
    clear h1 h2 B1
    go_wp2_with fail
    with_reducible refine (rof16 s _ (by omega)).mono ?_
    rw [HL.out]
    rintro e w3 ⟨A2, n2, c2, rfl, h2, h1⟩
    have B3 := hide (bgo B2.out h1)
    have S3 := hide (S2.out.below h1)
    have T3 := hide h2
    clear h1 h2 B2 S2
    go_wp2_with fail
    with_reducible refine (rsame14 A1 A2 n1 c1 n2 c2 L _ S3.out T3.out).mono ?_
    rintro e w4 ⟨rfl, h1⟩
    have B4 := hide (B3.out.trans (h1.below _))
    clear h1 B3 S3 T3
    go_wp2_with fail
    with_reducible refine (CC.out.grams s _ (by omega)).mono ?_
    rw [HG.out]
    rintro e w5 ⟨A3, n3, c3, rfl, h2, h1⟩
    have B5 := hide (bgo B4.out h1)
    have S5 := hide h2
    clear h1 h2 B4
    go_wp2_with fail
    with_reducible refine (rgrams19 s _ (by omega)).mono ?_
    rw [HG.out]
    rintro e w6 ⟨A4, n4, c4, rfl, h2, h1⟩
    have B6 := hide (bgo B5.out h1)
    have S6 := hide (S5.out.below h1)
    have T6 := hide h2
    clear h1 h2 B5 S5
    go_wp2_with fail
    with_reducible refine (rsameG17 A3 A4 n3 c3 n4 c4 G _ S6.out T6.out).mono ?_
    rintro e w7 ⟨rfl, h1⟩
    have B7 := hide (B6.out.trans (h1.below _))
    clear h1 B6 S6 T6
    go_wp2
    go_ret
    exact ⟨rfl, B7.out⟩

set_option maxRecDepth 20000 in
set_option maxHeartbeats 1600000 in
theorem law5 (C : Cs) (A : Option Addr) (n c : Nat) (gs : List (Int × List Int)) (code : Int) (w : World) (h : GrS w A n c gs) (hbk : ∀ g ∈ gs, g.2.length ≤ 17592186044416) :
    Calls Try.prog 5 #[.slice A n c, .int .i64 code] w fun e w' => e = .returned (.bool true) ∧ Below w.heap.size w w' := by
  have CC := hide C
  have H := hide h
  clear C h
  obtain ⟨L, hL⟩ : ∃ L, atS gs code = L := ⟨_, rfl⟩
  have HL := hide hL
  clear hL
  go_enter Try.func5, Try.ntmps5
  go_wp2_with fail
  refine (alive9 CC.out _).mono ?_
  rintro e w1 ⟨rfl, h1⟩
  have B1 := hide h1
  have H1 := hide (H.out.below h1)
  clear h1
  go_wp2_with fail
  with_reducible refine (CC.out.at_ A n c gs code _ H1.out hbk).mono ?_
  rw [HL.out]
  rintro e w2 ⟨A1, n1, c1, rfl, h2, h1⟩
  have B2 := hide (bgo B1.out h1)
  have S2 := hide h2
  have H2 := hide (H1.out.below h1)
  clear h1 h2 B1 H1
  go_wp2_with fail
  with_reducible refine (rat21 A n c gs code _ H2.out).mono ?_
  rw [HL.out]
  rintro e w3 ⟨A2, n2, c2, rfl, h2, rfl⟩
  have T2 := hide h2
  clear h2
  go_wp2_with fail
  with_reducible refine (rsame14 A1 A2 n1 c1 n2 c2 L _ S2.out T2.out).mono ?_
  rintro e w4 ⟨rfl, h1⟩
  have B4 := hide (B2.out.trans (h1.below _))
  clear h1 B2 S2 T2
  go_wp2
  go_ret
  exact ⟨rfl, B4.out⟩

end Go.Proofs.Ytdegppifgcbaeaa
