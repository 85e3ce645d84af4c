/- Layer 10: walks of the reference: Of, Simplify. -/
import Derived.Test.YtlnbjdlooghpeaaGreatQl
namespace Go.Proofs.YtlnbjdlooghpeaaGreat
open Go.RowKit

set_option maxRecDepth 100000 in
set_option maxHeartbeats 6400000 in
theorem rOf {W : World} {ok : Nat → Prop} {v : Value} {r : Rx} (hv : RxV W ok v r) (h1 : sizeR r ≤ 1000000) (h2 : depthR r ≤ 1000000) : Calls Tryz.prog 8 #[v] W (GotN W (needS r)) := by
  obtain ⟨k, a, b, A, B, n, c, m, d, rfl⟩ := rxv_shape hv
  obtain ⟨h0, hh0⟩ : ∃ h0, W.heap.size = h0 := ⟨_, rfl⟩
  have hf0 := (five_new W (.int .i64 k) (.slice A n c) (.int .i64 a) (.int .i64 b) (.slice B m d) 25).keep (bel_alloc _ (.cells #[.int .i64 0, .int .i64 0, .slice none 0 0] 31))
  have hf1 := triF_new (W.alloc (.cells #[.int .i64 k, .slice A n c, .int .i64 a, .int .i64 b, .slice B m d] 25)) (.int .i64 0) (.int .i64 0) (.slice none 0 0) 31
  have hbb := bnew (bel_alloc W (.cells #[.int .i64 k, .slice A n c, .int .i64 a, .int .i64 b, .slice B m d] 25)) (.cells #[.int .i64 0, .int .i64 0, .slice none 0 0] 31)
  have hsz1 : (W.alloc (.cells #[.int .i64 k, .slice A n c, .int .i64 a, .int .i64 b, .slice B m d] 25)).heap.size = h0 + 1 := by simp [hh0]
  have hsz2 : ((W.alloc (.cells #[.int .i64 k, .slice A n c, .int .i64 a, .int .i64 b, .slice B m d] 25)).alloc (.cells #[.int .i64 0, .int .i64 0, .slice none 0 0] 31)).heap.size = h0 + 2 := by simp [hh0]
  rw [hsz1] at hf1
  rw [hh0] at hf0
  have hV := hv.kept hbb
  obtain ⟨w1, hw1⟩ : ∃ w1, (W.alloc (.cells #[.int .i64 k, .slice A n c, .int .i64 a, .int .i64 b, .slice B m d] 25)).alloc (.cells #[.int .i64 0, .int .i64 0, .slice none 0 0] 31) = w1 := ⟨_, rfl⟩
  rw [hw1] at hf1 hf0 hbb hsz2 hV
  obtain ⟨q, hq⟩ : ∃ q, rightR r = q := ⟨_, rfl⟩
  have HR := hide (show Calls Tryz.prog 20 #[.agg #[.int .i64 k, .slice A n c, .int .i64 a, .int .i64 b, .slice B m d]] w1 fun e w' => e = .returned (.int .i64 q) ∧ Below w1.heap.size w1 w' from hq ▸ rright24 hV h1 h2)
  have HV := hide hV
  have F0 := hide hf0
  have F1 := hide hf1
  have BB := hide hbb
  have Hh0 := hide hh0
  have Hw1 := hide hw1
  have hs1 : h0 + 2 ≤ w1.heap.size := by omega
  clear hv hV hf0 hf1 hbb hsz1 hsz2 hw1 hh0
  obtain ⟨-, t0, t1, t2, t3, t4⟩ := F0.out
  by_cases hq0 : q = 0
  case neg =>
    have hq0' : (q != 0) = true := int_ne hq0
    have HO := hide (show needS r = .mk 1 0 [] by unfold needS; rw [if_neg (by rw [hq]; exact hq0)])
    clear hq hq0
    go_enter Tryz.func8, Tryz.ntmps8
    go_upto_region 1 with fail
    rw [Hw1.out, Hh0.out]
    go_wp2_with fail
    with_reducible refine HR.out.mono ?_
    rintro e w3 ⟨rfl, hb3⟩
    have B3 := hide (bgo BB.out hb3)
    have F3 := hide (F1.out.keep hb3)
    obtain ⟨⟨-, y0, y1, y2⟩, e0, e1, e2⟩ := F3.out
    clear hb3 t0 t1 t2 t3 t4
    go_wp2
    exact bodyPost_ret (res_box rfl _ _ (h0 + 1) _ _ _ rfl (put3_tri F3.out _ _ _)) rfl ⟨_, rfl, by rw [HO.out]; exact ndv_leaf 1 0 (by omega) (by omega), put3_below B3.out (by rw [Hh0.out]; omega)⟩
  have hq0' : (q != 0) = false := int_eq hq0
  have hr0 : rightR r = 0 := hq.trans hq0
  obtain ⟨hn0, hs40, -⟩ := right_node hr0
  have HO := hide (show needS r = simpN (rawR r) by unfold needS; rw [if_pos hr0])
  have hrs : sizeN (rawR r) ≤ 1000000 := by have := raw_size r; omega
  have HC := hide (fun (X : World) (hb : Below w1.heap.size w1 X) => rraw r hn0 h1 X ok _ (HV.out.kept hb))
  clear hq hq0 hr0 hn0 hs40
  go_enter Tryz.func8, Tryz.ntmps8
  go_upto_region 1 with fail
  rw [Hw1.out, Hh0.out]
  go_wp2_with fail
  with_reducible refine HR.out.mono ?_
  rintro e w3 ⟨rfl, hb3⟩
  have B3 := hide (bgo BB.out hb3)
  have F3 := hide (F1.out.keep hb3)
  have hs3 := Nat.le_trans hs1 hb3.size
  obtain ⟨-, s0, s1, s2, s3, s4⟩ := F0.out.keep hb3
  have HC3 := hide (HC.out w3 hb3)
  clear hb3 t0 t1 t2 t3 t4 HC
  go_wp2_with fail
  with_reducible refine HC3.out.mono ?_
  rintro e w4 ⟨v4, rfl, hnd4, hb4⟩
  have HD := hide (rsimple _ _ _ _ hnd4 hrs)
  have B4 := hide (bgo B3.out hb4)
  have F4 := hide (F3.out.keep hb4)
  have hs4 := Nat.le_trans hs3 hb4.size
  obtain ⟨yk, yg, yB, ym, yd, rfl, -, -, -, -⟩ := ndv_shape hnd4
  clear hnd4 hb4 HC3
  go_wp2_with fail
  with_reducible refine HD.out.mono ?_
  rintro e w9 ⟨v9, rfl, hnd9, hb9⟩
  obtain ⟨zk, zg, zB, zm, zd, rfl, -, -, -, -⟩ := ndv_shape hnd9
  have ND9 := hide (show NdV w9 (fun g => h0 + 2 ≤ g) (.agg #[.int .i64 zk, .int .i64 zg, .slice zB zm zd]) _ from hnd9.weak fun g hg => by
    rcases hg with hg | hg
    · exact Nat.le_trans hs3 hg
    · exact Nat.le_trans hs4 hg)
  have B9 := hide (bgo B4.out hb9)
  have F9 := hide (F4.out.keep hb9)
  obtain ⟨⟨-, y0, y1, y2⟩, e0, e1, e2⟩ := F9.out
  clear hnd9 hb9
  go_wp2
  exact bodyPost_ret (res_box rfl _ _ (h0 + 1) _ _ _ rfl (put3_tri F9.out _ _ _)) rfl ⟨_, rfl, by rw [HO.out]; exact put3_ndv ND9.out (by omega) (fun g hg => by rw [Hh0.out]; omega), put3_below B9.out (by rw [Hh0.out]; omega)⟩

end Go.Proofs.YtlnbjdlooghpeaaGreat
