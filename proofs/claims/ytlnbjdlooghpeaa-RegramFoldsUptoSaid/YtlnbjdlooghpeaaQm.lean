/- Layer 10: walks of the reference: Of, Simplify. -/
import Derived.Test.YtlnbjdlooghpeaaQl
namespace Go.Proofs.Ytlnbjdlooghpeaa
open Go.RowKit

set_option maxRecDepth 100000 in
set_option maxHeartbeats 6400000 in
theorem rSimplify {W : World} {ok : Nat → Prop} {v : Value} {r : Nd} (hv : NdV W ok v r) (h1 : sizeN r ≤ 1000000) : Calls Try.prog 20 #[v] W (GotM W ok (simplifyS r)) := by
  have hv0 := hv.old
  obtain ⟨k, g, B, m, d, rfl, -⟩ := ndv_shape hv
  obtain ⟨h0, hh0⟩ : ∃ h0, W.heap.size = h0 := ⟨_, rfl⟩
  have hf0 := (triF_new W (.int .i64 k) (.int .i64 g) (.slice B m d) 35).keep (bel_alloc _ (.cells #[.int .i64 0, .int .i64 0, .slice none 0 0] 35))
  have hf1 := triF_new (W.alloc (.cells #[.int .i64 k, .int .i64 g, .slice B m d] 35)) (.int .i64 0) (.int .i64 0) (.slice none 0 0) 35
  have hbb := bnew (bel_alloc W (.cells #[.int .i64 k, .int .i64 g, .slice B m d] 35)) (.cells #[.int .i64 0, .int .i64 0, .slice none 0 0] 35)
  have hsz1 : (W.alloc (.cells #[.int .i64 k, .int .i64 g, .slice B m d] 35)).heap.size = h0 + 1 := by simp [hh0]
  have hsz2 : ((W.alloc (.cells #[.int .i64 k, .int .i64 g, .slice B m d] 35)).alloc (.cells #[.int .i64 0, .int .i64 0, .slice none 0 0] 35)).heap.size = h0 + 2 := by simp [hh0]
  rw [hsz1] at hf1
  rw [hh0] at hf0
  have hV := hv0.kept hbb
  obtain ⟨w1, hw1⟩ : ∃ w1, (W.alloc (.cells #[.int .i64 k, .int .i64 g, .slice B m d] 35)).alloc (.cells #[.int .i64 0, .int .i64 0, .slice none 0 0] 35) = w1 := ⟨_, rfl⟩
  rw [hw1] at hf1 hf0 hbb hsz2 hV
  obtain ⟨q, hq⟩ : ∃ q, rightN 1 r = q := ⟨_, rfl⟩
  have HR := hide (rRight hV q hq)
  have HV := hide hV
  have F0 := hide hf0
  have F1 := hide hf1
  have BB := hide hbb
  have Hh0 := hide hh0
  have Hw1 := hide hw1
  have hs1 : h0 + 2 ≤ w1.heap.size := by omega
  clear hv hv0 hV hf0 hf1 hbb hsz1 hsz2 hw1 hh0
  obtain ⟨⟨-, t0, t1, t2⟩, -⟩ := F0.out
  cases q with
  | false =>
    have HO := hide (show simplifyS r = .mk 2 0 [] by unfold simplifyS; rw [if_neg (by rw [hq]; simp)])
    clear hq
    go_enter Try.func20, Try.ntmps20
    go_upto_region 1 with fail
    rw [Hw1.out, Hh0.out]
    go_wp2_with fail
    with_reducible refine HR.out.mono ?_
    rintro e w3 ⟨rfl, hb3⟩
    have B3 := hide (bgo BB.out hb3)
    have F3 := hide (F1.out.keep hb3)
    obtain ⟨⟨-, y0, y1, y2⟩, e0, e1, e2⟩ := F3.out
    clear hb3 t0 t1 t2
    go_wp2
    exact bodyPost_ret (res_box rfl _ _ (h0 + 1) _ _ _ rfl (put3_tri F3.out _ _ _)) rfl ⟨_, rfl, by rw [HO.out]; exact ndv_leaf 2 0 (by omega) (by omega), put3_below B3.out (by rw [Hh0.out]; omega)⟩
  | true =>
    have HO := hide (show simplifyS r = simpN r by unfold simplifyS; rw [if_pos hq])
    have HC := hide (fun (X : World) (hb : Below w1.heap.size w1 X) => rsimple r X _ _ (HV.out.kept hb) h1)
    clear hq
    go_enter Try.func20, Try.ntmps20
    go_upto_region 1 with fail
    rw [Hw1.out, Hh0.out]
    go_wp2_with fail
    with_reducible refine HR.out.mono ?_
    rintro e w3 ⟨rfl, hb3⟩
    have B3 := hide (bgo BB.out hb3)
    have F3 := hide (F1.out.keep hb3)
    have hs3 := Nat.le_trans hs1 hb3.size
    obtain ⟨⟨-, s0, s1, s2⟩, -⟩ := F0.out.keep hb3
    have HC3 := hide (HC.out w3 hb3)
    clear hb3 t0 t1 t2 HC
    go_wp2_with fail
    with_reducible refine HC3.out.mono ?_
    rintro e w9 ⟨v9, rfl, hnd9, hb9⟩
    obtain ⟨zk, zg, zB, zm, zd, rfl, -, -, -, -⟩ := ndv_shape hnd9
    have ND9 := hide (show NdV w9 (fun g => (ok g ∧ g < h0) ∨ h0 + 2 ≤ g) (.agg #[.int .i64 zk, .int .i64 zg, .slice zB zm zd]) _ from hnd9.weak fun g hg => by
      rcases hg with hg | hg
      · exact Or.inl (by rw [Hh0.out] at hg; exact hg)
      · exact Or.inr (Nat.le_trans hs3 hg))
    have B9 := hide (bgo B3.out hb9)
    have F9 := hide (F3.out.keep hb9)
    obtain ⟨⟨-, y0, y1, y2⟩, e0, e1, e2⟩ := F9.out
    clear hnd9 hb9
    go_wp2
    exact bodyPost_ret (res_box rfl _ _ (h0 + 1) _ _ _ rfl (put3_tri F9.out _ _ _)) rfl ⟨_, rfl, by rw [HO.out]; exact put3_ndv ND9.out (by omega) (fun g hg => by rw [Hh0.out]; rcases hg with hg | hg; exact Or.inl hg.1; exact Or.inr (by omega)), put3_below B9.out (by rw [Hh0.out]; omega)⟩
end Go.Proofs.Ytlnbjdlooghpeaa
