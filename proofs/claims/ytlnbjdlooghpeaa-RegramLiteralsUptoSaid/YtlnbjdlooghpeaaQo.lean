/- Layer 10: the laws of Of, Right and Eval, Simplify and Same over what they ask of the program. -/
import Derived.Test.YtlnbjdlooghpeaaQn
namespace Go.Proofs.Ytlnbjdlooghpeaa
open Go.RowKit

set_option maxRecDepth 100000 in
set_option maxHeartbeats 6400000 in
theorem law5 (A0 : AliveC) (C : Cs) {ok : Nat → Prop} {v : Value} {r : Nd} (hsz : sizeN r ≤ 1000000) (cs : List Int) (hcs : cs.length ≤ 2000000) (hwf : WfL cs) (A : Option Addr) (n c : Nat) (w : World) (hv : NdV w ok v r) (hsl : Sl w A n c (numCells cs)) :
    Calls Try.prog 4 #[v, .slice A n c] w fun e w' => e = .returned (.bool true) ∧ Below w.heap.size w w' := by
  obtain ⟨nk, ng, nB, nm, nd, rfl, -⟩ := ndv_shape hv
  have hb1 := bel_alloc w (.cells #[.int .i64 nk, .int .i64 ng, .slice nB nm nd] 35)
  have F := hide (tri3_new w (.int .i64 nk) (.int .i64 ng) (.slice nB nm nd) 35)
  have V := hide (hv.kept hb1)
  have S1 := hide (hsl.below hb1)
  have B1 := hide hb1
  have hn1 := hsl.nlen
  have hnc := hsl.1
  have hcc := hsl.2.1
  have hn6 : n ≤ 2000000 := by omega
  have HA := hide (A0 (w.alloc (.cells #[.int .i64 nk, .int .i64 ng, .slice nB nm nd] 35)))
  obtain ⟨z, hz⟩ : ∃ z, ndR 200 r = z := ⟨_, rfl⟩
  have hzb : z ≤ 1000000 := by rw [← hz]; have := (nd_ok r 200).2; omega
  obtain ⟨q1, hq1⟩ : ∃ q1, rightN 1 r = q1 := ⟨_, rfl⟩
  obtain ⟨q2, hq2⟩ : ∃ q2, evalS r cs = q2 := ⟨_, rfl⟩
  have HSz := hide (fun (W : World) (h : NdV W ok (.agg #[.int .i64 nk, .int .i64 ng, .slice nB nm nd]) r) => (show Calls Try.prog 13 #[.agg #[.int .i64 nk, .int .i64 ng, .slice nB nm nd], .int .i64 200] W fun e w' => e = .returned (.int .i64 (z : Int)) ∧ Below W.heap.size W w' from by rw [← hz]; exact rnodes r W ok _ 200 h (by omega) (by omega)))
  have HRp := hide (fun (W : World) (h : NdV W ok (.agg #[.int .i64 nk, .int .i64 ng, .slice nB nm nd]) r) => C.right h hsz q1 hq1)
  have HRr := hide (fun (W : World) (h : NdV W ok (.agg #[.int .i64 nk, .int .i64 ng, .slice nB nm nd]) r) => rRight h q1 hq1)
  have HEp := hide (fun (W : World) (h : NdV W ok (.agg #[.int .i64 nk, .int .i64 ng, .slice nB nm nd]) r) (hs : Sl W A n c (numCells cs)) => C.eval h hsz hcs hwf hs q2 hq2)
  have HEr := hide (fun (W : World) (h : NdV W ok (.agg #[.int .i64 nk, .int .i64 ng, .slice nB nm nd]) r) (hs : Sl W A n c (numCells cs)) => rEval h (by omega) hs q2 hq2)
  have e1 : (q1 == q1) = true := by simp
  have e2 : (q2 == q2) = true := by simp
  clear hv hb1 A0 C hz hsz hcs hn1 hq1 hq2 hsl
  go_enter Try.func4, Try.ntmps4
  go_wp2_with fail
  with_reducible refine HA.out.mono ?_
  rintro e w1 ⟨rfl, hb⟩
  have F1 := hide (F.out.keep hb)
  have V1 := hide (V.out.kept hb)
  have S11 := hide (S1.out.below hb)
  have B2 := hide (bgo B1.out hb)
  obtain ⟨-, t0, t1, t2⟩ := F1.out
  clear hb HA F V B1 S1
  go_wp2_with fail
  with_reducible refine (HSz.out _ V1.out).mono ?_
  rintro e w2 ⟨rfl, hb⟩
  have F2 := hide (F1.out.keep hb)
  have V2 := hide (V1.out.kept hb)
  have S2 := hide (S11.out.below hb)
  have B3 := hide (bgo B2.out hb)
  obtain ⟨-, t0, t1, t2⟩ := F2.out
  clear hb HSz
  by_cases hbig : 200 < z
  · have hbig' : (200 : Int) < (z : Int) := by omega
    go_wp2
    go_ret
    exact ⟨rfl, B3.out⟩
  have hbig' : ¬ (200 : Int) < (z : Int) := by omega
  by_cases hlong : 60 < n
  · have hlong' : (60 : Int) < (n : Int) := by omega
    go_wp2
    go_ret
    exact ⟨rfl, B3.out⟩
  have hlong' : ¬ (60 : Int) < (n : Int) := by omega
  go_wp2_with fail
  obtain ⟨x, hx⟩ : ∃ x, x = w2 := ⟨_, rfl⟩
  subst hx
  have HK := hide (show ∀ X : World, Below x.heap.size x X → (X.cell? ⟨w.heap.size, 0, none⟩ = some (.int .i64 nk) ∧ X.cell? ⟨w.heap.size, 1, none⟩ = some (.int .i64 ng) ∧ X.cell? ⟨w.heap.size, 2, none⟩ = some (.slice nB nm nd)) ∧ Below x.heap.size x X from fun X hb => by
    obtain ⟨-, q00, q01, q02⟩ := F2.out.keep hb
    exact ⟨⟨q00, q01, q02⟩, hb⟩)
  have HS0 := hide (bel_drew x)
  have HKs := hide (show ∀ X Y : World, (X.cell? ⟨w.heap.size, 0, none⟩ = some (.int .i64 nk) ∧ X.cell? ⟨w.heap.size, 1, none⟩ = some (.int .i64 ng) ∧ X.cell? ⟨w.heap.size, 2, none⟩ = some (.slice nB nm nd)) ∧ Below x.heap.size x X → Below X.heap.size X Y → (Y.cell? ⟨w.heap.size, 0, none⟩ = some (.int .i64 nk) ∧ Y.cell? ⟨w.heap.size, 1, none⟩ = some (.int .i64 ng) ∧ Y.cell? ⟨w.heap.size, 2, none⟩ = some (.slice nB nm nd)) ∧ Below x.heap.size x Y from fun X Y h hb => HK.out Y (bgo h.2 hb))
  have HKb := hide (show ∀ X : World, (X.cell? ⟨w.heap.size, 0, none⟩ = some (.int .i64 nk) ∧ X.cell? ⟨w.heap.size, 1, none⟩ = some (.int .i64 ng) ∧ X.cell? ⟨w.heap.size, 2, none⟩ = some (.slice nB nm nd)) ∧ Below x.heap.size x X → Below x.heap.size x X from fun X h => h.2)
  have HNv := hide (show ∀ X : World, (X.cell? ⟨w.heap.size, 0, none⟩ = some (.int .i64 nk) ∧ X.cell? ⟨w.heap.size, 1, none⟩ = some (.int .i64 ng) ∧ X.cell? ⟨w.heap.size, 2, none⟩ = some (.slice nB nm nd)) ∧ Below x.heap.size x X → NdV X ok (.agg #[.int .i64 nk, .int .i64 ng, .slice nB nm nd]) r from fun X h => V2.out.kept h.2)
  have HCo := hide (show ∀ X : World, (X.cell? ⟨w.heap.size, 0, none⟩ = some (.int .i64 nk) ∧ X.cell? ⟨w.heap.size, 1, none⟩ = some (.int .i64 ng) ∧ X.cell? ⟨w.heap.size, 2, none⟩ = some (.slice nB nm nd)) ∧ Below x.heap.size x X → Sl X A n c (numCells cs) from fun X h => S2.out.below h.2)
  clear t0 t1 t2
  go_region_held3 (fun w' => (w'.cell? ⟨w.heap.size, 0, none⟩ = some (.int .i64 nk) ∧ w'.cell? ⟨w.heap.size, 1, none⟩ = some (.int .i64 ng) ∧ w'.cell? ⟨w.heap.size, 2, none⟩ = some (.slice nB nm nd)) ∧ Below x.heap.size x w')
    (first | exact HK.out _ HS0.out | exact HKs.out _ _ (by assumption) hb4 | assumption)
    (first
      | (go_at_call 14; (with_reducible refine (HRp.out _ (HNv.out _ ?_)).mono ?_); assumption; rintro e w5 ⟨rfl, hb4⟩)
      | (go_at_call 15; (with_reducible refine (HRr.out _ (HNv.out _ ?_)).mono ?_); assumption; rintro e w5 ⟨rfl, hb4⟩)
      | (go_at_call 16; (with_reducible refine (HEp.out _ (HNv.out _ ?_) (HCo.out _ ?_)).mono ?_); assumption; assumption; rintro e w5 ⟨rfl, hb4⟩)
      | (go_at_call 17; (with_reducible refine (HEr.out _ (HNv.out _ ?_) (HCo.out _ ?_)).mono ?_); assumption; assumption; rintro e w5 ⟨rfl, hb4⟩))
  have B5 := hide (bgo B3.out (HKb.out _ (by assumption)))
  clear HK HS0 HKs HKb HNv HCo
  go_wp2
  go_ret
  exact ⟨rfl, B5.out⟩

set_option maxRecDepth 100000 in
set_option maxHeartbeats 6400000 in
theorem law6 (A0 : AliveC) (C : Cs) {ok ok' : Nat → Prop} {v v' : Value} {r r' : Nd} (hsz : sizeN r ≤ 1000000) (hsz' : sizeN r' ≤ 1000000) (w : World) (hv : NdV w ok v r) (hv' : NdV w ok' v' r') :
    Calls Try.prog 5 #[v, v'] w fun e w' => e = .returned (.bool true) ∧ Below w.heap.size w w' := by
  obtain ⟨nk, ng, nB, nm, nd, rfl, -⟩ := ndv_shape hv
  obtain ⟨mk, mg, mB, mm, md, rfl, -⟩ := ndv_shape hv'
  have hb0 := bel_alloc w (.cells #[.int .i64 nk, .int .i64 ng, .slice nB nm nd] 35)
  have hb1 := bnew hb0 (.cells #[.int .i64 mk, .int .i64 mg, .slice mB mm md] 35)
  have hf := (tri3_new w (.int .i64 nk) (.int .i64 ng) (.slice nB nm nd) 35).keep (bel_alloc _ (.cells #[.int .i64 mk, .int .i64 mg, .slice mB mm md] 35))
  have hg := tri3_new (w.alloc (.cells #[.int .i64 nk, .int .i64 ng, .slice nB nm nd] 35)) (.int .i64 mk) (.int .i64 mg) (.slice mB mm md) 35
  rw [show (w.alloc (.cells #[.int .i64 nk, .int .i64 ng, .slice nB nm nd] 35)).heap.size = w.heap.size + 1 by simp] at hg
  have F := hide hf
  have G := hide hg
  have V := hide (hv.kept hb1)
  have U := hide (hv'.kept hb1)
  have B1 := hide hb1
  have HA := hide (A0 ((w.alloc (.cells #[.int .i64 nk, .int .i64 ng, .slice nB nm nd] 35)).alloc (.cells #[.int .i64 mk, .int .i64 mg, .slice mB mm md] 35)))
  obtain ⟨z, hz⟩ : ∃ z, ndR 200 r = z := ⟨_, rfl⟩
  have hzb : z ≤ 1000000 := by rw [← hz]; have := (nd_ok r 200).2; omega
  obtain ⟨z', hz'⟩ : ∃ z', ndR 200 r' = z' := ⟨_, rfl⟩
  have hzb' : z' ≤ 1000000 := by rw [← hz']; have := (nd_ok r' 200).2; omega
  obtain ⟨q, hq⟩ : ∃ q, decide (r = r') = q := ⟨_, rfl⟩
  have hqi : q = true ↔ r = r' := by rw [← hq, decide_eq_true_eq]
  have HSz := hide (fun (W : World) (h : NdV W ok (.agg #[.int .i64 nk, .int .i64 ng, .slice nB nm nd]) r) => (show Calls Try.prog 13 #[.agg #[.int .i64 nk, .int .i64 ng, .slice nB nm nd], .int .i64 200] W fun e w' => e = .returned (.int .i64 (z : Int)) ∧ Below W.heap.size W w' from by rw [← hz]; exact rnodes r W ok _ 200 h (by omega) (by omega)))
  have HSz' := hide (fun (W : World) (h : NdV W ok' (.agg #[.int .i64 mk, .int .i64 mg, .slice mB mm md]) r') => (show Calls Try.prog 13 #[.agg #[.int .i64 mk, .int .i64 mg, .slice mB mm md], .int .i64 200] W fun e w' => e = .returned (.int .i64 (z' : Int)) ∧ Below W.heap.size W w' from by rw [← hz']; exact rnodes r' W ok' _ 200 h (by omega) (by omega)))
  have HPs := hide (fun (W : World) (h : NdV W ok (.agg #[.int .i64 nk, .int .i64 ng, .slice nB nm nd]) r) => C.simp h hsz)
  have HRs := hide (fun (W : World) (h : NdV W ok (.agg #[.int .i64 nk, .int .i64 ng, .slice nB nm nd]) r) => (rSimplify h hsz).mono (R' := GotA W (simplifyS r)) fun e w' h => h.a)
  have HSm := hide (fun (W : World) (u v : Value) (h : NdV W (fun _ => True) u (simplifyS r)) (h' : NdV W (fun _ => True) v (simplifyS r)) => rsame (simplifyS r) W _ _ u v (simplifyS r) h h' true (by simp))
  have HPq := hide (fun (W : World) (h : NdV W ok (.agg #[.int .i64 nk, .int .i64 ng, .slice nB nm nd]) r) (h' : NdV W ok' (.agg #[.int .i64 mk, .int .i64 mg, .slice mB mm md]) r') => C.same h h' hsz q hqi)
  have HRq := hide (fun (W : World) (h : NdV W ok (.agg #[.int .i64 nk, .int .i64 ng, .slice nB nm nd]) r) (h' : NdV W ok' (.agg #[.int .i64 mk, .int .i64 mg, .slice mB mm md]) r') => rsame r W _ _ _ _ r' h h' q hqi)
  have HPt := hide (fun (W : World) (h : NdV W ok (.agg #[.int .i64 nk, .int .i64 ng, .slice nB nm nd]) r) => C.same h h hsz true (by simp))
  have e1 : (q == q) = true := by simp
  clear hv hv' hb0 hb1 hf hg A0 C hz hz' hsz hsz' hq hqi
  go_enter Try.func5, Try.ntmps5
  go_wp2_with fail
  with_reducible refine HA.out.mono ?_
  rintro e w1 ⟨rfl, hb⟩
  have F1 := hide (F.out.keep hb)
  have G1 := hide (G.out.keep hb)
  have V1 := hide (V.out.kept hb)
  have U1 := hide (U.out.kept hb)
  have B2 := hide (bgo B1.out hb)
  obtain ⟨-, t0, t1, t2⟩ := F1.out
  clear hb HA F G V U B1
  go_wp2_with fail
  with_reducible refine (HSz.out _ V1.out).mono ?_
  rintro e w2 ⟨rfl, hb⟩
  have F2 := hide (F1.out.keep hb)
  have G2 := hide (G1.out.keep hb)
  have V2 := hide (V1.out.kept hb)
  have U2 := hide (U1.out.kept hb)
  have B3 := hide (bgo B2.out hb)
  obtain ⟨-, t0, t1, t2⟩ := G2.out
  clear hb HSz
  by_cases hbig : 200 < z
  · have hbig' : (200 : Int) < (z : Int) := by omega
    go_wp2
    go_ret
    exact ⟨rfl, B3.out⟩
  have hbig' : ¬ (200 : Int) < (z : Int) := by omega
  go_wp2_with fail
  with_reducible refine (HSz'.out _ U2.out).mono ?_
  rintro e w3 ⟨rfl, hb⟩
  have F3 := hide (F2.out.keep hb)
  have G3 := hide (G2.out.keep hb)
  have V3 := hide (V2.out.kept hb)
  have U3 := hide (U2.out.kept hb)
  have B4 := hide (bgo B3.out hb)
  clear hb HSz' t0 t1 t2
  by_cases hlong : 200 < z'
  · have hlong' : (200 : Int) < (z' : Int) := by omega
    go_wp2
    go_ret
    exact ⟨rfl, B4.out⟩
  have hlong' : ¬ (200 : Int) < (z' : Int) := by omega
  go_wp2_with fail
  obtain ⟨x, hx⟩ : ∃ x, x = w3 := ⟨_, rfl⟩
  subst hx
  have HK := hide (show ∀ X : World, Below x.heap.size x X → (X.cell? ⟨w.heap.size, 0, none⟩ = some (.int .i64 nk) ∧ X.cell? ⟨w.heap.size, 1, none⟩ = some (.int .i64 ng) ∧ X.cell? ⟨w.heap.size, 2, none⟩ = some (.slice nB nm nd) ∧ X.cell? ⟨(w.heap.size + 1), 0, none⟩ = some (.int .i64 mk) ∧ X.cell? ⟨(w.heap.size + 1), 1, none⟩ = some (.int .i64 mg) ∧ X.cell? ⟨(w.heap.size + 1), 2, none⟩ = some (.slice mB mm md)) ∧ Below x.heap.size x X from fun X hb => by
    obtain ⟨-, q00, q01, q02⟩ := F3.out.keep hb
    obtain ⟨-, q10, q11, q12⟩ := G3.out.keep hb
    exact ⟨⟨q00, q01, q02, q10, q11, q12⟩, hb⟩)
  have HS0 := hide (bel_drew x)
  have HKs := hide (show ∀ X Y : World, (X.cell? ⟨w.heap.size, 0, none⟩ = some (.int .i64 nk) ∧ X.cell? ⟨w.heap.size, 1, none⟩ = some (.int .i64 ng) ∧ X.cell? ⟨w.heap.size, 2, none⟩ = some (.slice nB nm nd) ∧ X.cell? ⟨(w.heap.size + 1), 0, none⟩ = some (.int .i64 mk) ∧ X.cell? ⟨(w.heap.size + 1), 1, none⟩ = some (.int .i64 mg) ∧ X.cell? ⟨(w.heap.size + 1), 2, none⟩ = some (.slice mB mm md)) ∧ Below x.heap.size x X → Below X.heap.size X Y → (Y.cell? ⟨w.heap.size, 0, none⟩ = some (.int .i64 nk) ∧ Y.cell? ⟨w.heap.size, 1, none⟩ = some (.int .i64 ng) ∧ Y.cell? ⟨w.heap.size, 2, none⟩ = some (.slice nB nm nd) ∧ Y.cell? ⟨(w.heap.size + 1), 0, none⟩ = some (.int .i64 mk) ∧ Y.cell? ⟨(w.heap.size + 1), 1, none⟩ = some (.int .i64 mg) ∧ Y.cell? ⟨(w.heap.size + 1), 2, none⟩ = some (.slice mB mm md)) ∧ Below x.heap.size x Y from fun X Y h hb => HK.out Y (bgo h.2 hb))
  have HKb := hide (show ∀ X : World, (X.cell? ⟨w.heap.size, 0, none⟩ = some (.int .i64 nk) ∧ X.cell? ⟨w.heap.size, 1, none⟩ = some (.int .i64 ng) ∧ X.cell? ⟨w.heap.size, 2, none⟩ = some (.slice nB nm nd) ∧ X.cell? ⟨(w.heap.size + 1), 0, none⟩ = some (.int .i64 mk) ∧ X.cell? ⟨(w.heap.size + 1), 1, none⟩ = some (.int .i64 mg) ∧ X.cell? ⟨(w.heap.size + 1), 2, none⟩ = some (.slice mB mm md)) ∧ Below x.heap.size x X → Below x.heap.size x X from fun X h => h.2)
  have HNv := hide (show ∀ X : World, (X.cell? ⟨w.heap.size, 0, none⟩ = some (.int .i64 nk) ∧ X.cell? ⟨w.heap.size, 1, none⟩ = some (.int .i64 ng) ∧ X.cell? ⟨w.heap.size, 2, none⟩ = some (.slice nB nm nd) ∧ X.cell? ⟨(w.heap.size + 1), 0, none⟩ = some (.int .i64 mk) ∧ X.cell? ⟨(w.heap.size + 1), 1, none⟩ = some (.int .i64 mg) ∧ X.cell? ⟨(w.heap.size + 1), 2, none⟩ = some (.slice mB mm md)) ∧ Below x.heap.size x X → NdV X ok (.agg #[.int .i64 nk, .int .i64 ng, .slice nB nm nd]) r from fun X h => V3.out.kept h.2)
  have HMv := hide (show ∀ X : World, (X.cell? ⟨w.heap.size, 0, none⟩ = some (.int .i64 nk) ∧ X.cell? ⟨w.heap.size, 1, none⟩ = some (.int .i64 ng) ∧ X.cell? ⟨w.heap.size, 2, none⟩ = some (.slice nB nm nd) ∧ X.cell? ⟨(w.heap.size + 1), 0, none⟩ = some (.int .i64 mk) ∧ X.cell? ⟨(w.heap.size + 1), 1, none⟩ = some (.int .i64 mg) ∧ X.cell? ⟨(w.heap.size + 1), 2, none⟩ = some (.slice mB mm md)) ∧ Below x.heap.size x X → NdV X ok' (.agg #[.int .i64 mk, .int .i64 mg, .slice mB mm md]) r' from fun X h => U3.out.kept h.2)
  go_region_held3 (fun w' => (w'.cell? ⟨w.heap.size, 0, none⟩ = some (.int .i64 nk) ∧ w'.cell? ⟨w.heap.size, 1, none⟩ = some (.int .i64 ng) ∧ w'.cell? ⟨w.heap.size, 2, none⟩ = some (.slice nB nm nd) ∧ w'.cell? ⟨(w.heap.size + 1), 0, none⟩ = some (.int .i64 mk) ∧ w'.cell? ⟨(w.heap.size + 1), 1, none⟩ = some (.int .i64 mg) ∧ w'.cell? ⟨(w.heap.size + 1), 2, none⟩ = some (.slice mB mm md)) ∧ Below x.heap.size x w')
    (first | exact HK.out _ HS0.out | exact HKs.out _ _ (by assumption) hb4 | assumption)
    (first
      | (go_at_call 19; (with_reducible refine (HPs.out _ (HNv.out _ ?_)).mono ?_); assumption; rintro e w5 ⟨va, rfl, hna, hb4⟩; (try have hnb := hnb.kept hb4))
      | (go_at_call 20; (with_reducible refine (HRs.out _ (HNv.out _ ?_)).mono ?_); assumption; rintro e w5 ⟨vb, rfl, hnb, hb4⟩; (try have hna := hna.kept hb4))
      | (go_at_call 18; (with_reducible refine (HSm.out _ _ _ hna hnb).mono ?_); rintro e w5 ⟨rfl, hb4⟩; clear hna hnb)
      | (go_at_call 18; (with_reducible refine (HRq.out _ (HNv.out _ ?_) (HMv.out _ ?_)).mono ?_); assumption; assumption; rintro e w5 ⟨rfl, hb4⟩)
      | (go_at_call 21; (with_reducible refine (HPq.out _ (HNv.out _ ?_) (HMv.out _ ?_)).mono ?_); assumption; assumption; rintro e w5 ⟨rfl, hb4⟩)
      | (go_at_call 21; (with_reducible refine (HPt.out _ (HNv.out _ ?_)).mono ?_); assumption; rintro e w5 ⟨rfl, hb4⟩))
  have B5 := hide (bgo B4.out (HKb.out _ (by assumption)))
  clear HK HS0 HKs HKb HNv HMv
  go_wp2
  go_ret
  exact ⟨rfl, B5.out⟩
end Go.Proofs.Ytlnbjdlooghpeaa
