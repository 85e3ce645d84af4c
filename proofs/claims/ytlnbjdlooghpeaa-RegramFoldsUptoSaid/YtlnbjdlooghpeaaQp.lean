/- Layer 10: the laws of the simplest form and of folded expressions over what they ask of the program. -/
import Derived.Test.YtlnbjdlooghpeaaQo
namespace Go.Proofs.Ytlnbjdlooghpeaa
open Go.RowKit

set_option maxRecDepth 100000 in
set_option maxHeartbeats 6400000 in
theorem law7 (A0 : AliveC) (C : Cs) {ok : Nat → Prop} {v : Value} {r : Nd} (hsz : sizeN r ≤ 1000000) (cs : List Int) (hcs : cs.length ≤ 2000000) (hwf : WfL cs) (A : Option Addr) (n c : Nat) (w : World) (hv : NdV w ok v r) (hsl : Sl w A n c (numCells cs)) :
    Calls Try.prog 6 #[v, .slice A n c] w fun e w' => e = .returned (.bool true) ∧ Below w.heap.size w w' := by
  obtain ⟨nk, ng, nB, nm, nd, rfl, -⟩ := ndv_shape hv
  have hb1 := bel_alloc w (.cells #[.int .i64 nk, .int .i64 ng, .slice nB nm nd] 35)
  have F := hide (tri3_new w (.int .i64 nk) (.int .i64 ng) (.slice nB nm nd) 35)
  have V := hide (hv.kept hb1)
  have S1 := hide (hsl.below hb1)
  have B1 := hide hb1
  have hn1 := hsl.nlen
  have hnc := hsl.1
  have hcc := hsl.2.1
  have hn6 : n ≤ 2000000 := by omega
  have HA := hide (A0 (w.alloc (.cells #[.int .i64 nk, .int .i64 ng, .slice nB nm nd] 35)))
  obtain ⟨z, hz⟩ : ∃ z, ndR 200 r = z := ⟨_, rfl⟩
  have hzb : z ≤ 1000000 := by rw [← hz]; have := (nd_ok r 200).2; omega
  obtain ⟨q2, hq2⟩ : ∃ q2, evalS r cs = q2 := ⟨_, rfl⟩
  have hsx : sizeN (simplifyS r) ≤ 1000000 := Nat.le_trans (simplify_size r) hsz
  have HSz := hide (fun (W : World) (h : NdV W ok (.agg #[.int .i64 nk, .int .i64 ng, .slice nB nm nd]) r) => (show Calls Try.prog 13 #[.agg #[.int .i64 nk, .int .i64 ng, .slice nB nm nd], .int .i64 200] W fun e w' => e = .returned (.int .i64 (z : Int)) ∧ Below W.heap.size W w' from by rw [← hz]; exact rnodes r W ok _ 200 h (by omega) (by omega)))
  have HSi := hide (fun (W : World) (h : NdV W ok (.agg #[.int .i64 nk, .int .i64 ng, .slice nB nm nd]) r) => C.simp h hsz)
  have HRp := hide (fun (W : World) (xk xg : Int) (xB : Option Addr) (xm xd : Nat) (h : NdV W (fun _ => True) (.agg #[.int .i64 xk, .int .i64 xg, .slice xB xm xd]) (simplifyS r)) => C.right h hsx true (simplify_right r))
  have HEx := hide (fun (W : World) (xk xg : Int) (xB : Option Addr) (xm xd : Nat) (h : NdV W (fun _ => True) (.agg #[.int .i64 xk, .int .i64 xg, .slice xB xm xd]) (simplifyS r)) (hs : Sl W A n c (numCells cs)) => C.eval h hsx hcs hwf hs q2 ((simplify_eval r cs).trans hq2))
  have HEn := hide (fun (W : World) (h : NdV W ok (.agg #[.int .i64 nk, .int .i64 ng, .slice nB nm nd]) r) (hs : Sl W A n c (numCells cs)) => C.eval h hsz hcs hwf hs q2 hq2)
  have HSx := hide (fun (W : World) (xk xg : Int) (xB : Option Addr) (xm xd : Nat) (h : NdV W (fun _ => True) (.agg #[.int .i64 xk, .int .i64 xg, .slice xB xm xd]) (simplifyS r)) => (C.simp h hsx).mono (R' := GotA W (simplifyS r)) fun e w' h => by rw [simplify_again] at h; exact h)
  have HSa := hide (fun (W : World) (u : Value) (xk xg : Int) (xB : Option Addr) (xm xd : Nat) (h : NdV W (fun _ => True) u (simplifyS r)) (h' : NdV W (fun _ => True) (.agg #[.int .i64 xk, .int .i64 xg, .slice xB xm xd]) (simplifyS r)) => C.same h h' hsx true (by simp))
  have e2 : (q2 == q2) = true := by simp
  clear hv hb1 A0 C hz hsz hcs hn1 hq2 hsl hsx
  go_enter Try.func6, Try.ntmps6
  go_wp2_with fail
  with_reducible refine HA.out.mono ?_
  rintro e w1 ⟨rfl, hb⟩
  have F1 := hide (F.out.keep hb)
  have V1 := hide (V.out.kept hb)
  have S11 := hide (S1.out.below hb)
  have B2 := hide (bgo B1.out hb)
  obtain ⟨-, t0, t1, t2⟩ := F1.out
  clear hb HA F V B1 S1
  go_wp2_with fail
  with_reducible refine (HSz.out _ V1.out).mono ?_
  rintro e w2 ⟨rfl, hb⟩
  have F2 := hide (F1.out.keep hb)
  have V2 := hide (V1.out.kept hb)
  have S2 := hide (S11.out.below hb)
  have B3 := hide (bgo B2.out hb)
  obtain ⟨-, t0, t1, t2⟩ := F2.out
  clear hb HSz
  by_cases hbig : 200 < z
  · have hbig' : (200 : Int) < (z : Int) := by omega
    go_wp2
    go_ret
    exact ⟨rfl, B3.out⟩
  have hbig' : ¬ (200 : Int) < (z : Int) := by omega
  by_cases hlong : 60 < n
  · have hlong' : (60 : Int) < (n : Int) := by omega
    go_wp2
    go_ret
    exact ⟨rfl, B3.out⟩
  have hlong' : ¬ (60 : Int) < (n : Int) := by omega
  go_wp2_with fail
  with_reducible refine (HSi.out _ V2.out).mono ?_
  rintro e w3 ⟨v3, rfl, hx3, hb⟩
  obtain ⟨xk, xg, xB, xm, xd, rfl, -⟩ := ndv_shape hx3
  have hbx := bel_alloc w3 (.cells #[.int .i64 xk, .int .i64 xg, .slice xB xm xd] 35)
  have hg := tri3_new w3 (.int .i64 xk) (.int .i64 xg) (.slice xB xm xd) 35
  have X4 := hide (hx3.kept hbx)
  have F4 := hide (F2.out.keep (bgo hb hbx))
  have V4 := hide (V2.out.kept (bgo hb hbx))
  have S4 := hide (S2.out.below (bgo hb hbx))
  have B4 := hide (bgo B3.out (bgo hb hbx))
  go_upto_region 6 with fail
  obtain ⟨w4, hw4⟩ : ∃ w4, w3.alloc (.cells #[.int .i64 xk, .int .i64 xg, .slice xB xm xd] 35) = w4 := ⟨_, rfl⟩
  obtain ⟨p5, hp5⟩ : ∃ p5, w3.heap.size = p5 := ⟨_, rfl⟩
  rw [hw4] at hg X4 F4 V4 S4 B4 ⊢
  rw [hp5] at hg ⊢
  have G4 := hide hg
  clear hw4 hp5 hg hx3 hb hbx HSi t0 t1 t2 F1 V1 S11 B2 F2 V2 S2
  obtain ⟨x, hx⟩ : ∃ x, x = w4 := ⟨_, rfl⟩
  subst hx
  have HK := hide (show ∀ X : World, Below x.heap.size x X → (X.cell? ⟨w.heap.size, 0, none⟩ = some (.int .i64 nk) ∧ X.cell? ⟨w.heap.size, 1, none⟩ = some (.int .i64 ng) ∧ X.cell? ⟨w.heap.size, 2, none⟩ = some (.slice nB nm nd) ∧ X.cell? ⟨p5, 0, none⟩ = some (.int .i64 xk) ∧ X.cell? ⟨p5, 1, none⟩ = some (.int .i64 xg) ∧ X.cell? ⟨p5, 2, none⟩ = some (.slice xB xm xd)) ∧ Below x.heap.size x X from fun X hb => by
    obtain ⟨-, q00, q01, q02⟩ := F4.out.keep hb
    obtain ⟨-, q10, q11, q12⟩ := G4.out.keep hb
    exact ⟨⟨q00, q01, q02, q10, q11, q12⟩, hb⟩)
  have HS0 := hide (bel_drew x)
  have HKs := hide (show ∀ X Y : World, (X.cell? ⟨w.heap.size, 0, none⟩ = some (.int .i64 nk) ∧ X.cell? ⟨w.heap.size, 1, none⟩ = some (.int .i64 ng) ∧ X.cell? ⟨w.heap.size, 2, none⟩ = some (.slice nB nm nd) ∧ X.cell? ⟨p5, 0, none⟩ = some (.int .i64 xk) ∧ X.cell? ⟨p5, 1, none⟩ = some (.int .i64 xg) ∧ X.cell? ⟨p5, 2, none⟩ = some (.slice xB xm xd)) ∧ Below x.heap.size x X → Below X.heap.size X Y → (Y.cell? ⟨w.heap.size, 0, none⟩ = some (.int .i64 nk) ∧ Y.cell? ⟨w.heap.size, 1, none⟩ = some (.int .i64 ng) ∧ Y.cell? ⟨w.heap.size, 2, none⟩ = some (.slice nB nm nd) ∧ Y.cell? ⟨p5, 0, none⟩ = some (.int .i64 xk) ∧ Y.cell? ⟨p5, 1, none⟩ = some (.int .i64 xg) ∧ Y.cell? ⟨p5, 2, none⟩ = some (.slice xB xm xd)) ∧ Below x.heap.size x Y from fun X Y h hb => HK.out Y (bgo h.2 hb))
  have HKb := hide (show ∀ X : World, (X.cell? ⟨w.heap.size, 0, none⟩ = some (.int .i64 nk) ∧ X.cell? ⟨w.heap.size, 1, none⟩ = some (.int .i64 ng) ∧ X.cell? ⟨w.heap.size, 2, none⟩ = some (.slice nB nm nd) ∧ X.cell? ⟨p5, 0, none⟩ = some (.int .i64 xk) ∧ X.cell? ⟨p5, 1, none⟩ = some (.int .i64 xg) ∧ X.cell? ⟨p5, 2, none⟩ = some (.slice xB xm xd)) ∧ Below x.heap.size x X → Below x.heap.size x X from fun X h => h.2)
  have HNv := hide (show ∀ X : World, (X.cell? ⟨w.heap.size, 0, none⟩ = some (.int .i64 nk) ∧ X.cell? ⟨w.heap.size, 1, none⟩ = some (.int .i64 ng) ∧ X.cell? ⟨w.heap.size, 2, none⟩ = some (.slice nB nm nd) ∧ X.cell? ⟨p5, 0, none⟩ = some (.int .i64 xk) ∧ X.cell? ⟨p5, 1, none⟩ = some (.int .i64 xg) ∧ X.cell? ⟨p5, 2, none⟩ = some (.slice xB xm xd)) ∧ Below x.heap.size x X → NdV X ok (.agg #[.int .i64 nk, .int .i64 ng, .slice nB nm nd]) r from fun X h => V4.out.kept h.2)
  have HXv := hide (show ∀ X : World, (X.cell? ⟨w.heap.size, 0, none⟩ = some (.int .i64 nk) ∧ X.cell? ⟨w.heap.size, 1, none⟩ = some (.int .i64 ng) ∧ X.cell? ⟨w.heap.size, 2, none⟩ = some (.slice nB nm nd) ∧ X.cell? ⟨p5, 0, none⟩ = some (.int .i64 xk) ∧ X.cell? ⟨p5, 1, none⟩ = some (.int .i64 xg) ∧ X.cell? ⟨p5, 2, none⟩ = some (.slice xB xm xd)) ∧ Below x.heap.size x X → NdV X (fun _ => True) (.agg #[.int .i64 xk, .int .i64 xg, .slice xB xm xd]) (simplifyS r) from fun X h => X4.out.kept h.2)
  have HCo := hide (show ∀ X : World, (X.cell? ⟨w.heap.size, 0, none⟩ = some (.int .i64 nk) ∧ X.cell? ⟨w.heap.size, 1, none⟩ = some (.int .i64 ng) ∧ X.cell? ⟨w.heap.size, 2, none⟩ = some (.slice nB nm nd) ∧ X.cell? ⟨p5, 0, none⟩ = some (.int .i64 xk) ∧ X.cell? ⟨p5, 1, none⟩ = some (.int .i64 xg) ∧ X.cell? ⟨p5, 2, none⟩ = some (.slice xB xm xd)) ∧ Below x.heap.size x X → Sl X A n c (numCells cs) from fun X h => S4.out.below h.2)
  go_region_held3 (fun w' => (w'.cell? ⟨w.heap.size, 0, none⟩ = some (.int .i64 nk) ∧ w'.cell? ⟨w.heap.size, 1, none⟩ = some (.int .i64 ng) ∧ w'.cell? ⟨w.heap.size, 2, none⟩ = some (.slice nB nm nd) ∧ w'.cell? ⟨p5, 0, none⟩ = some (.int .i64 xk) ∧ w'.cell? ⟨p5, 1, none⟩ = some (.int .i64 xg) ∧ w'.cell? ⟨p5, 2, none⟩ = some (.slice xB xm xd)) ∧ Below x.heap.size x w')
    (first | exact HK.out _ HS0.out | exact HKs.out _ _ (by assumption) hb4 | assumption)
    (first
      | (go_at_call 14; (with_reducible refine (HRp.out _ _ _ _ _ _ (HXv.out _ ?_)).mono ?_); assumption; rintro e w5 ⟨rfl, hb4⟩)
      | (go_at_call 16; (with_reducible refine (HEx.out _ _ _ _ _ _ (HXv.out _ ?_) (HCo.out _ ?_)).mono ?_); assumption; assumption; rintro e w5 ⟨rfl, hb4⟩)
      | (go_at_call 16; (with_reducible refine (HEn.out _ (HNv.out _ ?_) (HCo.out _ ?_)).mono ?_); assumption; assumption; rintro e w5 ⟨rfl, hb4⟩)
      | (go_at_call 19; (with_reducible refine (HSx.out _ _ _ _ _ _ (HXv.out _ ?_)).mono ?_); assumption; rintro e w5 ⟨va, rfl, hna, hb4⟩)
      | (go_at_call 21; (with_reducible refine (HSa.out _ _ _ _ _ _ _ hna (HXv.out _ ?_)).mono ?_); assumption; rintro e w5 ⟨rfl, hb4⟩))
  have B5 := hide (bgo B4.out (HKb.out _ (by assumption)))
  clear HK HS0 HKs HKb HNv HXv HCo
  go_wp2
  go_ret
  exact ⟨rfl, B5.out⟩

set_option maxRecDepth 100000 in
set_option maxHeartbeats 6400000 in
theorem law8 (A : AliveC) (C : Cs) {ok : Nat → Prop} {v : Value} {r : Rx} (hsz : weightR r ≤ 1000000) (w : World) (hv : RxV w ok v r) :
    Calls Try.prog 7 #[v] w fun e w' => e = .returned (.bool true) ∧ Below w.heap.size w w' := by
  have hs1 : sizeR r ≤ 1000000 := Nat.le_trans (size_weight r) hsz
  have hd1 : depthR r ≤ 1000000 := Nat.le_trans (depth_le' r) hs1
  obtain ⟨k, a, b, A', B, n', c', m, d, rfl⟩ := rxv_shape hv
  have hb1 := bel_alloc w (.cells #[.int .i64 k, .slice A' n' c', .int .i64 a, .int .i64 b, .slice B m d] 25)
  have F := hide (five_new w (.int .i64 k) (.slice A' n' c') (.int .i64 a) (.int .i64 b) (.slice B m d) 25)
  have V := hide (hv.kept hb1)
  have B1 := hide hb1
  have HA := hide (A (w.alloc (.cells #[.int .i64 k, .slice A' n' c', .int .i64 a, .int .i64 b, .slice B m d] 25)))
  obtain ⟨z, hz⟩ : ∃ z, szR 200 r = z := ⟨_, rfl⟩
  have hzb : z ≤ 1000000 := by rw [← hz]; have := (sz_ok r 200).2; omega
  have HSz := hide (fun (W : World) (h : RxV W ok (.agg #[.int .i64 k, .slice A' n' c', .int .i64 a, .int .i64 b, .slice B m d]) r) => (show Calls Try.prog 9 #[.agg #[.int .i64 k, .slice A' n' c', .int .i64 a, .int .i64 b, .slice B m d], .int .i64 200] W fun e w' => e = .returned (.int .i64 (z : Int)) ∧ Below W.heap.size W w' from by rw [← hz]; exact rsize r W ok _ 200 h (by omega) (by omega)))
  have hns : sizeN (needS r) ≤ 1000000 := by
    unfold needS
    split
    · rename_i h
      have h1 := need_size h
      unfold needS at h1
      rw [if_pos h] at h1
      omega
    · simp [sizeN, sizeNL]
  obtain ⟨q, hq⟩ : ∃ q, rightR r = q := ⟨_, rfl⟩
  have HOp := hide (fun (W : World) (h : RxV W ok (.agg #[.int .i64 k, .slice A' n' c', .int .i64 a, .int .i64 b, .slice B m d]) r) => C.of_ h hs1 hd1)
  have HRp := hide (fun (W : World) (xk xg : Int) (xB : Option Addr) (xm xd : Nat) (h : NdV W (fun _ => True) (.agg #[.int .i64 xk, .int .i64 xg, .slice xB xm xd]) (needS r)) => C.right h hns true (need_right r))
  have HSx := hide (fun (W : World) (xk xg : Int) (xB : Option Addr) (xm xd : Nat) (h : NdV W (fun _ => True) (.agg #[.int .i64 xk, .int .i64 xg, .slice xB xm xd]) (needS r)) => (C.simp h hns).mono (R' := GotA W (needS r)) fun e w' h => by rw [need_own] at h; exact h)
  have HSa := hide (fun (W : World) (u : Value) (xk xg : Int) (xB : Option Addr) (xm xd : Nat) (h : NdV W (fun _ => True) u (needS r)) (h' : NdV W (fun _ => True) (.agg #[.int .i64 xk, .int .i64 xg, .slice xB xm xd]) (needS r)) => C.same h h' hns true (by simp))
  have HRr := hide (fun (W : World) (h : RxV W ok (.agg #[.int .i64 k, .slice A' n' c', .int .i64 a, .int .i64 b, .slice B m d]) r) => (show Calls Try.prog 23 #[.agg #[.int .i64 k, .slice A' n' c', .int .i64 a, .int .i64 b, .slice B m d]] W fun e w' => e = .returned (.int .i64 q) ∧ Below W.heap.size W w' from hq ▸ pright27 h hs1 hd1))
  have HFo := hide (fun (W : World) (h : RxV W ok (.agg #[.int .i64 k, .slice A' n' c', .int .i64 a, .int .i64 b, .slice B m d]) r) (h0 : q = 0) => C.fold h (hq.trans h0))
  have HOf := hide (fun (W : World) (u : Value) (h : RxV W (fun _ => True) u (foldR r)) (h0 : q = 0) => (C.of_ h (by rw [size_fold]; exact hs1) (by rw [depth_fold]; exact hd1)).mono (R' := GotA W (needS r)) fun e w' h => by rw [need_fold (hq.trans h0)] at h; exact h)
  clear hv hb1 A C hz hsz hs1 hd1 hns hq
  go_enter Try.func7, Try.ntmps7
  go_wp2_with fail
  with_reducible refine HA.out.mono ?_
  rintro e w1 ⟨rfl, hb⟩
  have F1 := hide (F.out.keep hb)
  have V1 := hide (V.out.kept hb)
  have B2 := hide (bgo B1.out hb)
  obtain ⟨-, t0, t1, t2, t3, t4⟩ := F1.out
  clear hb HA F V B1
  go_wp2_with fail
  with_reducible refine (HSz.out _ V1.out).mono ?_
  rintro e w2 ⟨rfl, hb⟩
  have F2 := hide (F1.out.keep hb)
  have V2 := hide (V1.out.kept hb)
  have B3 := hide (bgo B2.out hb)
  obtain ⟨-, t0, t1, t2, t3, t4⟩ := F2.out
  clear hb HSz F1 V1 B2
  by_cases hbig : 200 < z
  · have hbig' : (200 : Int) < (z : Int) := by omega
    go_wp2
    go_ret
    exact ⟨rfl, B3.out⟩
  have hbig' : ¬ (200 : Int) < (z : Int) := by omega
  go_wp2_with fail
  with_reducible refine (HOp.out _ V2.out).mono ?_
  rintro e w3 ⟨v3, rfl, hx3, hb⟩
  obtain ⟨xk, xg, xB, xm, xd, rfl, -⟩ := ndv_shape hx3
  have hbx := bel_alloc w3 (.cells #[.int .i64 xk, .int .i64 xg, .slice xB xm xd] 35)
  have hg := tri3_new w3 (.int .i64 xk) (.int .i64 xg) (.slice xB xm xd) 35
  have X4 := hide (hx3.kept hbx)
  have F4 := hide (F2.out.keep (bgo hb hbx))
  have V4 := hide (V2.out.kept (bgo hb hbx))
  have B4 := hide (bgo B3.out (bgo hb hbx))
  go_upto_region 6 with fail
  obtain ⟨w4, hw4⟩ : ∃ w4, w3.alloc (.cells #[.int .i64 xk, .int .i64 xg, .slice xB xm xd] 35) = w4 := ⟨_, rfl⟩
  obtain ⟨p5, hp5⟩ : ∃ p5, w3.heap.size = p5 := ⟨_, rfl⟩
  rw [hw4] at hg X4 F4 V4 B4 ⊢
  rw [hp5] at hg ⊢
  have G4 := hide hg
  clear hw4 hp5 hg hx3 hb hbx t0 t1 t2 t3 t4 F2 V2
  obtain ⟨x, hx⟩ : ∃ x, x = w4 := ⟨_, rfl⟩
  subst hx
  have HK := hide (show ∀ X : World, Below x.heap.size x X → (X.cell? ⟨p5, 0, none⟩ = some (.int .i64 xk) ∧ X.cell? ⟨p5, 1, none⟩ = some (.int .i64 xg) ∧ X.cell? ⟨p5, 2, none⟩ = some (.slice xB xm xd)) ∧ Below x.heap.size x X from fun X hb => by
    obtain ⟨-, q00, q01, q02⟩ := G4.out.keep hb
    exact ⟨⟨q00, q01, q02⟩, hb⟩)
  have HS0 := hide (bel_drew x)
  have HKs := hide (show ∀ X Y : World, (X.cell? ⟨p5, 0, none⟩ = some (.int .i64 xk) ∧ X.cell? ⟨p5, 1, none⟩ = some (.int .i64 xg) ∧ X.cell? ⟨p5, 2, none⟩ = some (.slice xB xm xd)) ∧ Below x.heap.size x X → Below X.heap.size X Y → (Y.cell? ⟨p5, 0, none⟩ = some (.int .i64 xk) ∧ Y.cell? ⟨p5, 1, none⟩ = some (.int .i64 xg) ∧ Y.cell? ⟨p5, 2, none⟩ = some (.slice xB xm xd)) ∧ Below x.heap.size x Y from fun X Y h hb => HK.out Y (bgo h.2 hb))
  have HKb := hide (show ∀ X : World, (X.cell? ⟨p5, 0, none⟩ = some (.int .i64 xk) ∧ X.cell? ⟨p5, 1, none⟩ = some (.int .i64 xg) ∧ X.cell? ⟨p5, 2, none⟩ = some (.slice xB xm xd)) ∧ Below x.heap.size x X → Below x.heap.size x X from fun X h => h.2)
  have HXv := hide (show ∀ X : World, (X.cell? ⟨p5, 0, none⟩ = some (.int .i64 xk) ∧ X.cell? ⟨p5, 1, none⟩ = some (.int .i64 xg) ∧ X.cell? ⟨p5, 2, none⟩ = some (.slice xB xm xd)) ∧ Below x.heap.size x X → NdV X (fun _ => True) (.agg #[.int .i64 xk, .int .i64 xg, .slice xB xm xd]) (needS r) from fun X h => X4.out.kept h.2)
  go_region_held3 (fun w' => (w'.cell? ⟨p5, 0, none⟩ = some (.int .i64 xk) ∧ w'.cell? ⟨p5, 1, none⟩ = some (.int .i64 xg) ∧ w'.cell? ⟨p5, 2, none⟩ = some (.slice xB xm xd)) ∧ Below x.heap.size x w')
    (first | exact HK.out _ HS0.out | exact HKs.out _ _ (by assumption) hb4 | assumption)
    (first
      | (go_at_call 14; (with_reducible refine (HRp.out _ _ _ _ _ _ (HXv.out _ ?_)).mono ?_); assumption; rintro e w5 ⟨rfl, hb4⟩)
      | (go_at_call 19; (with_reducible refine (HSx.out _ _ _ _ _ _ (HXv.out _ ?_)).mono ?_); assumption; rintro e w5 ⟨va, rfl, hna, hb4⟩)
      | (go_at_call 21; (with_reducible refine (HSa.out _ _ _ _ _ _ _ hna (HXv.out _ ?_)).mono ?_); assumption; rintro e w5 ⟨rfl, hb4⟩))
  have hX := HKb.out _ (by assumption)
  have F5 := hide (F4.out.keep hX)
  have G5 := hide (G4.out.keep hX)
  have V5 := hide (V4.out.kept hX)
  have X5 := hide (X4.out.kept hX)
  have B5 := hide (bgo B4.out hX)
  clear HK HS0 HKs HKb HXv hX F4 G4 V4 X4
  by_cases hq0 : q = 0
  · have hq0' : (q != 0) = false := int_eq hq0
    have Hq0 := hide hq0
    clear hq0
    go_wp2_with fail
    obtain ⟨x, hx⟩ : ∃ x, x = w5 := ⟨_, rfl⟩
    subst hx
    have HK := hide (show ∀ X : World, Below x.heap.size x X → (X.cell? ⟨w.heap.size, 0, none⟩ = some (.int .i64 k) ∧ X.cell? ⟨w.heap.size, 1, none⟩ = some (.slice A' n' c') ∧ X.cell? ⟨w.heap.size, 2, none⟩ = some (.int .i64 a) ∧ X.cell? ⟨w.heap.size, 3, none⟩ = some (.int .i64 b) ∧ X.cell? ⟨w.heap.size, 4, none⟩ = some (.slice B m d) ∧ X.cell? ⟨p5, 0, none⟩ = some (.int .i64 xk) ∧ X.cell? ⟨p5, 1, none⟩ = some (.int .i64 xg) ∧ X.cell? ⟨p5, 2, none⟩ = some (.slice xB xm xd)) ∧ Below x.heap.size x X from fun X hb => by
      obtain ⟨-, q00, q01, q02, q03, q04⟩ := F5.out.keep hb
      obtain ⟨-, q10, q11, q12⟩ := G5.out.keep hb
      exact ⟨⟨q00, q01, q02, q03, q04, q10, q11, q12⟩, hb⟩)
    have HS0 := hide (bel_drew x)
    have HKs := hide (show ∀ X Y : World, (X.cell? ⟨w.heap.size, 0, none⟩ = some (.int .i64 k) ∧ X.cell? ⟨w.heap.size, 1, none⟩ = some (.slice A' n' c') ∧ X.cell? ⟨w.heap.size, 2, none⟩ = some (.int .i64 a) ∧ X.cell? ⟨w.heap.size, 3, none⟩ = some (.int .i64 b) ∧ X.cell? ⟨w.heap.size, 4, none⟩ = some (.slice B m d) ∧ X.cell? ⟨p5, 0, none⟩ = some (.int .i64 xk) ∧ X.cell? ⟨p5, 1, none⟩ = some (.int .i64 xg) ∧ X.cell? ⟨p5, 2, none⟩ = some (.slice xB xm xd)) ∧ Below x.heap.size x X → Below X.heap.size X Y → (Y.cell? ⟨w.heap.size, 0, none⟩ = some (.int .i64 k) ∧ Y.cell? ⟨w.heap.size, 1, none⟩ = some (.slice A' n' c') ∧ Y.cell? ⟨w.heap.size, 2, none⟩ = some (.int .i64 a) ∧ Y.cell? ⟨w.heap.size, 3, none⟩ = some (.int .i64 b) ∧ Y.cell? ⟨w.heap.size, 4, none⟩ = some (.slice B m d) ∧ Y.cell? ⟨p5, 0, none⟩ = some (.int .i64 xk) ∧ Y.cell? ⟨p5, 1, none⟩ = some (.int .i64 xg) ∧ Y.cell? ⟨p5, 2, none⟩ = some (.slice xB xm xd)) ∧ Below x.heap.size x Y from fun X Y h hb => HK.out Y (bgo h.2 hb))
    have HKb := hide (show ∀ X : World, (X.cell? ⟨w.heap.size, 0, none⟩ = some (.int .i64 k) ∧ X.cell? ⟨w.heap.size, 1, none⟩ = some (.slice A' n' c') ∧ X.cell? ⟨w.heap.size, 2, none⟩ = some (.int .i64 a) ∧ X.cell? ⟨w.heap.size, 3, none⟩ = some (.int .i64 b) ∧ X.cell? ⟨w.heap.size, 4, none⟩ = some (.slice B m d) ∧ X.cell? ⟨p5, 0, none⟩ = some (.int .i64 xk) ∧ X.cell? ⟨p5, 1, none⟩ = some (.int .i64 xg) ∧ X.cell? ⟨p5, 2, none⟩ = some (.slice xB xm xd)) ∧ Below x.heap.size x X → Below x.heap.size x X from fun X h => h.2)
    have HRv := hide (show ∀ X : World, (X.cell? ⟨w.heap.size, 0, none⟩ = some (.int .i64 k) ∧ X.cell? ⟨w.heap.size, 1, none⟩ = some (.slice A' n' c') ∧ X.cell? ⟨w.heap.size, 2, none⟩ = some (.int .i64 a) ∧ X.cell? ⟨w.heap.size, 3, none⟩ = some (.int .i64 b) ∧ X.cell? ⟨w.heap.size, 4, none⟩ = some (.slice B m d) ∧ X.cell? ⟨p5, 0, none⟩ = some (.int .i64 xk) ∧ X.cell? ⟨p5, 1, none⟩ = some (.int .i64 xg) ∧ X.cell? ⟨p5, 2, none⟩ = some (.slice xB xm xd)) ∧ Below x.heap.size x X → RxV X ok (.agg #[.int .i64 k, .slice A' n' c', .int .i64 a, .int .i64 b, .slice B m d]) r from fun X h => V5.out.kept h.2)
    have HXv := hide (show ∀ X : World, (X.cell? ⟨w.heap.size, 0, none⟩ = some (.int .i64 k) ∧ X.cell? ⟨w.heap.size, 1, none⟩ = some (.slice A' n' c') ∧ X.cell? ⟨w.heap.size, 2, none⟩ = some (.int .i64 a) ∧ X.cell? ⟨w.heap.size, 3, none⟩ = some (.int .i64 b) ∧ X.cell? ⟨w.heap.size, 4, none⟩ = some (.slice B m d) ∧ X.cell? ⟨p5, 0, none⟩ = some (.int .i64 xk) ∧ X.cell? ⟨p5, 1, none⟩ = some (.int .i64 xg) ∧ X.cell? ⟨p5, 2, none⟩ = some (.slice xB xm xd)) ∧ Below x.heap.size x X → NdV X (fun _ => True) (.agg #[.int .i64 xk, .int .i64 xg, .slice xB xm xd]) (needS r) from fun X h => X5.out.kept h.2)
    go_region_held3 (fun w' => (w'.cell? ⟨w.heap.size, 0, none⟩ = some (.int .i64 k) ∧ w'.cell? ⟨w.heap.size, 1, none⟩ = some (.slice A' n' c') ∧ w'.cell? ⟨w.heap.size, 2, none⟩ = some (.int .i64 a) ∧ w'.cell? ⟨w.heap.size, 3, none⟩ = some (.int .i64 b) ∧ w'.cell? ⟨w.heap.size, 4, none⟩ = some (.slice B m d) ∧ w'.cell? ⟨p5, 0, none⟩ = some (.int .i64 xk) ∧ w'.cell? ⟨p5, 1, none⟩ = some (.int .i64 xg) ∧ w'.cell? ⟨p5, 2, none⟩ = some (.slice xB xm xd)) ∧ Below x.heap.size x w')
      (first | exact HK.out _ HS0.out | exact HKs.out _ _ (by assumption) hb4 | assumption)
      (first
        | (go_at_call 23; (with_reducible refine (HRr.out _ (HRv.out _ ?_)).mono ?_); assumption; rintro e w5 ⟨rfl, hb4⟩)
        | (go_at_call 24; (with_reducible refine (HFo.out _ (HRv.out _ ?_) Hq0.out).mono ?_); assumption; rintro e w5 ⟨va, rfl, hna, hb4⟩)
        | (go_at_call 22; (with_reducible refine (HOf.out _ _ hna Hq0.out).mono ?_); rintro e w5 ⟨vb, rfl, hnb, hb4⟩; clear hna)
        | (go_at_call 21; (with_reducible refine (HSa.out _ _ _ _ _ _ _ hnb (HXv.out _ ?_)).mono ?_); assumption; rintro e w5 ⟨rfl, hb4⟩))
    have B6 := hide (bgo B5.out (HKb.out _ (by assumption)))
    clear HK HS0 HKs HKb HRv HXv
    go_wp2
    go_ret
    exact ⟨rfl, B6.out⟩
  · have hq0' : (q != 0) = true := int_ne hq0
    clear hq0
    obtain ⟨x, hx⟩ : ∃ x, x = w5 := ⟨_, rfl⟩
    subst hx
    obtain ⟨-, t0, t1, t2, t3, t4⟩ := F5.out
    have HS1 := hide (HRr.out (x.drew) (V5.out.kept (bel_drew x)))
    have hbd := hide (bel_drew x)
    go_wp2_with fail
    first | (go_region_with (first
        | (go_at_call 23; (with_reducible refine (HS1.out).mono ?_); rintro e w5 ⟨rfl, hb4⟩))) | fail
    all_goals
      have B6 := hide (bgo B5.out (bgo hbd.out hb4))
      go_wp2
      go_ret
      exact ⟨rfl, B6.out⟩
end Go.Proofs.Ytlnbjdlooghpeaa
