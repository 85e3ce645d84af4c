/- Layer 8: law 9 over the contracts. -/
import Derived.Test.YtmiegjefmebpdaaGreatDoorKU
namespace Go.Proofs.YtmiegjefmebpdaaGreatDoor
open Go.RowKit

theorem tame_fold (r : Rx) : Tame (foldR r) := by
  induction r using Rx.ind with
  | h k s a b l ih =>
    unfold foldR
    refine .mk _ _ _ _ _ ?_ fun y hy => ?_
    · split
      · exact rgN_len _ 256
      · simp
    · obtain ⟨x, hx, rfl⟩ := mem_foldL hy
      exact ih x hx
/-- What covers says. -/
def CovC : Prop := ∀ (W : World) (ok ok' : Nat → Prop) (v v' : Value) (r r' : Rx), RxV W ok v r → RxV W ok' v' r' → Tame r → Tame r' → covR r r' = true → Calls Tryz.prog 26 #[v, v'] W fun e w' => e = .returned (.bool true) ∧ Below W.heap.size W w'

set_option maxRecDepth 100000 in
set_option maxHeartbeats 6400000 in
theorem law9 (C : Cs) (V : CovC) (A : AliveC) {ok : Nat → Prop} {v : Value} {r : Rx} (w : World) (hv : RxV w ok v r) : Calls Tryz.prog 9 #[v] w fun e w' => e = .returned (.bool true) ∧ Below w.heap.size w w' := by
  obtain ⟨qv, Av, nv, cv, yv, zv, Dv, mv, dv, rfl⟩ := hv.agg9
  have hbA := bnew (Below.refl _ w) (.cells #[.int .i64 qv, .slice Av nv cv, .int .i64 yv, .int .i64 zv, .slice Dv mv dv] 25)
  have Bv := hide hbA
  have Rv := hide (hv.kept hbA)
  have Fv := hide (five_new w (.int .i64 qv) (.slice Av nv cv) (.int .i64 yv) (.int .i64 zv) (.slice Dv mv dv) 25)
  have HA := hide (A (w.alloc (.cells #[.int .i64 qv, .slice Av nv cv, .int .i64 yv, .int .i64 zv, .slice Dv mv dv] 25)))
  clear hv hbA
  by_cases hsm : lawSz 30 r ≤ 100
  · obtain ⟨k1, k2, k3⟩ := small_ok hsm
    have HS := hide (fun (W : World) (ok : Nat → Prop) (v : Value) (h : RxV W ok v r) => (decide_eq_true hsm) ▸ small11 h)
    have HR := hide (fun (W : World) (ok : Nat → Prop) (v : Value) (h : RxV W ok v r) => rright13 h (by omega) (by omega))
    by_cases h0 : rightR r = 0
    · rw [h0] at HR
      have hnode := (right_node h0).1
      obtain ⟨y, hy⟩ : ∃ y, foldR r = y := ⟨_, rfl⟩
      have hy0 : rightR y = 0 := by rw [← hy]; exact right_fold r h0
      have hyt : Tame y := by rw [← hy]; exact tame_fold r
      have hyy : foldR y = y := by rw [← hy]; exact fold_fold r
      have hyl : lenR y = lenR r := by rw [← hy]; exact len_fold r
      have hyc : covR r y = true := by rw [← hy]; exact cov_fold r hnode
      have hys : sizeR y ≤ 1000 := by rw [← hy, size_fold]; exact k1
      have hyd : depthR y ≤ 1000 := by rw [← hy, depth_fold]; exact k2
      have H22 := hide (fun (W : World) (ok : Nat → Prop) (v : Value) (h : RxV W ok v r) => C.lens W ok v r h h0)
      have H23 := hide (fun (W : World) (ok : Nat → Prop) (v : Value) (h : RxV W ok v y) => C.lens W ok v y h hy0)
      rw [hyl] at H23
      have H24 := hide (fun (W : World) (ok : Nat → Prop) (v : Value) (h : RxV W ok v r) => C.fold W ok v r h h0 k3)
      rw [hy] at H24
      have H25 := hide (fun (W : World) (ok : Nat → Prop) (v : Value) (h : RxV W ok v y) => C.fold W ok v y h hy0 hyt)
      rw [hyy] at H25
      have H26 := hide (fun (W : World) (ok ok' : Nat → Prop) (v v' : Value) (h : RxV W ok v r) (h' : RxV W ok' v' y) => V W ok ok' v v' r y h h' k3 hyt hyc)
      have H12 := hide (fun (W : World) (ok : Nat → Prop) (v : Value) (h : RxV W ok v y) => C.right W ok v y h hys hyd)
      rw [hy0] at H12
      obtain ⟨L, hL⟩ : ∃ L, lenR r = L := ⟨_, rfl⟩
      rw [hL] at H22 H23
      obtain ⟨L1, L2⟩ := L
      have hL1 : (L1 == L1) = true := by simp
      have hL2 : (L2 == L2) = true := by simp
      clear A C V k1 k2 k3 hsm h0 hL hnode hy hy0 hyt hyy hyl hyc hys hyd
      go_enter Tryz.func9, Tryz.ntmps9
      go_wp2_with fail
      with_reducible refine HA.out.mono ?_
      rintro e w1 ⟨rfl, hb⟩
      have B1 := hide (bgo Bv.out hb)
      have R1 := hide (Rv.out.kept hb)
      have F1 := hide (Fv.out.keep hb)
      clear hb Bv Rv Fv
      obtain ⟨-, t0, t1, t2, t3, t4⟩ := F1.out
      go_wp2_with fail
      with_reducible refine (HS.out _ _ _ R1.out).mono ?_
      rintro e w2 ⟨rfl, hb⟩
      have B2 := hide (bgo B1.out hb)
      have R2 := hide (R1.out.kept hb)
      have F2 := hide (F1.out.keep hb)
      clear hb B1 R1 F1 t0 t1 t2 t3 t4
      obtain ⟨-, t0, t1, t2, t3, t4⟩ := F2.out
      go_wp2_with fail
      with_reducible refine (HR.out _ _ _ R2.out).mono ?_
      rintro e w3 ⟨rfl, hb⟩
      have B3 := hide (bgo B2.out hb)
      have R3 := hide (R2.out.kept hb)
      have F3 := hide (F2.out.keep hb)
      clear hb B2 R2 F2 t0 t1 t2 t3 t4
      obtain ⟨-, t0, t1, t2, t3, t4⟩ := F3.out
      go_wp2_with fail
      with_reducible refine (H24.out _ _ _ R3.out).mono ?_
      rintro e w4 ⟨v4, ok4, rfl, hr, hb⟩
      obtain ⟨qg, Ag, ng, cg, yg, zg, Dg, mg, dg, rfl⟩ := hr.agg9
      have hbA := bnew (Below.refl _ w4) (.cells #[.int .i64 qg, .slice Ag ng cg, .int .i64 yg, .int .i64 zg, .slice Dg mg dg] 25)
      have Bg := hide (bgo (bgo B3.out hb) hbA)
      have Rg := hide (hr.kept hbA)
      have Fg := hide (five_new w4 (.int .i64 qg) (.slice Ag ng cg) (.int .i64 yg) (.int .i64 zg) (.slice Dg mg dg) 25)
      have F3g := hide ((F3.out.keep hb).keep hbA)
      have R3g := hide ((R3.out.kept hb).kept hbA)
      clear hr hb hbA
      clear t0 t1 t2 t3 t4
      obtain ⟨-, t0, t1, t2, t3, t4⟩ := F3g.out
      go_wp2_with fail
      with_reducible refine (H22.out _ _ _ R3g.out).mono ?_
      rintro e w5 ⟨rfl, hb⟩
      have B5 := hide (bgo Bg.out hb)
      have R5 := hide (R3g.out.kept hb)
      have S5 := hide (Rg.out.kept hb)
      have F5 := hide (F3g.out.keep hb)
      have G5 := hide (Fg.out.keep hb)
      clear hb t0 t1 t2 t3 t4
      obtain ⟨-, t0, t1, t2, t3, t4⟩ := G5.out
      go_wp2_with fail
      with_reducible refine (H23.out _ _ _ S5.out).mono ?_
      rintro e w6 ⟨rfl, hb⟩
      have B6 := hide (bgo B5.out hb)
      have R6 := hide (R5.out.kept hb)
      have S6 := hide (S5.out.kept hb)
      have F6 := hide (F5.out.keep hb)
      have G6 := hide (G5.out.keep hb)
      clear hb B5 R5 F5 S5 G5 B3 R3 F3 t0 t1 t2 t3 t4
      go_wp2_with fail
      obtain ⟨x, hx⟩ : ∃ x, x = w6 := ⟨_, rfl⟩
      subst hx
      have HK := hide (show ∀ X : World, Below x.heap.size x X → (X.cell? ⟨w.heap.size, 0, none⟩ = some (.int .i64 qv) ∧ X.cell? ⟨w.heap.size, 1, none⟩ = some (.slice Av nv cv) ∧ X.cell? ⟨w.heap.size, 2, none⟩ = some (.int .i64 yv) ∧ X.cell? ⟨w.heap.size, 3, none⟩ = some (.int .i64 zv) ∧ X.cell? ⟨w.heap.size, 4, none⟩ = some (.slice Dv mv dv) ∧ X.cell? ⟨w4.heap.size, 0, none⟩ = some (.int .i64 qg) ∧ X.cell? ⟨w4.heap.size, 1, none⟩ = some (.slice Ag ng cg) ∧ X.cell? ⟨w4.heap.size, 2, none⟩ = some (.int .i64 yg) ∧ X.cell? ⟨w4.heap.size, 3, none⟩ = some (.int .i64 zg) ∧ X.cell? ⟨w4.heap.size, 4, none⟩ = some (.slice Dg mg dg)) ∧ Below x.heap.size x X from fun X hb => by
        obtain ⟨-, t0, t1, t2, t3, t4⟩ := F6.out.keep hb
        obtain ⟨-, u0, u1, u2, u3, u4⟩ := G6.out.keep hb
        exact ⟨⟨t0, t1, t2, t3, t4, u0, u1, u2, u3, u4⟩, hb⟩)
      have HS0 := hide (bel_drew x)
      have HKs := hide (show ∀ X Y : World, (X.cell? ⟨w.heap.size, 0, none⟩ = some (.int .i64 qv) ∧ X.cell? ⟨w.heap.size, 1, none⟩ = some (.slice Av nv cv) ∧ X.cell? ⟨w.heap.size, 2, none⟩ = some (.int .i64 yv) ∧ X.cell? ⟨w.heap.size, 3, none⟩ = some (.int .i64 zv) ∧ X.cell? ⟨w.heap.size, 4, none⟩ = some (.slice Dv mv dv) ∧ X.cell? ⟨w4.heap.size, 0, none⟩ = some (.int .i64 qg) ∧ X.cell? ⟨w4.heap.size, 1, none⟩ = some (.slice Ag ng cg) ∧ X.cell? ⟨w4.heap.size, 2, none⟩ = some (.int .i64 yg) ∧ X.cell? ⟨w4.heap.size, 3, none⟩ = some (.int .i64 zg) ∧ X.cell? ⟨w4.heap.size, 4, none⟩ = some (.slice Dg mg dg)) ∧ Below x.heap.size x X → Below X.heap.size X Y → (Y.cell? ⟨w.heap.size, 0, none⟩ = some (.int .i64 qv) ∧ Y.cell? ⟨w.heap.size, 1, none⟩ = some (.slice Av nv cv) ∧ Y.cell? ⟨w.heap.size, 2, none⟩ = some (.int .i64 yv) ∧ Y.cell? ⟨w.heap.size, 3, none⟩ = some (.int .i64 zv) ∧ Y.cell? ⟨w.heap.size, 4, none⟩ = some (.slice Dv mv dv) ∧ Y.cell? ⟨w4.heap.size, 0, none⟩ = some (.int .i64 qg) ∧ Y.cell? ⟨w4.heap.size, 1, none⟩ = some (.slice Ag ng cg) ∧ Y.cell? ⟨w4.heap.size, 2, none⟩ = some (.int .i64 yg) ∧ Y.cell? ⟨w4.heap.size, 3, none⟩ = some (.int .i64 zg) ∧ Y.cell? ⟨w4.heap.size, 4, none⟩ = some (.slice Dg mg dg)) ∧ Below x.heap.size x Y from fun X Y h hb => HK.out Y (bgo h.2 hb))
      have HKb := hide (show ∀ X : World, (X.cell? ⟨w.heap.size, 0, none⟩ = some (.int .i64 qv) ∧ X.cell? ⟨w.heap.size, 1, none⟩ = some (.slice Av nv cv) ∧ X.cell? ⟨w.heap.size, 2, none⟩ = some (.int .i64 yv) ∧ X.cell? ⟨w.heap.size, 3, none⟩ = some (.int .i64 zv) ∧ X.cell? ⟨w.heap.size, 4, none⟩ = some (.slice Dv mv dv) ∧ X.cell? ⟨w4.heap.size, 0, none⟩ = some (.int .i64 qg) ∧ X.cell? ⟨w4.heap.size, 1, none⟩ = some (.slice Ag ng cg) ∧ X.cell? ⟨w4.heap.size, 2, none⟩ = some (.int .i64 yg) ∧ X.cell? ⟨w4.heap.size, 3, none⟩ = some (.int .i64 zg) ∧ X.cell? ⟨w4.heap.size, 4, none⟩ = some (.slice Dg mg dg)) ∧ Below x.heap.size x X → Below w.heap.size w X from fun X h => bgo B6.out h.2)
      have HRa := hide (show ∀ X : World, (X.cell? ⟨w.heap.size, 0, none⟩ = some (.int .i64 qv) ∧ X.cell? ⟨w.heap.size, 1, none⟩ = some (.slice Av nv cv) ∧ X.cell? ⟨w.heap.size, 2, none⟩ = some (.int .i64 yv) ∧ X.cell? ⟨w.heap.size, 3, none⟩ = some (.int .i64 zv) ∧ X.cell? ⟨w.heap.size, 4, none⟩ = some (.slice Dv mv dv) ∧ X.cell? ⟨w4.heap.size, 0, none⟩ = some (.int .i64 qg) ∧ X.cell? ⟨w4.heap.size, 1, none⟩ = some (.slice Ag ng cg) ∧ X.cell? ⟨w4.heap.size, 2, none⟩ = some (.int .i64 yg) ∧ X.cell? ⟨w4.heap.size, 3, none⟩ = some (.int .i64 zg) ∧ X.cell? ⟨w4.heap.size, 4, none⟩ = some (.slice Dg mg dg)) ∧ Below x.heap.size x X → RxV X ok (.agg #[.int .i64 qv, .slice Av nv cv, .int .i64 yv, .int .i64 zv, .slice Dv mv dv]) r from fun X h => R6.out.kept h.2)
      have HRg := hide (show ∀ X : World, (X.cell? ⟨w.heap.size, 0, none⟩ = some (.int .i64 qv) ∧ X.cell? ⟨w.heap.size, 1, none⟩ = some (.slice Av nv cv) ∧ X.cell? ⟨w.heap.size, 2, none⟩ = some (.int .i64 yv) ∧ X.cell? ⟨w.heap.size, 3, none⟩ = some (.int .i64 zv) ∧ X.cell? ⟨w.heap.size, 4, none⟩ = some (.slice Dv mv dv) ∧ X.cell? ⟨w4.heap.size, 0, none⟩ = some (.int .i64 qg) ∧ X.cell? ⟨w4.heap.size, 1, none⟩ = some (.slice Ag ng cg) ∧ X.cell? ⟨w4.heap.size, 2, none⟩ = some (.int .i64 yg) ∧ X.cell? ⟨w4.heap.size, 3, none⟩ = some (.int .i64 zg) ∧ X.cell? ⟨w4.heap.size, 4, none⟩ = some (.slice Dg mg dg)) ∧ Below x.heap.size x X → RxV X ok4 (.agg #[.int .i64 qg, .slice Ag ng cg, .int .i64 yg, .int .i64 zg, .slice Dg mg dg]) y from fun X h => S6.out.kept h.2)
      go_region_held3 (fun w' => (w'.cell? ⟨w.heap.size, 0, none⟩ = some (.int .i64 qv) ∧ w'.cell? ⟨w.heap.size, 1, none⟩ = some (.slice Av nv cv) ∧ w'.cell? ⟨w.heap.size, 2, none⟩ = some (.int .i64 yv) ∧ w'.cell? ⟨w.heap.size, 3, none⟩ = some (.int .i64 zv) ∧ w'.cell? ⟨w.heap.size, 4, none⟩ = some (.slice Dv mv dv) ∧ w'.cell? ⟨w4.heap.size, 0, none⟩ = some (.int .i64 qg) ∧ w'.cell? ⟨w4.heap.size, 1, none⟩ = some (.slice Ag ng cg) ∧ w'.cell? ⟨w4.heap.size, 2, none⟩ = some (.int .i64 yg) ∧ w'.cell? ⟨w4.heap.size, 3, none⟩ = some (.int .i64 zg) ∧ w'.cell? ⟨w4.heap.size, 4, none⟩ = some (.slice Dg mg dg)) ∧ Below x.heap.size x w')
        (first | exact HK.out _ HS0.out | exact HKs.out _ _ (by assumption) hb4)
        (first
          | (go_at_call 26; with_reducible refine (H26.out _ ok ok4 _ _ (HRa.out _ ?_) (HRg.out _ ?_)).mono ?_; assumption; assumption; rintro e w7 ⟨rfl, hb4⟩)
          | (go_at_call 24; with_reducible refine (H25.out _ ok4 _ (HRg.out _ ?_)).mono ?_; assumption; rintro e w7 ⟨v7, ok7, rfl, hr7, hb4⟩)
          | (go_at_call 15; with_reducible refine (same15 _ _ _ _ _ _ _ hr7 (HRg.out _ ?_) true (by simp)).mono ?_; assumption; rintro e w8 ⟨rfl, hb4⟩)
          | (go_at_call 12; with_reducible refine (H12.out _ ok4 _ (HRg.out _ ?_)).mono ?_; assumption; rintro e w9 ⟨rfl, hb4⟩))
      all_goals
        have Bfin := HKb.out _ (by assumption)
        go_wp2
        go_ret
        exact ⟨rfl, Bfin⟩
    · have h0' : (rightR r != 0) = true := bne_iff_ne.2 h0
      obtain ⟨R, hR⟩ : ∃ R, rightR r = R := ⟨_, rfl⟩
      rw [hR] at HR h0'
      clear A C V k1 k2 k3 hsm h0 hR
      go_enter Tryz.func9, Tryz.ntmps9
      go_wp2_with fail
      with_reducible refine HA.out.mono ?_
      rintro e w1 ⟨rfl, hb⟩
      have B1 := hide (bgo Bv.out hb)
      have R1 := hide (Rv.out.kept hb)
      have F1 := hide (Fv.out.keep hb)
      clear hb Bv Rv Fv
      obtain ⟨-, t0, t1, t2, t3, t4⟩ := F1.out
      go_wp2_with fail
      with_reducible refine (HS.out _ _ _ R1.out).mono ?_
      rintro e w2 ⟨rfl, hb⟩
      have B2 := hide (bgo B1.out hb)
      have R2 := hide (R1.out.kept hb)
      have F2 := hide (F1.out.keep hb)
      clear hb B1 R1 F1 t0 t1 t2 t3 t4
      obtain ⟨-, t0, t1, t2, t3, t4⟩ := F2.out
      go_wp2_with fail
      with_reducible refine (HR.out _ _ _ R2.out).mono ?_
      rintro e w3 ⟨rfl, hb⟩
      have B3 := hide (bgo B2.out hb)
      clear hb B2 R2 F2 t0 t1 t2 t3 t4
      go_wp2
      go_ret
      exact ⟨rfl, B3.out⟩
  · have HS := hide (fun (W : World) (ok : Nat → Prop) (v : Value) (h : RxV W ok v r) => (decide_eq_false hsm) ▸ small11 h)
    clear A C V hsm
    go_enter Tryz.func9, Tryz.ntmps9
    go_wp2_with fail
    with_reducible refine HA.out.mono ?_
    rintro e w1 ⟨rfl, hb⟩
    have B1 := hide (bgo Bv.out hb)
    have R1 := hide (Rv.out.kept hb)
    have F1 := hide (Fv.out.keep hb)
    clear hb Bv Rv Fv
    obtain ⟨-, t0, t1, t2, t3, t4⟩ := F1.out
    go_wp2_with fail
    with_reducible refine (HS.out _ _ _ R1.out).mono ?_
    rintro e w2 ⟨rfl, hb⟩
    have B2 := hide (bgo B1.out hb)
    have R2 := hide (R1.out.kept hb)
    have F2 := hide (F1.out.keep hb)
    clear hb B1 R1 F1 t0 t1 t2 t3 t4
    obtain ⟨-, t0, t1, t2, t3, t4⟩ := F2.out
    go_wp2
    go_ret
    exact ⟨rfl, B2.out⟩


end Go.Proofs.YtmiegjefmebpdaaGreatDoor
