/- Layer 8: law 6 over the contracts. -/
import Derived.Test.YtmiegjefmebpdaaGreatDoorKT
namespace Go.Proofs.YtmiegjefmebpdaaGreatDoor
open Go.RowKit

theorem rxv_rgs {W : World} {ok : Nat → Prop} {k a b : Int} {A B : Option Addr} {n c m d : Nat} {r : Rx} (h : RxV W ok (.agg #[.int .i64 k, .slice A n c, .int .i64 a, .int .i64 b, .slice B m d]) r) : RgS W ok A n c r.set := by
  cases h
  assumption
theorem tame_len {r : Rx} (h : Tame r) : r.set.length ≤ 256 := by
  cases h
  assumption
/-- What the reference's Fold does. -/
def FoldC : Prop := ∀ (W : World) (ok : Nat → Prop) (v : Value) (r : Rx), RxV W ok v r → nodeR r = 0 → Tame r → sizeR r ≤ 1000 → Calls Tryz.prog 25 #[v] W fun e w' => ∃ v' ok', e = .returned v' ∧ RxV w' ok' v' (foldR r) ∧ Below W.heap.size W w'

set_option maxRecDepth 100000 in
set_option maxHeartbeats 6400000 in
theorem law6 (C : Cs) (F : FoldC) (A : AliveC) {ok : Nat → Prop} {v : Value} {r : Rx} (c : UInt8) (w : World) (hv : RxV w ok v r) : Calls Tryz.prog 6 #[v, .int .u8 (c.toNat : Int)] w fun e w' => e = .returned (.bool true) ∧ Below w.heap.size w w' := by
  obtain ⟨qv, Av, nv, cv, yv, zv, Dv, mv, dv, rfl⟩ := hv.agg9
  have hbA := bnew (Below.refl _ w) (.cells #[.int .i64 qv, .slice Av nv cv, .int .i64 yv, .int .i64 zv, .slice Dv mv dv] 25)
  have Bv := hide hbA
  have Rv := hide (hv.kept hbA)
  have Fv := hide (five_new w (.int .i64 qv) (.slice Av nv cv) (.int .i64 yv) (.int .i64 zv) (.slice Dv mv dv) 25)
  have HA := hide (A (w.alloc (.cells #[.int .i64 qv, .slice Av nv cv, .int .i64 yv, .int .i64 zv, .slice Dv mv dv] 25)))
  clear hv hbA
  by_cases hsm : lawSz 30 r ≤ 100
  · obtain ⟨k1, k2, k3⟩ := small_ok hsm
    have HS := hide (fun (W : World) (ok : Nat → Prop) (v : Value) (h : RxV W ok v r) => (decide_eq_true hsm) ▸ small11 h)
    obtain ⟨q, hq⟩ : ∃ q, hasS r.set c = q := ⟨_, rfl⟩
    have Hq := hide hq
    have hlen : r.set.length ≤ 1000 := by have := tame_len k3; omega
    have H20 := hide (fun (W : World) (h : RgS W ok Av nv cv r.set) => C.has W ok Av nv cv r.set c q h hlen hq)
    have H21 := hide (fun (W : World) (h : RgS W ok Av nv cv r.set) => (has21 h c q hq).mono (fun e w' h => (⟨h.1, h.2 ▸ Below.refl _ _⟩ : e = .returned (.bool q) ∧ Below W.heap.size W w')))
    have HR := hide (fun (W : World) (ok : Nat → Prop) (v : Value) (h : RxV W ok v r) => rright13 h (by omega) (by omega))
    by_cases h0 : rightR r = 0
    · rw [h0] at HR
      have hnode := (right_node h0).1
      have H22 := hide (fun (W : World) (ok : Nat → Prop) (v : Value) (h : RxV W ok v r) => C.lens W ok v r h h0)
      have H23 := hide (fun (W : World) (ok : Nat → Prop) (v : Value) (h : RxV W ok v r) => len23 r hnode (by have := (right_node h0).2; omega) (right_node h0).2.2 W ok v h)
      have H24 := hide (fun (W : World) (h : RxV W ok (.agg #[.int .i64 qv, .slice Av nv cv, .int .i64 yv, .int .i64 zv, .slice Dv mv dv]) r) => C.fold W ok _ r h h0 k3)
      have H25 := hide (fun (W : World) (h : RxV W ok (.agg #[.int .i64 qv, .slice Av nv cv, .int .i64 yv, .int .i64 zv, .slice Dv mv dv]) r) => F W ok _ r h hnode k3 k1)
      obtain ⟨L, hL⟩ : ∃ L, lenR r = L := ⟨_, rfl⟩
      rw [hL] at H22 H23
      obtain ⟨L1, L2⟩ := L
      clear A C F k1 k2 k3 hsm h0 hL hq hlen hnode
      go_enter Tryz.func6, Tryz.ntmps6
      go_wp2_with fail
      with_reducible refine HA.out.mono ?_
      rintro e w1 ⟨rfl, hb⟩
      have B1 := hide (bgo Bv.out hb)
      have R1 := hide (Rv.out.kept hb)
      have F1 := hide (Fv.out.keep hb)
      clear hb Bv Rv Fv
      obtain ⟨-, t0, t1, t2, t3, t4⟩ := F1.out
      go_wp2_with fail
      with_reducible refine (HS.out _ _ _ R1.out).mono ?_
      rintro e w2 ⟨rfl, hb⟩
      have B2 := hide (bgo B1.out hb)
      have R2 := hide (R1.out.kept hb)
      have F2 := hide (F1.out.keep hb)
      clear hb B1 R1 F1 t0 t1 t2 t3 t4
      obtain ⟨-, t0, t1, t2, t3, t4⟩ := F2.out
      go_wp2_with fail
      obtain ⟨x, hx⟩ : ∃ x, x = w2 := ⟨_, rfl⟩
      subst hx
      have HK := hide (show ∀ X : World, Below x.heap.size x X → (X.cell? ⟨w.heap.size, 0, none⟩ = some (.int .i64 qv) ∧ X.cell? ⟨w.heap.size, 1, none⟩ = some (.slice Av nv cv) ∧ X.cell? ⟨w.heap.size, 2, none⟩ = some (.int .i64 yv) ∧ X.cell? ⟨w.heap.size, 3, none⟩ = some (.int .i64 zv) ∧ X.cell? ⟨w.heap.size, 4, none⟩ = some (.slice Dv mv dv)) ∧ Below x.heap.size x X from fun X hb => by
        obtain ⟨-, t0, t1, t2, t3, t4⟩ := F2.out.keep hb
        exact ⟨⟨t0, t1, t2, t3, t4⟩, hb⟩)
      have HS0 := hide (bel_drew x)
      have HKs := hide (show ∀ X Y : World, (X.cell? ⟨w.heap.size, 0, none⟩ = some (.int .i64 qv) ∧ X.cell? ⟨w.heap.size, 1, none⟩ = some (.slice Av nv cv) ∧ X.cell? ⟨w.heap.size, 2, none⟩ = some (.int .i64 yv) ∧ X.cell? ⟨w.heap.size, 3, none⟩ = some (.int .i64 zv) ∧ X.cell? ⟨w.heap.size, 4, none⟩ = some (.slice Dv mv dv)) ∧ Below x.heap.size x X → Below X.heap.size X Y → (Y.cell? ⟨w.heap.size, 0, none⟩ = some (.int .i64 qv) ∧ Y.cell? ⟨w.heap.size, 1, none⟩ = some (.slice Av nv cv) ∧ Y.cell? ⟨w.heap.size, 2, none⟩ = some (.int .i64 yv) ∧ Y.cell? ⟨w.heap.size, 3, none⟩ = some (.int .i64 zv) ∧ Y.cell? ⟨w.heap.size, 4, none⟩ = some (.slice Dv mv dv)) ∧ Below x.heap.size x Y from fun X Y h hb => HK.out Y (bgo h.2 hb))
      have HKb := hide (show ∀ X : World, (X.cell? ⟨w.heap.size, 0, none⟩ = some (.int .i64 qv) ∧ X.cell? ⟨w.heap.size, 1, none⟩ = some (.slice Av nv cv) ∧ X.cell? ⟨w.heap.size, 2, none⟩ = some (.int .i64 yv) ∧ X.cell? ⟨w.heap.size, 3, none⟩ = some (.int .i64 zv) ∧ X.cell? ⟨w.heap.size, 4, none⟩ = some (.slice Dv mv dv)) ∧ Below x.heap.size x X → Below w.heap.size w X from fun X h => bgo B2.out h.2)
      have HK0 := hide (show ∀ X : World, (X.cell? ⟨w.heap.size, 0, none⟩ = some (.int .i64 qv) ∧ X.cell? ⟨w.heap.size, 1, none⟩ = some (.slice Av nv cv) ∧ X.cell? ⟨w.heap.size, 2, none⟩ = some (.int .i64 yv) ∧ X.cell? ⟨w.heap.size, 3, none⟩ = some (.int .i64 zv) ∧ X.cell? ⟨w.heap.size, 4, none⟩ = some (.slice Dv mv dv)) ∧ Below x.heap.size x X → Below x.heap.size x X from fun X h => h.2)
      have HRa := hide (show ∀ X : World, (X.cell? ⟨w.heap.size, 0, none⟩ = some (.int .i64 qv) ∧ X.cell? ⟨w.heap.size, 1, none⟩ = some (.slice Av nv cv) ∧ X.cell? ⟨w.heap.size, 2, none⟩ = some (.int .i64 yv) ∧ X.cell? ⟨w.heap.size, 3, none⟩ = some (.int .i64 zv) ∧ X.cell? ⟨w.heap.size, 4, none⟩ = some (.slice Dv mv dv)) ∧ Below x.heap.size x X → RxV X ok (.agg #[.int .i64 qv, .slice Av nv cv, .int .i64 yv, .int .i64 zv, .slice Dv mv dv]) r from fun X h => R2.out.kept h.2)
      go_region_held3 (fun w' => (w'.cell? ⟨w.heap.size, 0, none⟩ = some (.int .i64 qv) ∧ w'.cell? ⟨w.heap.size, 1, none⟩ = some (.slice Av nv cv) ∧ w'.cell? ⟨w.heap.size, 2, none⟩ = some (.int .i64 yv) ∧ w'.cell? ⟨w.heap.size, 3, none⟩ = some (.int .i64 zv) ∧ w'.cell? ⟨w.heap.size, 4, none⟩ = some (.slice Dv mv dv)) ∧ Below x.heap.size x w')
        (first | exact HK.out _ HS0.out | exact HKs.out _ _ (by assumption) hb4)
        (first
          | (go_at_call 20; with_reducible refine (H20.out _ (rxv_rgs (HRa.out _ ?_))).mono ?_; assumption; rintro e w4 ⟨rfl, hb4⟩)
          | (go_at_call 21; with_reducible refine (H21.out _ (rxv_rgs (HRa.out _ ?_))).mono ?_; assumption; rintro e w4 ⟨rfl, hb4⟩))
      all_goals
        have hX := HK0.out w4 (by assumption)
        have B3 := hide (bgo B2.out hX)
        have R3 := hide (R2.out.kept hX)
        have F3 := hide (F2.out.keep hX)
        clear hX HK HS0 HKs HKb HK0 HRa
        clear t0 t1 t2 t3 t4
        obtain ⟨-, t0, t1, t2, t3, t4⟩ := F3.out
        go_wp2_with fail
        with_reducible refine (HR.out _ _ _ R3.out).mono ?_
        rintro e w5 ⟨rfl, hb⟩
        have B5 := hide (bgo B3.out hb)
        have R5 := hide (R3.out.kept hb)
        have F5 := hide (F3.out.keep hb)
        clear hb B3 R3 F3 t0 t1 t2 t3 t4
        obtain ⟨-, t0, t1, t2, t3, t4⟩ := F5.out
        go_wp2_with fail
        with_reducible refine (H22.out _ _ _ R5.out).mono ?_
        rintro e w6 ⟨rfl, hb⟩
        have B6 := hide (bgo B5.out hb)
        have R6 := hide (R5.out.kept hb)
        have F6 := hide (F5.out.keep hb)
        clear hb B5 R5 F5 t0 t1 t2 t3 t4
        obtain ⟨-, t0, t1, t2, t3, t4⟩ := F6.out
        go_wp2_with fail
        with_reducible refine (H23.out _ _ _ R6.out).mono ?_
        rintro e w7 ⟨rfl, hb⟩
        have B7 := hide (bgo B6.out hb)
        have R7 := hide (R6.out.kept hb)
        have F7 := hide (F6.out.keep hb)
        clear hb B6 R6 F6 t0 t1 t2 t3 t4
        go_wp2_with fail
        obtain ⟨x, hx⟩ : ∃ x, x = w7 := ⟨_, rfl⟩
        subst hx
        have HK := hide (show ∀ X : World, Below x.heap.size x X → (X.cell? ⟨w.heap.size, 0, none⟩ = some (.int .i64 qv) ∧ X.cell? ⟨w.heap.size, 1, none⟩ = some (.slice Av nv cv) ∧ X.cell? ⟨w.heap.size, 2, none⟩ = some (.int .i64 yv) ∧ X.cell? ⟨w.heap.size, 3, none⟩ = some (.int .i64 zv) ∧ X.cell? ⟨w.heap.size, 4, none⟩ = some (.slice Dv mv dv)) ∧ Below x.heap.size x X from fun X hb => by
          obtain ⟨-, t0, t1, t2, t3, t4⟩ := F7.out.keep hb
          exact ⟨⟨t0, t1, t2, t3, t4⟩, hb⟩)
        have HS0 := hide (bel_drew x)
        have HKs := hide (show ∀ X Y : World, (X.cell? ⟨w.heap.size, 0, none⟩ = some (.int .i64 qv) ∧ X.cell? ⟨w.heap.size, 1, none⟩ = some (.slice Av nv cv) ∧ X.cell? ⟨w.heap.size, 2, none⟩ = some (.int .i64 yv) ∧ X.cell? ⟨w.heap.size, 3, none⟩ = some (.int .i64 zv) ∧ X.cell? ⟨w.heap.size, 4, none⟩ = some (.slice Dv mv dv)) ∧ Below x.heap.size x X → Below X.heap.size X Y → (Y.cell? ⟨w.heap.size, 0, none⟩ = some (.int .i64 qv) ∧ Y.cell? ⟨w.heap.size, 1, none⟩ = some (.slice Av nv cv) ∧ Y.cell? ⟨w.heap.size, 2, none⟩ = some (.int .i64 yv) ∧ Y.cell? ⟨w.heap.size, 3, none⟩ = some (.int .i64 zv) ∧ Y.cell? ⟨w.heap.size, 4, none⟩ = some (.slice Dv mv dv)) ∧ Below x.heap.size x Y from fun X Y h hb => HK.out Y (bgo h.2 hb))
        have HKb := hide (show ∀ X : World, (X.cell? ⟨w.heap.size, 0, none⟩ = some (.int .i64 qv) ∧ X.cell? ⟨w.heap.size, 1, none⟩ = some (.slice Av nv cv) ∧ X.cell? ⟨w.heap.size, 2, none⟩ = some (.int .i64 yv) ∧ X.cell? ⟨w.heap.size, 3, none⟩ = some (.int .i64 zv) ∧ X.cell? ⟨w.heap.size, 4, none⟩ = some (.slice Dv mv dv)) ∧ Below x.heap.size x X → Below w.heap.size w X from fun X h => bgo B7.out h.2)
        have HK0 := hide (show ∀ X : World, (X.cell? ⟨w.heap.size, 0, none⟩ = some (.int .i64 qv) ∧ X.cell? ⟨w.heap.size, 1, none⟩ = some (.slice Av nv cv) ∧ X.cell? ⟨w.heap.size, 2, none⟩ = some (.int .i64 yv) ∧ X.cell? ⟨w.heap.size, 3, none⟩ = some (.int .i64 zv) ∧ X.cell? ⟨w.heap.size, 4, none⟩ = some (.slice Dv mv dv)) ∧ Below x.heap.size x X → Below x.heap.size x X from fun X h => h.2)
        have HRa := hide (show ∀ X : World, (X.cell? ⟨w.heap.size, 0, none⟩ = some (.int .i64 qv) ∧ X.cell? ⟨w.heap.size, 1, none⟩ = some (.slice Av nv cv) ∧ X.cell? ⟨w.heap.size, 2, none⟩ = some (.int .i64 yv) ∧ X.cell? ⟨w.heap.size, 3, none⟩ = some (.int .i64 zv) ∧ X.cell? ⟨w.heap.size, 4, none⟩ = some (.slice Dv mv dv)) ∧ Below x.heap.size x X → RxV X ok (.agg #[.int .i64 qv, .slice Av nv cv, .int .i64 yv, .int .i64 zv, .slice Dv mv dv]) r from fun X h => R7.out.kept h.2)
        go_region_held3 (fun w' => (w'.cell? ⟨w.heap.size, 0, none⟩ = some (.int .i64 qv) ∧ w'.cell? ⟨w.heap.size, 1, none⟩ = some (.slice Av nv cv) ∧ w'.cell? ⟨w.heap.size, 2, none⟩ = some (.int .i64 yv) ∧ w'.cell? ⟨w.heap.size, 3, none⟩ = some (.int .i64 zv) ∧ w'.cell? ⟨w.heap.size, 4, none⟩ = some (.slice Dv mv dv)) ∧ Below x.heap.size x w')
          (first | exact HK.out _ HS0.out | exact HKs.out _ _ (by assumption) hb4)
          (first
            | (go_at_call 24; with_reducible refine (H24.out _ (HRa.out _ ?_)).mono ?_; assumption; rintro e w4 ⟨v4, ok4, rfl, hr4, hb4⟩; try (have hr5 := hr5.kept hb4))
            | (go_at_call 25; with_reducible refine (H25.out _ (HRa.out _ ?_)).mono ?_; assumption; rintro e w4 ⟨v5, ok5, rfl, hr5, hb4⟩; try (have hr4 := hr4.kept hb4))
            | (go_at_call 15; with_reducible refine (same15 _ _ _ _ _ _ _ hr4 hr5 true (by simp)).mono ?_; rintro e w4 ⟨rfl, hb4⟩))
        all_goals
          have Bfin := HKb.out _ (by assumption)
          go_wp2
          go_ret
          exact ⟨rfl, Bfin⟩
    · have h0' : (rightR r != 0) = true := bne_iff_ne.2 h0
      obtain ⟨R, hR⟩ : ∃ R, rightR r = R := ⟨_, rfl⟩
      rw [hR] at HR h0'
      clear A C F k1 k2 k3 hsm h0 hq hlen hR
      go_enter Tryz.func6, Tryz.ntmps6
      go_wp2_with fail
      with_reducible refine HA.out.mono ?_
      rintro e w1 ⟨rfl, hb⟩
      have B1 := hide (bgo Bv.out hb)
      have R1 := hide (Rv.out.kept hb)
      have F1 := hide (Fv.out.keep hb)
      clear hb Bv Rv Fv
      obtain ⟨-, t0, t1, t2, t3, t4⟩ := F1.out
      go_wp2_with fail
      with_reducible refine (HS.out _ _ _ R1.out).mono ?_
      rintro e w2 ⟨rfl, hb⟩
      have B2 := hide (bgo B1.out hb)
      have R2 := hide (R1.out.kept hb)
      have F2 := hide (F1.out.keep hb)
      clear hb B1 R1 F1 t0 t1 t2 t3 t4
      obtain ⟨-, t0, t1, t2, t3, t4⟩ := F2.out
      go_wp2_with fail
      obtain ⟨x, hx⟩ : ∃ x, x = w2 := ⟨_, rfl⟩
      subst hx
      have HK := hide (show ∀ X : World, Below x.heap.size x X → (X.cell? ⟨w.heap.size, 0, none⟩ = some (.int .i64 qv) ∧ X.cell? ⟨w.heap.size, 1, none⟩ = some (.slice Av nv cv) ∧ X.cell? ⟨w.heap.size, 2, none⟩ = some (.int .i64 yv) ∧ X.cell? ⟨w.heap.size, 3, none⟩ = some (.int .i64 zv) ∧ X.cell? ⟨w.heap.size, 4, none⟩ = some (.slice Dv mv dv)) ∧ Below x.heap.size x X from fun X hb => by
        obtain ⟨-, t0, t1, t2, t3, t4⟩ := F2.out.keep hb
        exact ⟨⟨t0, t1, t2, t3, t4⟩, hb⟩)
      have HS0 := hide (bel_drew x)
      have HKs := hide (show ∀ X Y : World, (X.cell? ⟨w.heap.size, 0, none⟩ = some (.int .i64 qv) ∧ X.cell? ⟨w.heap.size, 1, none⟩ = some (.slice Av nv cv) ∧ X.cell? ⟨w.heap.size, 2, none⟩ = some (.int .i64 yv) ∧ X.cell? ⟨w.heap.size, 3, none⟩ = some (.int .i64 zv) ∧ X.cell? ⟨w.heap.size, 4, none⟩ = some (.slice Dv mv dv)) ∧ Below x.heap.size x X → Below X.heap.size X Y → (Y.cell? ⟨w.heap.size, 0, none⟩ = some (.int .i64 qv) ∧ Y.cell? ⟨w.heap.size, 1, none⟩ = some (.slice Av nv cv) ∧ Y.cell? ⟨w.heap.size, 2, none⟩ = some (.int .i64 yv) ∧ Y.cell? ⟨w.heap.size, 3, none⟩ = some (.int .i64 zv) ∧ Y.cell? ⟨w.heap.size, 4, none⟩ = some (.slice Dv mv dv)) ∧ Below x.heap.size x Y from fun X Y h hb => HK.out Y (bgo h.2 hb))
      have HKb := hide (show ∀ X : World, (X.cell? ⟨w.heap.size, 0, none⟩ = some (.int .i64 qv) ∧ X.cell? ⟨w.heap.size, 1, none⟩ = some (.slice Av nv cv) ∧ X.cell? ⟨w.heap.size, 2, none⟩ = some (.int .i64 yv) ∧ X.cell? ⟨w.heap.size, 3, none⟩ = some (.int .i64 zv) ∧ X.cell? ⟨w.heap.size, 4, none⟩ = some (.slice Dv mv dv)) ∧ Below x.heap.size x X → Below w.heap.size w X from fun X h => bgo B2.out h.2)
      have HK0 := hide (show ∀ X : World, (X.cell? ⟨w.heap.size, 0, none⟩ = some (.int .i64 qv) ∧ X.cell? ⟨w.heap.size, 1, none⟩ = some (.slice Av nv cv) ∧ X.cell? ⟨w.heap.size, 2, none⟩ = some (.int .i64 yv) ∧ X.cell? ⟨w.heap.size, 3, none⟩ = some (.int .i64 zv) ∧ X.cell? ⟨w.heap.size, 4, none⟩ = some (.slice Dv mv dv)) ∧ Below x.heap.size x X → Below x.heap.size x X from fun X h => h.2)
      have HRa := hide (show ∀ X : World, (X.cell? ⟨w.heap.size, 0, none⟩ = some (.int .i64 qv) ∧ X.cell? ⟨w.heap.size, 1, none⟩ = some (.slice Av nv cv) ∧ X.cell? ⟨w.heap.size, 2, none⟩ = some (.int .i64 yv) ∧ X.cell? ⟨w.heap.size, 3, none⟩ = some (.int .i64 zv) ∧ X.cell? ⟨w.heap.size, 4, none⟩ = some (.slice Dv mv dv)) ∧ Below x.heap.size x X → RxV X ok (.agg #[.int .i64 qv, .slice Av nv cv, .int .i64 yv, .int .i64 zv, .slice Dv mv dv]) r from fun X h => R2.out.kept h.2)
      go_region_held3 (fun w' => (w'.cell? ⟨w.heap.size, 0, none⟩ = some (.int .i64 qv) ∧ w'.cell? ⟨w.heap.size, 1, none⟩ = some (.slice Av nv cv) ∧ w'.cell? ⟨w.heap.size, 2, none⟩ = some (.int .i64 yv) ∧ w'.cell? ⟨w.heap.size, 3, none⟩ = some (.int .i64 zv) ∧ w'.cell? ⟨w.heap.size, 4, none⟩ = some (.slice Dv mv dv)) ∧ Below x.heap.size x w')
        (first | exact HK.out _ HS0.out | exact HKs.out _ _ (by assumption) hb4)
        (first
          | (go_at_call 20; with_reducible refine (H20.out _ (rxv_rgs (HRa.out _ ?_))).mono ?_; assumption; rintro e w4 ⟨rfl, hb4⟩)
          | (go_at_call 21; with_reducible refine (H21.out _ (rxv_rgs (HRa.out _ ?_))).mono ?_; assumption; rintro e w4 ⟨rfl, hb4⟩))
      all_goals
        have hX := HK0.out w4 (by assumption)
        have B3 := hide (bgo B2.out hX)
        have R3 := hide (R2.out.kept hX)
        have F3 := hide (F2.out.keep hX)
        clear hX HK HS0 HKs HKb HK0 HRa
        clear t0 t1 t2 t3 t4
        obtain ⟨-, t0, t1, t2, t3, t4⟩ := F3.out
        go_wp2_with fail
        with_reducible refine (HR.out _ _ _ R3.out).mono ?_
        rintro e w5 ⟨rfl, hb⟩
        have B5 := hide (bgo B3.out hb)
        clear hb B3 R3 F3 t0 t1 t2 t3 t4
        go_wp2
        go_ret
        exact ⟨rfl, B5.out⟩
  · have HS := hide (fun (W : World) (ok : Nat → Prop) (v : Value) (h : RxV W ok v r) => (decide_eq_false hsm) ▸ small11 h)
    clear A C F hsm
    go_enter Tryz.func6, Tryz.ntmps6
    go_wp2_with fail
    with_reducible refine HA.out.mono ?_
    rintro e w1 ⟨rfl, hb⟩
    have B1 := hide (bgo Bv.out hb)
    have R1 := hide (Rv.out.kept hb)
    have F1 := hide (Fv.out.keep hb)
    clear hb Bv Rv Fv
    obtain ⟨-, t0, t1, t2, t3, t4⟩ := F1.out
    go_wp2_with fail
    with_reducible refine (HS.out _ _ _ R1.out).mono ?_
    rintro e w2 ⟨rfl, hb⟩
    have B2 := hide (bgo B1.out hb)
    have R2 := hide (R1.out.kept hb)
    have F2 := hide (F1.out.keep hb)
    clear hb B1 R1 F1 t0 t1 t2 t3 t4
    obtain ⟨-, t0, t1, t2, t3, t4⟩ := F2.out
    go_wp2
    go_ret
    exact ⟨rfl, B2.out⟩


end Go.Proofs.YtmiegjefmebpdaaGreatDoor
