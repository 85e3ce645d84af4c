/- Layer 8: law 3 over the contracts. -/
import Derived.Test.YtmiegjefmebpdaaGreatDoorKS
import Derived.Deep.RegionHeld3
namespace Go.Proofs.YtmiegjefmebpdaaGreatDoor
open Go.RowKit

theorem bel_self (x : World) : Below x.heap.size x x.drew := bel_drew x

set_option maxRecDepth 100000 in
set_option maxHeartbeats 6400000 in
theorem law3 (C : Cs) (A : AliveC) {ok ok' : Nat → Prop} {v v' : Value} {r r' : Rx} (w : World) (hv : RxV w ok v r) (hv' : RxV w ok' v' r') : Calls Tryz.prog 3 #[v, v'] w fun e w' => e = .returned (.bool true) ∧ Below w.heap.size w w' := by
  obtain ⟨qa, Aa, na, ca, ya, za, Da, ma, da, rfl⟩ := hv.agg9
  obtain ⟨qb, Ab, nb, cb, yb, zb, Db, mb, db, rfl⟩ := hv'.agg9
  have hbA := bnew (bnew (Below.refl _ w) (.cells #[.int .i64 qa, .slice Aa na ca, .int .i64 ya, .int .i64 za, .slice Da ma da] 25)) (.cells #[.int .i64 qb, .slice Ab nb cb, .int .i64 yb, .int .i64 zb, .slice Db mb db] 25)
  have Ra := hide (hv.kept hbA)
  have Rb := hide (hv'.kept hbA)
  have Fa := hide ((five_new w (.int .i64 qa) (.slice Aa na ca) (.int .i64 ya) (.int .i64 za) (.slice Da ma da) 25).keep (bnew (Below.refl _ _) (.cells #[.int .i64 qb, .slice Ab nb cb, .int .i64 yb, .int .i64 zb, .slice Db mb db] 25)))
  have fb := five_new (w.alloc (.cells #[.int .i64 qa, .slice Aa na ca, .int .i64 ya, .int .i64 za, .slice Da ma da] 25)) (.int .i64 qb) (.slice Ab nb cb) (.int .i64 yb) (.int .i64 zb) (.slice Db mb db) 25
  rw [show (w.alloc (.cells #[.int .i64 qa, .slice Aa na ca, .int .i64 ya, .int .i64 za, .slice Da ma da] 25)).heap.size = w.heap.size + 1 by simp] at fb
  have Fb := hide fb
  have Bv := hide hbA
  have HA := hide (A ((w.alloc (.cells #[.int .i64 qa, .slice Aa na ca, .int .i64 ya, .int .i64 za, .slice Da ma da] 25)).alloc (.cells #[.int .i64 qb, .slice Ab nb cb, .int .i64 yb, .int .i64 zb, .slice Db mb db] 25)))
  clear hv hv' hbA fb
  have HA0 := hide (show ∀ P : Prop, P → P from fun _ h => h)
  have HS := hide (fun (W : World) (ok : Nat → Prop) (v : Value) (r : Rx) (q : Bool) (hq : decide (lawSz 30 r ≤ 100) = q) (h : RxV W ok v r) => (hq ▸ small11 h : Calls Tryz.prog 11 #[v] W fun e w' => e = .returned (.bool q) ∧ Below W.heap.size W w'))
  obtain ⟨sa, hsa⟩ : ∃ q, decide (lawSz 30 r ≤ 100) = q := ⟨_, rfl⟩
  obtain ⟨sb, hsb⟩ : ∃ q, decide (lawSz 30 r' ≤ 100) = q := ⟨_, rfl⟩
  have HSa := hide (fun (W : World) (ok : Nat → Prop) (v : Value) (h : RxV W ok v r) => HS.out W ok v r sa hsa h)
  have HSb := hide (fun (W : World) (ok : Nat → Prop) (v : Value) (h : RxV W ok v r') => HS.out W ok v r' sb hsb h)
  cases sa with
  | false =>
    clear A C hsa hsb HS
    go_enter Tryz.func3, Tryz.ntmps3
    go_wp2_with fail
    with_reducible refine HA.out.mono ?_
    rintro e w1 ⟨rfl, hb⟩
    have B1 := hide (bgo Bv.out hb)
    have Ra1 := hide (Ra.out.kept hb)
    have Rb1 := hide (Rb.out.kept hb)
    have Fa1 := hide (Fa.out.keep hb)
    have Fb1 := hide (Fb.out.keep hb)
    clear hb Bv Ra Rb Fa Fb
    obtain ⟨-, t0, t1, t2, t3, t4⟩ := Fa1.out
    obtain ⟨-, u0, u1, u2, u3, u4⟩ := Fb1.out
    go_wp2_with fail
    with_reducible refine (HSa.out _ _ _ Ra1.out).mono ?_
    rintro e w2 ⟨rfl, hb⟩
    have B2 := hide (bgo B1.out hb)
    have Ra2 := hide (Ra1.out.kept hb)
    have Rb2 := hide (Rb1.out.kept hb)
    have Fa2 := hide (Fa1.out.keep hb)
    have Fb2 := hide (Fb1.out.keep hb)
    clear hb B1 Ra1 Rb1 Fa1 Fb1 t0 t1 t2 t3 t4 u0 u1 u2 u3 u4
    obtain ⟨-, t0, t1, t2, t3, t4⟩ := Fa2.out
    obtain ⟨-, u0, u1, u2, u3, u4⟩ := Fb2.out
    go_wp2
    go_ret
    exact ⟨rfl, B2.out⟩
  | true =>
    cases sb with
    | false =>
      clear A C hsa hsb HS
      go_enter Tryz.func3, Tryz.ntmps3
      go_wp2_with fail
      with_reducible refine HA.out.mono ?_
      rintro e w1 ⟨rfl, hb⟩
      have B1 := hide (bgo Bv.out hb)
      have Ra1 := hide (Ra.out.kept hb)
      have Rb1 := hide (Rb.out.kept hb)
      have Fa1 := hide (Fa.out.keep hb)
      have Fb1 := hide (Fb.out.keep hb)
      clear hb Bv Ra Rb Fa Fb
      obtain ⟨-, t0, t1, t2, t3, t4⟩ := Fa1.out
      obtain ⟨-, u0, u1, u2, u3, u4⟩ := Fb1.out
      go_wp2_with fail
      with_reducible refine (HSa.out _ _ _ Ra1.out).mono ?_
      rintro e w2 ⟨rfl, hb⟩
      have B2 := hide (bgo B1.out hb)
      have Ra2 := hide (Ra1.out.kept hb)
      have Rb2 := hide (Rb1.out.kept hb)
      have Fa2 := hide (Fa1.out.keep hb)
      have Fb2 := hide (Fb1.out.keep hb)
      clear hb B1 Ra1 Rb1 Fa1 Fb1 t0 t1 t2 t3 t4 u0 u1 u2 u3 u4
      obtain ⟨-, t0, t1, t2, t3, t4⟩ := Fa2.out
      obtain ⟨-, u0, u1, u2, u3, u4⟩ := Fb2.out
      go_wp2_with fail
      with_reducible refine (HSb.out _ _ _ Rb2.out).mono ?_
      rintro e w3 ⟨rfl, hb⟩
      have B3 := hide (bgo B2.out hb)
      have Ra3 := hide (Ra2.out.kept hb)
      have Rb3 := hide (Rb2.out.kept hb)
      have Fa3 := hide (Fa2.out.keep hb)
      have Fb3 := hide (Fb2.out.keep hb)
      clear hb B2 Ra2 Rb2 Fa2 Fb2 t0 t1 t2 t3 t4 u0 u1 u2 u3 u4
      go_wp2
      go_ret
      exact ⟨rfl, B3.out⟩
    | true =>
      obtain ⟨k1, k2, -⟩ := small_ok (of_decide_eq_true hsa)
      obtain ⟨k3, k4, -⟩ := small_ok (of_decide_eq_true hsb)
      obtain ⟨R, hR⟩ : ∃ R, rightR r = R := ⟨_, rfl⟩
      obtain ⟨q, hq⟩ : ∃ q, sameR r r' = q := ⟨_, rfl⟩
      have hqi : (q = true ↔ r = r') := by rw [← hq]; exact same_iff r r'
      have H12 := hide (fun (W : World) (ok : Nat → Prop) (v : Value) (h : RxV W ok v r) => C.right W ok v r h k1 k2)
      have H13 := hide (fun (W : World) (ok : Nat → Prop) (v : Value) (h : RxV W ok v r) => rright13 h (by omega) (by omega))
      rw [hR] at H12 H13
      have H14 := hide (fun (W : World) (ok ok' : Nat → Prop) (v v' : Value) (h : RxV W ok v r) (h' : RxV W ok' v' r') => C.same W ok ok' v v' r r' h h' k1 k3 k2 k4 q hqi)
      have H15 := hide (fun (W : World) (ok ok' : Nat → Prop) (v v' : Value) (h : RxV W ok v r) (h' : RxV W ok' v' r') => same15 r W ok ok' v v' r' h h' q hqi)
      have H16 := hide (fun (W : World) (ok : Nat → Prop) (v : Value) (h : RxV W ok v r) => C.same W ok ok v v r r h h k1 k1 k2 k2 true (by simp))
      clear A C hsa hsb HS k1 k2 k3 k4 hR hq hqi
      go_enter Tryz.func3, Tryz.ntmps3
      go_wp2_with fail
      with_reducible refine HA.out.mono ?_
      rintro e w1 ⟨rfl, hb⟩
      have B1 := hide (bgo Bv.out hb)
      have Ra1 := hide (Ra.out.kept hb)
      have Rb1 := hide (Rb.out.kept hb)
      have Fa1 := hide (Fa.out.keep hb)
      have Fb1 := hide (Fb.out.keep hb)
      clear hb Bv Ra Rb Fa Fb
      obtain ⟨-, t0, t1, t2, t3, t4⟩ := Fa1.out
      obtain ⟨-, u0, u1, u2, u3, u4⟩ := Fb1.out
      go_wp2_with fail
      with_reducible refine (HSa.out _ _ _ Ra1.out).mono ?_
      rintro e w2 ⟨rfl, hb⟩
      have B2 := hide (bgo B1.out hb)
      have Ra2 := hide (Ra1.out.kept hb)
      have Rb2 := hide (Rb1.out.kept hb)
      have Fa2 := hide (Fa1.out.keep hb)
      have Fb2 := hide (Fb1.out.keep hb)
      clear hb B1 Ra1 Rb1 Fa1 Fb1 t0 t1 t2 t3 t4 u0 u1 u2 u3 u4
      obtain ⟨-, t0, t1, t2, t3, t4⟩ := Fa2.out
      obtain ⟨-, u0, u1, u2, u3, u4⟩ := Fb2.out
      go_wp2_with fail
      with_reducible refine (HSb.out _ _ _ Rb2.out).mono ?_
      rintro e w3 ⟨rfl, hb⟩
      have B3 := hide (bgo B2.out hb)
      have Ra3 := hide (Ra2.out.kept hb)
      have Rb3 := hide (Rb2.out.kept hb)
      have Fa3 := hide (Fa2.out.keep hb)
      have Fb3 := hide (Fb2.out.keep hb)
      clear hb B2 Ra2 Rb2 Fa2 Fb2 t0 t1 t2 t3 t4 u0 u1 u2 u3 u4
      go_wp2_with fail
      obtain ⟨x, hx⟩ : ∃ x, x = w3 := ⟨_, rfl⟩
      subst hx
      have hq2 : (q == q) = true := by simp
      have HK := hide (show ∀ X : World, Below x.heap.size x X → (X.cell? ⟨w.heap.size, 0, none⟩ = some (.int .i64 qa) ∧ X.cell? ⟨w.heap.size, 1, none⟩ = some (.slice Aa na ca) ∧ X.cell? ⟨w.heap.size, 2, none⟩ = some (.int .i64 ya) ∧ X.cell? ⟨w.heap.size, 3, none⟩ = some (.int .i64 za) ∧ X.cell? ⟨w.heap.size, 4, none⟩ = some (.slice Da ma da) ∧ X.cell? ⟨(w.heap.size + 1), 0, none⟩ = some (.int .i64 qb) ∧ X.cell? ⟨(w.heap.size + 1), 1, none⟩ = some (.slice Ab nb cb) ∧ X.cell? ⟨(w.heap.size + 1), 2, none⟩ = some (.int .i64 yb) ∧ X.cell? ⟨(w.heap.size + 1), 3, none⟩ = some (.int .i64 zb) ∧ X.cell? ⟨(w.heap.size + 1), 4, none⟩ = some (.slice Db mb db)) ∧ Below x.heap.size x X from fun X hb => by
        obtain ⟨-, t0, t1, t2, t3, t4⟩ := Fa3.out.keep hb
        obtain ⟨-, u0, u1, u2, u3, u4⟩ := Fb3.out.keep hb
        exact ⟨⟨t0, t1, t2, t3, t4, u0, u1, u2, u3, u4⟩, hb⟩)
      have HS0 := hide (bel_drew x)
      have HKs := hide (show ∀ X Y : World, (X.cell? ⟨w.heap.size, 0, none⟩ = some (.int .i64 qa) ∧ X.cell? ⟨w.heap.size, 1, none⟩ = some (.slice Aa na ca) ∧ X.cell? ⟨w.heap.size, 2, none⟩ = some (.int .i64 ya) ∧ X.cell? ⟨w.heap.size, 3, none⟩ = some (.int .i64 za) ∧ X.cell? ⟨w.heap.size, 4, none⟩ = some (.slice Da ma da) ∧ X.cell? ⟨(w.heap.size + 1), 0, none⟩ = some (.int .i64 qb) ∧ X.cell? ⟨(w.heap.size + 1), 1, none⟩ = some (.slice Ab nb cb) ∧ X.cell? ⟨(w.heap.size + 1), 2, none⟩ = some (.int .i64 yb) ∧ X.cell? ⟨(w.heap.size + 1), 3, none⟩ = some (.int .i64 zb) ∧ X.cell? ⟨(w.heap.size + 1), 4, none⟩ = some (.slice Db mb db)) ∧ Below x.heap.size x X → Below X.heap.size X Y → (Y.cell? ⟨w.heap.size, 0, none⟩ = some (.int .i64 qa) ∧ Y.cell? ⟨w.heap.size, 1, none⟩ = some (.slice Aa na ca) ∧ Y.cell? ⟨w.heap.size, 2, none⟩ = some (.int .i64 ya) ∧ Y.cell? ⟨w.heap.size, 3, none⟩ = some (.int .i64 za) ∧ Y.cell? ⟨w.heap.size, 4, none⟩ = some (.slice Da ma da) ∧ Y.cell? ⟨(w.heap.size + 1), 0, none⟩ = some (.int .i64 qb) ∧ Y.cell? ⟨(w.heap.size + 1), 1, none⟩ = some (.slice Ab nb cb) ∧ Y.cell? ⟨(w.heap.size + 1), 2, none⟩ = some (.int .i64 yb) ∧ Y.cell? ⟨(w.heap.size + 1), 3, none⟩ = some (.int .i64 zb) ∧ Y.cell? ⟨(w.heap.size + 1), 4, none⟩ = some (.slice Db mb db)) ∧ Below x.heap.size x Y from fun X Y h hb => HK.out Y (bgo h.2 hb))
      have HKb := hide (show ∀ X : World, (X.cell? ⟨w.heap.size, 0, none⟩ = some (.int .i64 qa) ∧ X.cell? ⟨w.heap.size, 1, none⟩ = some (.slice Aa na ca) ∧ X.cell? ⟨w.heap.size, 2, none⟩ = some (.int .i64 ya) ∧ X.cell? ⟨w.heap.size, 3, none⟩ = some (.int .i64 za) ∧ X.cell? ⟨w.heap.size, 4, none⟩ = some (.slice Da ma da) ∧ X.cell? ⟨(w.heap.size + 1), 0, none⟩ = some (.int .i64 qb) ∧ X.cell? ⟨(w.heap.size + 1), 1, none⟩ = some (.slice Ab nb cb) ∧ X.cell? ⟨(w.heap.size + 1), 2, none⟩ = some (.int .i64 yb) ∧ X.cell? ⟨(w.heap.size + 1), 3, none⟩ = some (.int .i64 zb) ∧ X.cell? ⟨(w.heap.size + 1), 4, none⟩ = some (.slice Db mb db)) ∧ Below x.heap.size x X → Below w.heap.size w X from fun X h => bgo B3.out h.2)
      have HRa := hide (show ∀ X : World, (X.cell? ⟨w.heap.size, 0, none⟩ = some (.int .i64 qa) ∧ X.cell? ⟨w.heap.size, 1, none⟩ = some (.slice Aa na ca) ∧ X.cell? ⟨w.heap.size, 2, none⟩ = some (.int .i64 ya) ∧ X.cell? ⟨w.heap.size, 3, none⟩ = some (.int .i64 za) ∧ X.cell? ⟨w.heap.size, 4, none⟩ = some (.slice Da ma da) ∧ X.cell? ⟨(w.heap.size + 1), 0, none⟩ = some (.int .i64 qb) ∧ X.cell? ⟨(w.heap.size + 1), 1, none⟩ = some (.slice Ab nb cb) ∧ X.cell? ⟨(w.heap.size + 1), 2, none⟩ = some (.int .i64 yb) ∧ X.cell? ⟨(w.heap.size + 1), 3, none⟩ = some (.int .i64 zb) ∧ X.cell? ⟨(w.heap.size + 1), 4, none⟩ = some (.slice Db mb db)) ∧ Below x.heap.size x X → RxV X ok (.agg #[.int .i64 qa, .slice Aa na ca, .int .i64 ya, .int .i64 za, .slice Da ma da]) r from fun X h => Ra3.out.kept h.2)
      have HRb := hide (show ∀ X : World, (X.cell? ⟨w.heap.size, 0, none⟩ = some (.int .i64 qa) ∧ X.cell? ⟨w.heap.size, 1, none⟩ = some (.slice Aa na ca) ∧ X.cell? ⟨w.heap.size, 2, none⟩ = some (.int .i64 ya) ∧ X.cell? ⟨w.heap.size, 3, none⟩ = some (.int .i64 za) ∧ X.cell? ⟨w.heap.size, 4, none⟩ = some (.slice Da ma da) ∧ X.cell? ⟨(w.heap.size + 1), 0, none⟩ = some (.int .i64 qb) ∧ X.cell? ⟨(w.heap.size + 1), 1, none⟩ = some (.slice Ab nb cb) ∧ X.cell? ⟨(w.heap.size + 1), 2, none⟩ = some (.int .i64 yb) ∧ X.cell? ⟨(w.heap.size + 1), 3, none⟩ = some (.int .i64 zb) ∧ X.cell? ⟨(w.heap.size + 1), 4, none⟩ = some (.slice Db mb db)) ∧ Below x.heap.size x X → RxV X ok' (.agg #[.int .i64 qb, .slice Ab nb cb, .int .i64 yb, .int .i64 zb, .slice Db mb db]) r' from fun X h => Rb3.out.kept h.2)
      go_region_held3 (fun w' => (w'.cell? ⟨w.heap.size, 0, none⟩ = some (.int .i64 qa) ∧ w'.cell? ⟨w.heap.size, 1, none⟩ = some (.slice Aa na ca) ∧ w'.cell? ⟨w.heap.size, 2, none⟩ = some (.int .i64 ya) ∧ w'.cell? ⟨w.heap.size, 3, none⟩ = some (.int .i64 za) ∧ w'.cell? ⟨w.heap.size, 4, none⟩ = some (.slice Da ma da) ∧ w'.cell? ⟨(w.heap.size + 1), 0, none⟩ = some (.int .i64 qb) ∧ w'.cell? ⟨(w.heap.size + 1), 1, none⟩ = some (.slice Ab nb cb) ∧ w'.cell? ⟨(w.heap.size + 1), 2, none⟩ = some (.int .i64 yb) ∧ w'.cell? ⟨(w.heap.size + 1), 3, none⟩ = some (.int .i64 zb) ∧ w'.cell? ⟨(w.heap.size + 1), 4, none⟩ = some (.slice Db mb db)) ∧ Below x.heap.size x w')
        (first | exact HK.out _ HS0.out | exact HKs.out _ _ (by assumption) hb4)
        (first
          | (go_at_call 12; with_reducible refine (H12.out _ ok _ (HRa.out _ ?_)).mono ?_; assumption; rintro e w4 ⟨rfl, hb4⟩)
          | (go_at_call 13; with_reducible refine (H13.out _ ok _ (HRa.out _ ?_)).mono ?_; assumption; rintro e w4 ⟨rfl, hb4⟩)
          | (go_at_call 14; with_reducible refine (H14.out _ ok ok' _ _ (HRa.out _ ?_) (HRb.out _ ?_)).mono ?_; assumption; assumption; rintro e w4 ⟨rfl, hb4⟩)
          | (go_at_call 15; with_reducible refine (H15.out _ ok ok' _ _ (HRa.out _ ?_) (HRb.out _ ?_)).mono ?_; assumption; assumption; rintro e w4 ⟨rfl, hb4⟩)
          | (go_at_call 14; with_reducible refine (H16.out _ ok _ (HRa.out _ ?_)).mono ?_; assumption; rintro e w4 ⟨rfl, hb4⟩))
      all_goals
        have Bfin := HKb.out _ (by assumption)
        go_wp2
        go_ret
        exact ⟨rfl, Bfin⟩

end Go.Proofs.YtmiegjefmebpdaaGreatDoor
