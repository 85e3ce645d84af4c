/- Layer 8: laws 4, 5, 7, 8 over the contracts. -/
import Derived.Test.YtmiegjefmebpdaaGreatDoorKR
namespace Go.Proofs.YtmiegjefmebpdaaGreatDoor
open Go.RowKit

def AliveC : Prop := ∀ w : World, Calls Tryz.prog 10 #[] w fun e w' => e = .returned (.bool true) ∧ Below w.heap.size w w'
theorem small_ok {r : Rx} (h : lawSz 30 r ≤ 100) : sizeR r ≤ 1000 ∧ depthR r ≤ 1000 ∧ Tame r := by
  obtain ⟨h1, h2, h3⟩ := lawSz_ok 30 r h
  exact ⟨by omega, by omega, h3⟩

set_option maxRecDepth 100000 in
set_option maxHeartbeats 6400000 in
theorem law4 (C : Cs) (A : AliveC) (s : ByteArray) (hs : s.size ≤ 9223372036854775807) (w : World) : Calls Tryz.prog 4 #[.string s] w fun e w' => e = .returned (.bool true) ∧ Below w.heap.size w w' := by
  have HA := hide (A w)
  have hsb : (s.size : Int) ≤ 9223372036854775807 := by omega
  by_cases h6 : 600 < s.size
  · have h6' : (600 : Int) < (s.size : Int) := by omega
    clear A C
    go_enter Tryz.func4, Tryz.ntmps4
    go_wp2_with fail
    with_reducible refine HA.out.mono ?_
    rintro e w1 ⟨rfl, hb⟩
    have B1 := hide hb
    clear hb
    go_wp2
    go_ret
    exact ⟨rfl, B1.out⟩
  · have h6' : ¬ (600 : Int) < (s.size : Int) := by omega
    obtain ⟨p, hp⟩ : ∃ p, parseS s.data.toList = p := ⟨_, rfl⟩
    have HP := hide (fun W : World => C.parse s W (by omega))
    have HQ := hide (fun W : World => rparse17 s hs W)
    rw [hp] at HP HQ
    obtain ⟨r, z⟩ := p
    clear A C hp
    go_enter Tryz.func4, Tryz.ntmps4
    go_wp2_with fail
    with_reducible refine HA.out.mono ?_
    rintro e w1 ⟨rfl, hb⟩
    have B1 := hide hb
    clear hb
    go_wp2_with fail
    with_reducible refine (HP.out _).mono ?_
    rintro e w2 ⟨v, ok, rfl, hr, hb⟩
    obtain ⟨qa, Aa, na, ca, ya, za, Da, ma, da, rfl⟩ := hr.agg9
    have hbA := bnew (Below.refl _ w2) (.cells #[.int .i64 qa, .slice Aa na ca, .int .i64 ya, .int .i64 za, .slice Da ma da] 25)
    have Ba := hide (bgo (bgo B1.out hb) hbA)
    have Ra := hide (hr.kept hbA)
    have Fa := hide (five_new w2 (.int .i64 qa) (.slice Aa na ca) (.int .i64 ya) (.int .i64 za) (.slice Da ma da) 25)
    clear hr hb hbA
    go_wp2_with fail
    with_reducible refine (HQ.out _).mono ?_
    rintro e w3 ⟨v, rfl, hr, hb⟩
    obtain ⟨qb, Ab, nb, cb, yb, zb, Db, mb, db, rfl⟩ := hr.agg9
    have hbA := bnew (Below.refl _ w3) (.cells #[.int .i64 qb, .slice Ab nb cb, .int .i64 yb, .int .i64 zb, .slice Db mb db] 25)
    have Bb := hide (bgo (bgo Ba.out hb) hbA)
    have Rb := hide (hr.kept hbA)
    have Fb := hide (five_new w3 (.int .i64 qb) (.slice Ab nb cb) (.int .i64 yb) (.int .i64 zb) (.slice Db mb db) 25)
    have Fab := hide ((Fa.out.keep hb).keep hbA)
    have Rab := hide ((Ra.out.kept hb).kept hbA)
    clear hr hb hbA
    obtain ⟨-, t0, t1, t2, t3, t4⟩ := Fab.out
    obtain ⟨-, u0, u1, u2, u3, u4⟩ := Fb.out
    go_wp2_with fail
    with_reducible refine (same15 _ _ _ _ _ _ _ Rab.out Rb.out true (by simp)).mono ?_
    rintro e w4 ⟨rfl, hb⟩
    have B4 := hide (bgo Bb.out hb)
    clear hb t0 t1 t2 t3 t4 u0 u1 u2 u3 u4
    go_wp2
    go_ret
    exact ⟨rfl, B4.out⟩

set_option maxRecDepth 100000 in
set_option maxHeartbeats 6400000 in
theorem law5 (C : Cs) (A : AliveC) {ok : Nat → Prop} {v : Value} {r : Rx} (w : World) (hv : RxV w ok v r) : Calls Tryz.prog 5 #[v] w fun e w' => e = .returned (.bool true) ∧ Below w.heap.size w w' := by
  obtain ⟨qv, Av, nv, cv, yv, zv, Dv, mv, dv, rfl⟩ := hv.agg9
  have hbA := bnew (Below.refl _ w) (.cells #[.int .i64 qv, .slice Av nv cv, .int .i64 yv, .int .i64 zv, .slice Dv mv dv] 25)
  have Bv := hide hbA
  have Rv := hide (hv.kept hbA)
  have Fv := hide (five_new w (.int .i64 qv) (.slice Av nv cv) (.int .i64 yv) (.int .i64 zv) (.slice Dv mv dv) 25)
  have HA := hide (A (w.alloc (.cells #[.int .i64 qv, .slice Av nv cv, .int .i64 yv, .int .i64 zv, .slice Dv mv dv] 25)))
  clear hv hbA
  by_cases hsm : lawSz 30 r ≤ 100
  · obtain ⟨k1, k2, k3⟩ := small_ok hsm
    have HS := hide (fun (W : World) (ok : Nat → Prop) (v : Value) (h : RxV W ok v r) => (decide_eq_true hsm) ▸ small11 h)
    obtain ⟨X, hX⟩ : ∃ X, bs (printS r).1 = X := ⟨_, rfl⟩
    obtain ⟨z, hz⟩ : ∃ z, (printS r).2 = z := ⟨_, rfl⟩
    have HP := hide (fun (W : World) (ok : Nat → Prop) (v : Value) (h : RxV W ok v r) => C.print W ok v r h k1 k2 k3)
    have HQ := hide (fun (W : World) (ok : Nat → Prop) (v : Value) (h : RxV W ok v r) => print19 h (by omega) (by omega) k3)
    rw [hX, hz] at HP HQ
    clear A C hX hz k1 k2 k3 hsm
    go_enter Tryz.func5, Tryz.ntmps5
    go_wp2_with fail
    with_reducible refine HA.out.mono ?_
    rintro e w1 ⟨rfl, hb⟩
    have B1 := hide (bgo Bv.out hb)
    have R1 := hide (Rv.out.kept hb)
    have F1 := hide (Fv.out.keep hb)
    clear hb Bv Rv Fv
    obtain ⟨-, t0, t1, t2, t3, t4⟩ := F1.out
    go_wp2_with fail
    with_reducible refine (HS.out _ _ _ R1.out).mono ?_
    rintro e w2 ⟨rfl, hb⟩
    have B2 := hide (bgo B1.out hb)
    have R2 := hide (R1.out.kept hb)
    have F2 := hide (F1.out.keep hb)
    clear hb B1 R1 F1 t0 t1 t2 t3 t4
    obtain ⟨-, t0, t1, t2, t3, t4⟩ := F2.out
    go_wp2_with fail
    with_reducible refine (HP.out _ _ _ R2.out).mono ?_
    rintro e w3 ⟨rfl, hb⟩
    have B3 := hide (bgo B2.out hb)
    have R3 := hide (R2.out.kept hb)
    have F3 := hide (F2.out.keep hb)
    clear hb B2 R2 F2 t0 t1 t2 t3 t4
    obtain ⟨-, t0, t1, t2, t3, t4⟩ := F3.out
    go_wp2_with fail
    with_reducible refine (HQ.out _ _ _ R3.out).mono ?_
    rintro e w4 ⟨rfl, hb⟩
    have B4 := hide (bgo B3.out hb)
    clear hb B3 R3 F3 t0 t1 t2 t3 t4
    go_wp2
    go_ret
    exact ⟨rfl, B4.out⟩
  · have HS := hide (fun (W : World) (ok : Nat → Prop) (v : Value) (h : RxV W ok v r) => (decide_eq_false hsm) ▸ small11 h)
    clear A C hsm
    go_enter Tryz.func5, Tryz.ntmps5
    go_wp2_with fail
    with_reducible refine HA.out.mono ?_
    rintro e w1 ⟨rfl, hb⟩
    have B1 := hide (bgo Bv.out hb)
    have R1 := hide (Rv.out.kept hb)
    have F1 := hide (Fv.out.keep hb)
    clear hb Bv Rv Fv
    obtain ⟨-, t0, t1, t2, t3, t4⟩ := F1.out
    go_wp2_with fail
    with_reducible refine (HS.out _ _ _ R1.out).mono ?_
    rintro e w2 ⟨rfl, hb⟩
    have B2 := hide (bgo B1.out hb)
    have R2 := hide (R1.out.kept hb)
    have F2 := hide (F1.out.keep hb)
    clear hb B1 R1 F1 t0 t1 t2 t3 t4
    obtain ⟨-, t0, t1, t2, t3, t4⟩ := F2.out
    go_wp2
    go_ret
    exact ⟨rfl, B2.out⟩

set_option maxRecDepth 100000 in
set_option maxHeartbeats 6400000 in
theorem law7 (C : Cs) (A : AliveC) {ok : Nat → Prop} {v : Value} {r : Rx} (w : World) (hv : RxV w ok v r) : Calls Tryz.prog 7 #[v] w fun e w' => e = .returned (.bool true) ∧ Below w.heap.size w w' := by
  obtain ⟨qv, Av, nv, cv, yv, zv, Dv, mv, dv, rfl⟩ := hv.agg9
  have hbA := bnew (Below.refl _ w) (.cells #[.int .i64 qv, .slice Av nv cv, .int .i64 yv, .int .i64 zv, .slice Dv mv dv] 25)
  have Bv := hide hbA
  have Rv := hide (hv.kept hbA)
  have Fv := hide (five_new w (.int .i64 qv) (.slice Av nv cv) (.int .i64 yv) (.int .i64 zv) (.slice Dv mv dv) 25)
  have HA := hide (A (w.alloc (.cells #[.int .i64 qv, .slice Av nv cv, .int .i64 yv, .int .i64 zv, .slice Dv mv dv] 25)))
  clear hv hbA
  by_cases hsm : lawSz 30 r ≤ 100
  · obtain ⟨k1, k2, k3⟩ := small_ok hsm
    have HS := hide (fun (W : World) (ok : Nat → Prop) (v : Value) (h : RxV W ok v r) => (decide_eq_true hsm) ▸ small11 h)
    have HP := hide (fun (W : World) (ok : Nat → Prop) (v : Value) (h : RxV W ok v r) => C.print W ok v r h k1 k2 k3)
    by_cases h0 : (printS r).2 = 0
    · obtain ⟨u, hu⟩ : ∃ u, (printS r).1 = u := ⟨_, rfl⟩
      have hpr : printS r = (u, 0) := by rw [← hu, ← h0]
      obtain ⟨g1, g2, g3⟩ := print_back r u hpr
      have hsz : (bs u).size ≤ 100000 := by rw [bs_size]; omega
      have HQ := hide (fun W : World => show Calls Tryz.prog 16 #[.string (bs u)] W (GotX W (r, 0)) from (by have h := C.parse (bs u) W hsz; rw [bs_list, g1] at h; exact h))
      have HR := hide (fun (W : World) (ok : Nat → Prop) (v : Value) (h : RxV W ok v r) => C.right W ok v r h k1 k2)
      rw [g2] at HR
      rw [hpr] at HP
      clear A C k1 k2 k3 hsm h0 hu hpr g1 g2 g3 hsz
      go_enter Tryz.func7, Tryz.ntmps7
      go_wp2_with fail
      with_reducible refine HA.out.mono ?_
      rintro e w1 ⟨rfl, hb⟩
      have B1 := hide (bgo Bv.out hb)
      have R1 := hide (Rv.out.kept hb)
      have F1 := hide (Fv.out.keep hb)
      clear hb Bv Rv Fv
      obtain ⟨-, t0, t1, t2, t3, t4⟩ := F1.out
      go_wp2_with fail
      with_reducible refine (HS.out _ _ _ R1.out).mono ?_
      rintro e w2 ⟨rfl, hb⟩
      have B2 := hide (bgo B1.out hb)
      have R2 := hide (R1.out.kept hb)
      have F2 := hide (F1.out.keep hb)
      clear hb B1 R1 F1 t0 t1 t2 t3 t4
      obtain ⟨-, t0, t1, t2, t3, t4⟩ := F2.out
      go_wp2_with fail
      with_reducible refine (HP.out _ _ _ R2.out).mono ?_
      rintro e w3 ⟨rfl, hb⟩
      have B3 := hide (bgo B2.out hb)
      have R3 := hide (R2.out.kept hb)
      have F3 := hide (F2.out.keep hb)
      clear hb B2 R2 F2 t0 t1 t2 t3 t4
      go_wp2_with fail
      with_reducible refine (HQ.out _).mono ?_
      rintro e w4 ⟨v, ok', rfl, hr, hb⟩
      obtain ⟨qg, Ag, ng, cg, yg, zg, Dg, mg, dg, rfl⟩ := hr.agg9
      have hbA := bnew (Below.refl _ w4) (.cells #[.int .i64 qg, .slice Ag ng cg, .int .i64 yg, .int .i64 zg, .slice Dg mg dg] 25)
      have Bg := hide (bgo (bgo B3.out hb) hbA)
      have Rg := hide (hr.kept hbA)
      have Fg := hide (five_new w4 (.int .i64 qg) (.slice Ag ng cg) (.int .i64 yg) (.int .i64 zg) (.slice Dg mg dg) 25)
      have F3g := hide ((F3.out.keep hb).keep hbA)
      have R3g := hide ((R3.out.kept hb).kept hbA)
      clear hr hb hbA
      obtain ⟨-, t0, t1, t2, t3, t4⟩ := F3g.out
      obtain ⟨-, u0, u1, u2, u3, u4⟩ := Fg.out
      go_wp2_with fail
      with_reducible refine (HR.out _ _ _ R3g.out).mono ?_
      rintro e w5 ⟨rfl, hb⟩
      have B5 := hide (bgo Bg.out hb)
      have R5 := hide (R3g.out.kept hb)
      have S5 := hide (Rg.out.kept hb)
      have F5 := hide (F3g.out.keep hb)
      have G5 := hide (Fg.out.keep hb)
      clear hb t0 t1 t2 t3 t4 u0 u1 u2 u3 u4
      obtain ⟨-, t0, t1, t2, t3, t4⟩ := F5.out
      obtain ⟨-, u0, u1, u2, u3, u4⟩ := G5.out
      go_wp2_with fail
      with_reducible refine (same15 _ _ _ _ _ _ _ R5.out S5.out true (by simp)).mono ?_
      rintro e w6 ⟨rfl, hb⟩
      have B6 := hide (bgo B5.out hb)
      clear hb t0 t1 t2 t3 t4 u0 u1 u2 u3 u4
      go_wp2
      go_ret
      exact ⟨rfl, B6.out⟩
    · have hpe : printS r = ([], (printS r).2) := by
        unfold printS at h0 ⊢
        split
        · rename_i h1
          rw [if_pos h1] at h0
          split
          · rename_i t ht
            rw [ht] at h0
            dsimp only at h0
            split
            · rfl
            · rename_i h2
              rw [if_neg h2] at h0
              exact absurd rfl h0
          · rfl
        · rfl
      obtain ⟨z, hz⟩ : ∃ z, (printS r).2 = z := ⟨_, rfl⟩
      rw [hz] at hpe h0
      rw [hpe] at HP
      have hzn : (z != 0) = true := bne_iff_ne.2 h0
      have hbs : bs [] = ⟨#[]⟩ := rfl
      rw [hbs] at HP
      clear A C k1 k2 k3 hsm h0 hpe hz hbs
      go_enter Tryz.func7, Tryz.ntmps7
      go_wp2_with fail
      with_reducible refine HA.out.mono ?_
      rintro e w1 ⟨rfl, hb⟩
      have B1 := hide (bgo Bv.out hb)
      have R1 := hide (Rv.out.kept hb)
      have F1 := hide (Fv.out.keep hb)
      clear hb Bv Rv Fv
      obtain ⟨-, t0, t1, t2, t3, t4⟩ := F1.out
      go_wp2_with fail
      with_reducible refine (HS.out _ _ _ R1.out).mono ?_
      rintro e w2 ⟨rfl, hb⟩
      have B2 := hide (bgo B1.out hb)
      have R2 := hide (R1.out.kept hb)
      have F2 := hide (F1.out.keep hb)
      clear hb B1 R1 F1 t0 t1 t2 t3 t4
      obtain ⟨-, t0, t1, t2, t3, t4⟩ := F2.out
      go_wp2_with fail
      with_reducible refine (HP.out _ _ _ R2.out).mono ?_
      rintro e w3 ⟨rfl, hb⟩
      have B3 := hide (bgo B2.out hb)
      clear hb B2 R2 F2 t0 t1 t2 t3 t4
      go_wp2
      go_ret
      exact ⟨rfl, B3.out⟩
  · have HS := hide (fun (W : World) (ok : Nat → Prop) (v : Value) (h : RxV W ok v r) => (decide_eq_false hsm) ▸ small11 h)
    clear A C hsm
    go_enter Tryz.func7, Tryz.ntmps7
    go_wp2_with fail
    with_reducible refine HA.out.mono ?_
    rintro e w1 ⟨rfl, hb⟩
    have B1 := hide (bgo Bv.out hb)
    have R1 := hide (Rv.out.kept hb)
    have F1 := hide (Fv.out.keep hb)
    clear hb Bv Rv Fv
    obtain ⟨-, t0, t1, t2, t3, t4⟩ := F1.out
    go_wp2_with fail
    with_reducible refine (HS.out _ _ _ R1.out).mono ?_
    rintro e w2 ⟨rfl, hb⟩
    have B2 := hide (bgo B1.out hb)
    have R2 := hide (R1.out.kept hb)
    have F2 := hide (F1.out.keep hb)
    clear hb B1 R1 F1 t0 t1 t2 t3 t4
    obtain ⟨-, t0, t1, t2, t3, t4⟩ := F2.out
    go_wp2
    go_ret
    exact ⟨rfl, B2.out⟩

theorem parse_err {d : List UInt8} (h : (parseS d).2 ≠ 0) : (parseS d).1 = rx0 := by
  unfold parseS at h ⊢
  split
  · rfl
  · rename_i h1
    rw [if_neg h1] at h
    split
    · rename_i r hr
      rw [hr] at h
      dsimp only at h
      split
      · rename_i h2
        rw [if_pos h2] at h
        exact absurd rfl h
      · rfl
    · rfl

set_option maxRecDepth 100000 in
set_option maxHeartbeats 6400000 in
theorem law8 (C : Cs) (A : AliveC) (s : ByteArray) (hs : s.size ≤ 9223372036854775807) (w : World) : Calls Tryz.prog 8 #[.string s] w fun e w' => e = .returned (.bool true) ∧ Below w.heap.size w w' := by
  have HA := hide (A w)
  have hsb : (s.size : Int) ≤ 9223372036854775807 := by omega
  by_cases h6 : 600 < s.size
  · have h6' : (600 : Int) < (s.size : Int) := by omega
    clear A C
    go_enter Tryz.func8, Tryz.ntmps8
    go_wp2_with fail
    with_reducible refine HA.out.mono ?_
    rintro e w1 ⟨rfl, hb⟩
    have B1 := hide hb
    clear hb
    go_wp2
    go_ret
    exact ⟨rfl, B1.out⟩
  have h6' : ¬ (600 : Int) < (s.size : Int) := by omega
  obtain ⟨p, hp⟩ : ∃ p, parseS s.data.toList = p := ⟨_, rfl⟩
  have HP := hide (fun W : World => C.parse s W (by omega))
  have hpe := parse_err (d := s.data.toList)
  obtain ⟨k1, k2, k3⟩ := parse_small s.data.toList
  rw [hp] at HP hpe k1 k2 k3
  obtain ⟨r, z⟩ := p
  by_cases hz : z = 0
  · subst hz
    have hrr := parse_right _ _ hp
    have HR := hide (fun (W : World) (ok : Nat → Prop) (v : Value) (h : RxV W ok v r) => C.right W ok v r h k1 k2)
    rw [hrr] at HR
    have HW := hide (fun (W : World) (ok : Nat → Prop) (v : Value) (h : RxV W ok v r) => C.print W ok v r h k1 k2 k3)
    by_cases h0 : (printS r).2 = 0
    · obtain ⟨u, hu⟩ : ∃ u, (printS r).1 = u := ⟨_, rfl⟩
      have hpr : printS r = (u, 0) := by rw [← hu, ← h0]
      obtain ⟨g1, g2, g3⟩ := print_back r u hpr
      have hsz : (bs u).size ≤ 100000 := by rw [bs_size]; omega
      have HQ := hide (fun W : World => show Calls Tryz.prog 16 #[.string (bs u)] W (GotX W (r, 0)) from (by have h := C.parse (bs u) W hsz; rw [bs_list, g1] at h; exact h))
      rw [hpr] at HW
      obtain ⟨U, hU⟩ : ∃ U, bs u = U := ⟨_, rfl⟩
      dsimp only at HW
      have hU3 : (U.size : Int) ≤ 300 := by rw [← hU, bs_size]; omega
      rw [hU] at HW HQ
      clear A C k1 k2 k3 h0 hu hpr g1 g2 g3 hsz hU hpe hp hrr
      go_enter Tryz.func8, Tryz.ntmps8
      go_wp2_with fail
      with_reducible refine HA.out.mono ?_
      rintro e w1 ⟨rfl, hb⟩
      have B1 := hide hb
      clear hb
      go_wp2_with fail
      with_reducible refine (HP.out _).mono ?_
      rintro e w2 ⟨v, ok, rfl, hr, hb⟩
      obtain ⟨qa, Aa, na, ca, ya, za, Da, ma, da, rfl⟩ := hr.agg9
      have hbA := bnew (Below.refl _ w2) (.cells #[.int .i64 qa, .slice Aa na ca, .int .i64 ya, .int .i64 za, .slice Da ma da] 25)
      have Ba := hide (bgo (bgo B1.out hb) hbA)
      have Ra := hide (hr.kept hbA)
      have Fa := hide (five_new w2 (.int .i64 qa) (.slice Aa na ca) (.int .i64 ya) (.int .i64 za) (.slice Da ma da) 25)
      clear hr hb hbA
      obtain ⟨-, t0, t1, t2, t3, t4⟩ := Fa.out
      go_wp2_with fail
      with_reducible refine (HR.out _ _ _ Ra.out).mono ?_
      rintro e w3 ⟨rfl, hb⟩
      have B3 := hide (bgo Ba.out hb)
      have R3 := hide (Ra.out.kept hb)
      have F3 := hide (Fa.out.keep hb)
      clear hb t0 t1 t2 t3 t4
      obtain ⟨-, t0, t1, t2, t3, t4⟩ := F3.out
      go_wp2_with fail
      with_reducible refine (HW.out _ _ _ R3.out).mono ?_
      rintro e w4 ⟨rfl, hb⟩
      have B4 := hide (bgo B3.out hb)
      have R4 := hide (R3.out.kept hb)
      have F4 := hide (F3.out.keep hb)
      clear hb t0 t1 t2 t3 t4
      go_wp2_with fail
      with_reducible refine (HQ.out _).mono ?_
      rintro e w5 ⟨v, ok', rfl, hr, hb⟩
      obtain ⟨qg, Ag, ng, cg, yg, zg, Dg, mg, dg, rfl⟩ := hr.agg9
      have hbA := bnew (Below.refl _ w5) (.cells #[.int .i64 qg, .slice Ag ng cg, .int .i64 yg, .int .i64 zg, .slice Dg mg dg] 25)
      have Bg := hide (bgo (bgo B4.out hb) hbA)
      have Rg := hide (hr.kept hbA)
      have Fg := hide (five_new w5 (.int .i64 qg) (.slice Ag ng cg) (.int .i64 yg) (.int .i64 zg) (.slice Dg mg dg) 25)
      have F4g := hide ((F4.out.keep hb).keep hbA)
      have R4g := hide ((R4.out.kept hb).kept hbA)
      clear hr hb hbA
      obtain ⟨-, u0, u1, u2, u3, u4⟩ := Fg.out
      go_wp2_with fail
      with_reducible refine (HW.out _ _ _ Rg.out).mono ?_
      rintro e w6 ⟨rfl, hb⟩
      have B6 := hide (bgo Bg.out hb)
      have R6 := hide (R4g.out.kept hb)
      have S6 := hide (Rg.out.kept hb)
      have F6 := hide (F4g.out.keep hb)
      have G6 := hide (Fg.out.keep hb)
      clear hb u0 u1 u2 u3 u4
      obtain ⟨-, t0, t1, t2, t3, t4⟩ := F6.out
      obtain ⟨-, u0, u1, u2, u3, u4⟩ := G6.out
      go_wp2_with fail
      with_reducible refine (same15 _ _ _ _ _ _ _ R6.out S6.out true (by simp)).mono ?_
      rintro e w7 ⟨rfl, hb⟩
      have B7 := hide (bgo B6.out hb)
      clear hb t0 t1 t2 t3 t4 u0 u1 u2 u3 u4
      go_wp2
      go_ret
      exact ⟨rfl, B7.out⟩
    · have h3 := print_errs r hrr
      have h3' : (printS r).2 = 3 := by rcases h3 with h | h; exact absurd h h0; exact h
      rw [h3'] at HW
      clear A C k1 k2 k3 h0 h3 h3' hpe hp hrr
      go_enter Tryz.func8, Tryz.ntmps8
      go_wp2_with fail
      with_reducible refine HA.out.mono ?_
      rintro e w1 ⟨rfl, hb⟩
      have B1 := hide hb
      clear hb
      go_wp2_with fail
      with_reducible refine (HP.out _).mono ?_
      rintro e w2 ⟨v, ok, rfl, hr, hb⟩
      obtain ⟨qa, Aa, na, ca, ya, za, Da, ma, da, rfl⟩ := hr.agg9
      have hbA := bnew (Below.refl _ w2) (.cells #[.int .i64 qa, .slice Aa na ca, .int .i64 ya, .int .i64 za, .slice Da ma da] 25)
      have Ba := hide (bgo (bgo B1.out hb) hbA)
      have Ra := hide (hr.kept hbA)
      have Fa := hide (five_new w2 (.int .i64 qa) (.slice Aa na ca) (.int .i64 ya) (.int .i64 za) (.slice Da ma da) 25)
      clear hr hb hbA
      obtain ⟨-, t0, t1, t2, t3, t4⟩ := Fa.out
      go_wp2_with fail
      with_reducible refine (HR.out _ _ _ Ra.out).mono ?_
      rintro e w3 ⟨rfl, hb⟩
      have B3 := hide (bgo Ba.out hb)
      have R3 := hide (Ra.out.kept hb)
      have F3 := hide (Fa.out.keep hb)
      clear hb t0 t1 t2 t3 t4
      obtain ⟨-, t0, t1, t2, t3, t4⟩ := F3.out
      go_wp2_with fail
      with_reducible refine (HW.out _ _ _ R3.out).mono ?_
      rintro e w4 ⟨rfl, hb⟩
      have B4 := hide (bgo B3.out hb)
      clear hb t0 t1 t2 t3 t4
      go_wp2
      go_ret
      exact ⟨rfl, B4.out⟩
  · have hr0 : r = rx0 := hpe hz
    subst hr0
    have hzn : (z != 0) = true := bne_iff_ne.2 hz
    clear A C k1 k2 k3 hpe hp hz
    go_enter Tryz.func8, Tryz.ntmps8
    go_wp2_with fail
    with_reducible refine HA.out.mono ?_
    rintro e w1 ⟨rfl, hb⟩
    have B1 := hide hb
    clear hb
    go_wp2_with fail
    with_reducible refine (HP.out _).mono ?_
    rintro e w2 ⟨v, ok, rfl, hr, hb⟩
    obtain ⟨qa, Aa, na, ca, ya, za, Da, ma, da, rfl⟩ := hr.agg9
    have hbA := bnew (Below.refl _ w2) (.cells #[.int .i64 qa, .slice Aa na ca, .int .i64 ya, .int .i64 za, .slice Da ma da] 25)
    have Ba := hide (bgo (bgo B1.out hb) hbA)
    have Ra := hide (hr.kept hbA)
    have Fa := hide (five_new w2 (.int .i64 qa) (.slice Aa na ca) (.int .i64 ya) (.int .i64 za) (.slice Da ma da) 25)
    clear hr hb hbA
    obtain ⟨-, t0, t1, t2, t3, t4⟩ := Fa.out
    go_wp2_with fail
    with_reducible refine (same15 _ _ _ _ _ _ _ Ra.out (rxv_zero (ok := ok)) true (by simp)).mono ?_
    rintro e w3 ⟨rfl, hb⟩
    have B3 := hide (bgo Ba.out hb)
    clear hb t0 t1 t2 t3 t4
    go_wp2
    go_ret
    exact ⟨rfl, B3.out⟩

end Go.Proofs.YtmiegjefmebpdaaGreatDoor
