/- Layer 10: walks of the reference: raw, Of, Simplify. -/
import Derived.Test.YtlnbjdlooghpeaaGreatQk
namespace Go.Proofs.YtlnbjdlooghpeaaGreat
open Go.RowKit

set_option maxRecDepth 100000 in
set_option maxHeartbeats 12800000 in
theorem rraw : ∀ (r : Rx), nodeR r = 0 → sizeR r ≤ 1000000 → ∀ (W : World) (ok : Nat → Prop) (v : Value), RxV W ok v r → Calls Tryz.prog 22 #[v] W (GotN W (rawR r)) := by
  intro r
  induction r using Rx.ind with
  | h k s a b l ih =>
    intro hnode hsz W ok v hv
    obtain ⟨i0, hi0, hz0, hz1, hz2⟩ := info_parts infoN
    obtain ⟨hfl, -, hsub⟩ := node_ok hnode
    obtain ⟨-, -, -, -, h4l, -, -⟩ := fields_of hfl
    have hv0 := hv
    rw [sizeR_mk] at hsz
    cases hv with
    | mk _ _ _ A B n c m d _ vs _ hset hvs hlen hk ha hb hr =>
    have hnc := hset.1
    have hcc := hset.2.1
    have hmd := hvs.1
    have hdd := hvs.2.1
    have hml : m ≤ 1000000 := by
      have : ∀ q : List Rx, q.length ≤ sizeL q := by
        intro q
        induction q with
        | nil => simp
        | cons x q iq => rw [sizeL_cons, List.length_cons]; have := sizeR_pos x; omega
      have := this l
      omega
    have Hvs := hide hvs
    have Hlen := hide hlen
    have Hr := hide hr
    have Hsub := hide hsub
    have H4l := hide h4l
    have Hih := hide (fun x hx W ok v (h : RxV W ok v x) => ih x hx (hsub x hx) (by have := sizeL_mem hx; omega) W ok v h)
    obtain ⟨h0, hh0⟩ : ∃ h0, W.heap.size = h0 := ⟨_, rfl⟩
    have hf0 := (five_new W (.int .i64 k) (.slice A n c) (.int .i64 a) (.int .i64 b) (.slice B m d) 25).keep (bel_alloc _ (.cells #[.int .i64 0, .int .i64 0, .slice none 0 0] 31))
    have hf1 := triF_new (W.alloc (.cells #[.int .i64 k, .slice A n c, .int .i64 a, .int .i64 b, .slice B m d] 25)) (.int .i64 0) (.int .i64 0) (.slice none 0 0) 31
    have hbb := bnew (bel_alloc W (.cells #[.int .i64 k, .slice A n c, .int .i64 a, .int .i64 b, .slice B m d] 25)) (.cells #[.int .i64 0, .int .i64 0, .slice none 0 0] 31)
    have hsz1 : (W.alloc (.cells #[.int .i64 k, .slice A n c, .int .i64 a, .int .i64 b, .slice B m d] 25)).heap.size = h0 + 1 := by simp [hh0]
    have hsz2 : ((W.alloc (.cells #[.int .i64 k, .slice A n c, .int .i64 a, .int .i64 b, .slice B m d] 25)).alloc (.cells #[.int .i64 0, .int .i64 0, .slice none 0 0] 31)).heap.size = h0 + 2 := by simp [hh0]
    rw [hsz1] at hf1
    rw [hh0] at hf0
    have hV := hv0.kept hbb
    obtain ⟨w1, hw1⟩ : ∃ w1, (W.alloc (.cells #[.int .i64 k, .slice A n c, .int .i64 a, .int .i64 b, .slice B m d] 25)).alloc (.cells #[.int .i64 0, .int .i64 0, .slice none 0 0] 31) = w1 := ⟨_, rfl⟩
    rw [hw1] at hf1 hf0 hbb hsz2 hV
    have HC := hide (rliterals true _ hnode w1 ok _ hV)
    have HV := hide hV
    have F0 := hide hf0
    have F1 := hide hf1
    have BB := hide hbb
    have Hh0 := hide hh0
    have Hw1 := hide hw1
    have Hz2 := hide hsz2
    have hs1 : h0 + 2 ≤ w1.heap.size := by omega
    clear hvs hlen hr hv0 ih hf0 hf1 hbb hsz1 hsz2 hset hV hsub h4l hfl hnode hsz hw1 hh0
    obtain ⟨-, t0, t1, t2, t3, t4⟩ := F0.out
    cases hl : litR true (.mk k s a b l) with
    | some L =>
      have HL := hide (litR_good _ L hl)
      rw [raw_lit hl]
      rw [hl] at HC
      clear hl
      go_enter Tryz.func22, Tryz.ntmps22
      go_upto_region 1 with fail
      rw [Hw1.out, Hh0.out]
      go_wp2_with fail
      with_reducible refine HC.out.mono ?_
      intro e w4 hg4
      obtain ⟨A4, n4, c4, rfl, hn4, hs4, hb4⟩ := gotO_some hg4
      have HD := hide (rofStrings hs4 (by have := HL.out.2.1; omega) (fun z hz => Nat.le_trans (HL.out.2.2 z hz) (by omega)))
      have B4 := hide (bgo BB.out hb4)
      have F14 := hide (F1.out.keep hb4)
      have hs44 := Nat.le_trans hs1 hb4.size
      clear hg4 hb4 hn4 hs4 HC t0 t1 t2 t3 t4
      go_wp2_with fail
      with_reducible refine HD.out.mono ?_
      rintro e w9 ⟨v9, rfl, hnd9, hb9⟩
      obtain ⟨zk, zg, zB, zm, zd, rfl, -, -, -, -⟩ := ndv_shape hnd9
      have ND9 := hide (show NdV w9 (fun g => h0 + 2 ≤ g) (.agg #[.int .i64 zk, .int .i64 zg, .slice zB zm zd]) _ from hnd9.weak fun g hg => Nat.le_trans hs44 hg)
      have B9 := hide (bgo B4.out hb9)
      have F9 := hide (F14.out.keep hb9)
      obtain ⟨⟨-, y0, y1, y2⟩, e0, e1, e2⟩ := F9.out
      clear hnd9 hb9
      go_wp2
      exact bodyPost_ret (res_box rfl _ _ (h0 + 1) _ _ _ rfl (put3_tri F9.out _ _ _)) rfl ⟨_, rfl, put3_ndv ND9.out (by omega) (fun g hg => by rw [Hh0.out]; omega), put3_below B9.out (by rw [Hh0.out]; omega)⟩
    | none =>
      rw [raw_none hl]
      rw [hl] at HC
      clear hl
      by_cases h2 : k = 2
      · have h2' := int_beq h2
        rw [if_pos h2]
        clear h2
        go_enter Tryz.func22, Tryz.ntmps22
        go_upto_region 1 with fail
        rw [Hw1.out, Hh0.out]
        go_wp2_with fail
        with_reducible refine HC.out.mono ?_
        intro e w4 hg4
        obtain ⟨A4, n4, c4, rfl, hb4⟩ := gotO_none hg4
        have B4 := hide (bgo BB.out hb4)
        have F14 := hide (F1.out.keep hb4)
        have hs44 := Nat.le_trans hs1 hb4.size
        have HD := hide (rparts (Hvs.out.below B4.out) Hlen.out hml (fun i v x h1 h2 => (Hr.out i v x h1 h2).kept B4.out) Hsub.out (fun x hx W ok v h => Hih.out x hx W ok v h))
        obtain ⟨-, t0, t1, t2, t3, t4⟩ := F0.out.keep hb4
        clear hg4 hb4 HC
        go_wp2_with fail
        with_reducible refine HD.out.mono ?_
        rintro e w9 ⟨v9, rfl, hnd9, hb9⟩
        obtain ⟨zk, zg, zB, zm, zd, rfl, -, -, -, -⟩ := ndv_shape hnd9
        have ND9 := hide (show NdV w9 (fun g => h0 + 2 ≤ g) (.agg #[.int .i64 zk, .int .i64 zg, .slice zB zm zd]) _ from hnd9.weak fun g hg => Nat.le_trans hs44 hg)
        have B9 := hide (bgo B4.out hb9)
        have F9 := hide (F14.out.keep hb9)
        obtain ⟨⟨-, y0, y1, y2⟩, e0, e1, e2⟩ := F9.out
        clear hnd9 hb9
        go_wp2
        exact bodyPost_ret (res_box rfl _ _ (h0 + 1) _ _ _ rfl (put3_tri F9.out _ _ _)) rfl ⟨_, rfl, put3_ndv ND9.out (by omega) (fun g hg => by rw [Hh0.out]; omega), put3_below B9.out (by rw [Hh0.out]; omega)⟩
      have h2' := int_nbeq h2
      rw [if_neg h2]
      by_cases h3 : k = 3
      · have h3' := int_beq h3
        rw [if_pos h3]
        clear h2 h3
        go_enter Tryz.func22, Tryz.ntmps22
        go_upto_region 1 with fail
        rw [Hw1.out, Hh0.out]
        go_wp2_with fail
        with_reducible refine HC.out.mono ?_
        intro e w4 hg4
        obtain ⟨A4, n4, c4, rfl, hb4⟩ := gotO_none hg4
        have B4 := hide (bgo BB.out hb4)
        have F14 := hide (F1.out.keep hb4)
        have F04 := hide (F0.out.keep hb4)
        have hs44 := Nat.le_trans hs1 hb4.size
        obtain ⟨-, t0, t1, t2, t3, t4⟩ := F04.out
        clear hg4 hb4 HC
        have hf5 := triF_new w4 (.int .i64 5) (.int .i64 0) (.slice none 0 0) 31
        have hbx := bel_alloc w4 (.cells #[.int .i64 5, .int .i64 0, .slice none 0 0] 31)
        have F5 := hide hf5
        have BX5 := hide hbx
        clear hf5 hbx
        go_wp2
        go_loopw [6] (fun u6 wr => ∃ i : Nat, i ≤ m ∧ u6 = .int .i64 (i : Int) ∧ (∃ vo done, TriF wr w4.heap.size (.int .i64 5) (.int .i64 0) vo ∧ OwnN wr (w4.heap.size + 1) (fun g => w4.heap.size + 1 ≤ g) vo done ∧ done = (l.take i).map rawR) ∧ Below w4.heap.size w4 wr) (fun u6 _ => m - (intOf u6).toNat)
        case atStart => exact ⟨0, Nat.zero_le _, rfl, ⟨_, [], F5.out, OwnN.nil _ _ _, by rw [List.take_zero]; rfl⟩, BX5.out⟩
        case round =>
          obtain ⟨i, hi, rfl, ⟨vo, done, hfo, hown, hdone⟩, hbel⟩ := hrel
          obtain ⟨x6, hx6⟩ : ∃ x6, x6 = wr := ⟨wr, rfl⟩
          subst hx6
          have X6 := hide hbel
          have FO := hide hfo
          have HO := hide hown
          have HD := hide hdone
          have hdl : done.length ≤ i := by rw [hdone, List.length_map, List.length_take]; omega
          have hs6 : w4.heap.size + 1 ≤ x6.heap.size := by have := hfo.1.1; omega
          have B6 := hide (bgo B4.out hbel)
          have F06 := hide (F04.out.keep hbel)
          have F16 := hide (F14.out.keep hbel)
          have hib : (i : Int) ≤ 1000000 := by omega
          obtain ⟨UA, un, ud, uvs, rfl, -, -, -⟩ := HO.out.s
          obtain ⟨-, t0, t1, t2, t3, t4⟩ := F06.out
          clear hfo hown hbel hdone
          by_cases hlt : i < m
          · have hlt' : (i : Int) < (m : Int) := by omega
            obtain ⟨gb, o, c0, c1, c2, c3, c4', rfl, hx, x0, x1, x2', x3, x4⟩ := (Hvs.out.below B6.out).at_ hlt
            have hil : i < l.length := by rw [Hlen.out]; exact hlt
            have hxl := List.getElem?_eq_getElem hil
            have rx := Hr.out i _ _ hx hxl
            obtain ⟨x, hxe⟩ : ∃ x, l[i] = x := ⟨_, rfl⟩
            rw [hxe] at hxl rx
            have hmem : x ∈ l := List.mem_of_getElem? hxl
            have HCd := hide (Hih.out x hmem x6.drew ok _ ((rx.kept B6.out).kept (bel_drew x6)))
            have HD2 := hide (show done ++ [rawR x] = (l.take (i + 1)).map rawR by rw [takeN hxl, List.map_append, HD.out]; rfl)
            have Hul := hide (fun g (hg : (Value.slice UA un ud).ownBlock = some g) => (HO.out.lt hg).2)
            have hBw : w4.heap.size + 1 ≤ x6.drew.heap.size := hs6
            have BD := hide (show Below w4.heap.size w4 x6.drew from X6.out.trans ((bel_drew x6).mono (by omega)))
            clear hx rx hxe hmem hxl
            have Fd := hide (FO.out.keep (bel_drew x6))
            have Od := hide (HO.out.below (bel_drew x6))
            obtain ⟨⟨-, p0, p1, p2⟩, p3, p4, p5⟩ := FO.out
            go_upto_region 11 with (fail)
            go_region_law (first
              | (refine step_push_nd (by rfl) (.tmp 33) (.tmp 40) 29 (by rfl) i0 _ 40 Tryz.underlying29 hi0 hz0 hz1 hz2 rfl (w4.heap.size + 1) (fun g => w4.heap.size + 1 ≤ g) (.slice UA un ud) done (by rfl) w5 _ _ _ (rawR x) O5.out hB5 _ rfl (by rfl) R5.out (by omega) (by unfold maxLen; omega) ?_; intro gg cap w7 hown7 hb7; have X7 := hide hown7; have B7 := hide hb7; have O7 := F5.out.at_ hb7 (by omega); have H7 := hide O7; obtain ⟨⟨-, k0, k1, k2⟩, k3, k4, k5⟩ := O7; clear hown7 hb7)
              | (go_simp; go_at_call 22; refine HCd.out.mono ?_; rintro e w5 ⟨vv, rfl, hr5, hb5⟩; obtain ⟨zk, zg, zB, zm, zd, rfl, -, -, -, -⟩ := ndv_shape hr5; have O5 := hide (Od.out.below hb5); have hB5 : w4.heap.size + 1 ≤ w5.heap.size := Nat.le_trans hBw hb5.size; have B5 := hide hb5; have R5 := hide (show NdV w5 (fun g => w4.heap.size + 1 ≤ g ∧ (Value.slice UA un ud).ownBlock ≠ some g) (.agg #[.int .i64 zk, .int .i64 zg, .slice zB zm zd]) (rawR x) from hr5.weak fun g hg => ⟨Nat.le_trans hBw hg, fun e => by have h1 := Hul.out g e; have h2 : x6.heap.size ≤ g := hg; omega⟩); have o5 := Fd.out.keep hb5; have F5 := hide o5; obtain ⟨⟨-, r0, r1, r2⟩, r3, r4, r5⟩ := o5; have o6 := F5.out.keep (bel_alloc w5 (.cells #[.int .i64 zk, .int .i64 zg, .slice zB zm zd] 31)); obtain ⟨⟨-, i0', i1', i2'⟩, -⟩ := o6; clear hr5 hb5))
            all_goals
              have FX := hide (H7.out.set2 (.slice (some ⟨gg, 0, none⟩) (done.length + 1) cap))
              have OX := hide (X7.out.setc (u := .slice (some ⟨gg, 0, none⟩) (done.length + 1) cap) (j := 2) (Nat.lt_succ_self w4.heap.size) (by omega))
              have BX := hide (((BD.out.trans (B5.out.mono (Nat.le_trans (Nat.le_succ _) hBw))).trans (B7.out.mono (Nat.le_succ w4.heap.size))).setCell (p := ⟨w4.heap.size, 2, none⟩) (Nat.le_refl w4.heap.size) (.slice (some ⟨gg, 0, none⟩) (done.length + 1) cap))
              go_wp2
              go_roundw
              case rel => exact ⟨i + 1, by omega, by go_num, ⟨_, done ++ [rawR x], FX.out, OX.out, HD2.out⟩, BX.out⟩
              case measure => simp [intOf]; omega
          · have hlt' : ¬ (i : Int) < (m : Int) := by omega
            have hO := HO.out
            have hD := HD.out
            rw [takeA l (by rw [Hlen.out]; omega)] at hD
            rw [hD] at hO
            have hnd := hO.nd 5 (by omega)
            have ND := hide (show NdV x6 (fun g => h0 + 2 ≤ g) (.agg #[.int .i64 5, .int .i64 0, .slice UA un ud]) (.mk 5 0 (rawL l)) from by
              rw [rawL_map]
              exact hnd.weak fun g hg => by rcases hg with hg | hg <;> omega)
            obtain ⟨⟨-, y0, y1, y2⟩, e0, e1, e2⟩ := F16.out
            obtain ⟨⟨-, s0, s1, s2⟩, f0, f1, f2⟩ := FO.out
            clear hO hD hnd
            go_wp2
            exact bodyPost_ret (res_box rfl _ _ (h0 + 1) _ _ _ rfl (put3_tri F16.out _ _ _)) rfl ⟨_, rfl, put3_ndv ND.out (by omega) (fun g hg => by rw [Hh0.out]; omega), put3_below B6.out (by rw [Hh0.out]; omega)⟩
      have h3' := int_nbeq h3
      rw [if_neg h3]
      by_cases h4 : k = 4 ∧ 1 ≤ a
      · have h4' := int_beq h4.1
        have h1a := h4.2
        rw [if_pos h4]
        have hl1 := H4l.out h4.1
        obtain ⟨x, rfl⟩ : ∃ x, l = [x] := List.length_eq_one_iff.1 hl1
        have hm1 : m = 1 := by rw [← Hlen.out]; rfl
        subst hm1
        rw [show rawOne [x] = rawR x from by rw [rawOne]]
        clear h2 h3 h4 hl1
        go_enter Tryz.func22, Tryz.ntmps22
        go_upto_region 1 with fail
        rw [Hw1.out, Hh0.out]
        go_wp2_with fail
        with_reducible refine HC.out.mono ?_
        intro e w4 hg4
        obtain ⟨A4, n4, c4, rfl, hb4⟩ := gotO_none hg4
        have B4 := hide (bgo BB.out hb4)
        have F14 := hide (F1.out.keep hb4)
        have hs44 := Nat.le_trans hs1 hb4.size
        obtain ⟨gb, o, c0, c1, c2, c3, c4', rfl, hx, x0, x1, x2', x3, x4⟩ := (Hvs.out.below B4.out).at_ (show 0 < 1 by omega)
        have HD := hide (Hih.out x (by simp) w4 ok _ ((Hr.out 0 _ x hx rfl).kept B4.out))
        obtain ⟨-, t0, t1, t2, t3, t4⟩ := F0.out.keep hb4
        simp only [Nat.zero_mul, Nat.add_zero] at x0 x1 x2' x3 x4
        clear hg4 hb4 HC hx
        go_wp2_with fail
        with_reducible refine HD.out.mono ?_
        rintro e w9 ⟨v9, rfl, hnd9, hb9⟩
        obtain ⟨zk, zg, zB, zm, zd, rfl, -, -, -, -⟩ := ndv_shape hnd9
        have ND9 := hide (show NdV w9 (fun g => h0 + 2 ≤ g) (.agg #[.int .i64 zk, .int .i64 zg, .slice zB zm zd]) _ from hnd9.weak fun g hg => Nat.le_trans hs44 hg)
        have B9 := hide (bgo B4.out hb9)
        have F9 := hide (F14.out.keep hb9)
        obtain ⟨⟨-, y0, y1, y2⟩, e0, e1, e2⟩ := F9.out
        clear hnd9 hb9
        go_wp2
        exact bodyPost_ret (res_box rfl _ _ (h0 + 1) _ _ _ rfl (put3_tri F9.out _ _ _)) rfl ⟨_, rfl, put3_ndv ND9.out (by omega) (fun g hg => by rw [Hh0.out]; omega), put3_below B9.out (by rw [Hh0.out]; omega)⟩
      · rw [if_neg h4]
        by_cases h5 : k = 4
        · have h4' := int_beq h5
          have h1a : ¬ 1 ≤ a := fun h => h4 ⟨h5, h⟩
          clear h2 h3 h4 h5
          go_enter Tryz.func22, Tryz.ntmps22
          go_upto_region 1 with fail
          rw [Hw1.out, Hh0.out]
          go_wp2_with fail
          with_reducible refine HC.out.mono ?_
          intro e w4 hg4
          obtain ⟨A4, n4, c4, rfl, hb4⟩ := gotO_none hg4
          have B4 := hide (bgo BB.out hb4)
          have F14 := hide (F1.out.keep hb4)
          obtain ⟨-, t0, t1, t2, t3, t4⟩ := F0.out.keep hb4
          obtain ⟨⟨-, y0, y1, y2⟩, e0, e1, e2⟩ := F14.out
          clear hg4 hb4 HC
          go_wp2
          exact bodyPost_ret (res_box rfl _ _ (h0 + 1) _ _ _ rfl (put3_tri F14.out _ _ _)) rfl ⟨_, rfl, ndv_leaf 1 0 (by omega) (by omega), put3_below B4.out (by rw [Hh0.out]; omega)⟩
        · have h4' := int_nbeq h5
          clear h2 h3 h4 h5
          go_enter Tryz.func22, Tryz.ntmps22
          go_upto_region 1 with fail
          rw [Hw1.out, Hh0.out]
          go_wp2_with fail
          with_reducible refine HC.out.mono ?_
          intro e w4 hg4
          obtain ⟨A4, n4, c4, rfl, hb4⟩ := gotO_none hg4
          have B4 := hide (bgo BB.out hb4)
          have F14 := hide (F1.out.keep hb4)
          obtain ⟨-, t0, t1, t2, t3, t4⟩ := F0.out.keep hb4
          obtain ⟨⟨-, y0, y1, y2⟩, e0, e1, e2⟩ := F14.out
          clear hg4 hb4 HC
          go_wp2
          exact bodyPost_ret (res_box rfl _ _ (h0 + 1) _ _ _ rfl (put3_tri F14.out _ _ _)) rfl ⟨_, rfl, ndv_leaf 1 0 (by omega) (by omega), put3_below B4.out (by rw [Hh0.out]; omega)⟩
end Go.Proofs.YtlnbjdlooghpeaaGreat
