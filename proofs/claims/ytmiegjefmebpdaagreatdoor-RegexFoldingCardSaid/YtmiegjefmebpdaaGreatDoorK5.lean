/- Walks of layer 8's reference: node, Right. -/
import Derived.Test.YtmiegjefmebpdaaGreatDoorK4
namespace Go.Proofs.YtmiegjefmebpdaaGreatDoor
open Go.RowKit

theorem node_fields {k a b : Int} {s : List (UInt8 × UInt8)} {l : List Rx} (h : fieldsR (.mk k s a b l) = false) : nodeR (.mk k s a b l) = 1 := by unfold nodeR; rw [if_pos h]
theorem node_bounds {k a b : Int} {s : List (UInt8 × UInt8)} {l : List Rx} (h : fieldsR (.mk k s a b l) = true) (hk : k = 4) (hb : boundsR a b = false) : nodeR (.mk k s a b l) = 2 := by unfold nodeR; rw [if_neg (by rw [h]; simp), if_pos ⟨hk, hb⟩]
theorem node_subs {k a b : Int} {s : List (UInt8 × UInt8)} {l : List Rx} (h : fieldsR (.mk k s a b l) = true) (hb : ¬ (k = 4 ∧ boundsR a b = false)) : nodeR (.mk k s a b l) = nodeL l := by unfold nodeR; rw [if_neg (by rw [h]; simp), if_neg hb]

set_option maxRecDepth 100000 in
set_option maxHeartbeats 12800000 in
theorem node33 : ∀ (r : Rx) (W : World) (ok : Nat → Prop) (v : Value), RxV W ok v r → Calls Tryz.prog 33 #[v] W fun e w' => e = .returned (.int .i64 (nodeR r)) ∧ Below W.heap.size W w' := by
  intro r
  induction r using Rx.ind with
  | h k s a b l ih =>
    intro W ok v hv
    have hv0 := hv
    cases hv with
    | mk _ _ _ A B n c m d _ vs _ hset hvs hlen hk ha hb hr =>
    have hmd := hvs.1
    have hdd := hvs.2.1
    have Hvs := hide hvs
    have Hlen := hide hlen
    have Hr := hide hr
    have hB := bnew (Below.refl _ W) (.cells #[.int .i64 k, .slice A n c, .int .i64 a, .int .i64 b, .slice B m d] 25)
    have BB := hide hB
    have F := hide (five_new W (.int .i64 k) (.slice A n c) (.int .i64 a) (.int .i64 b) (.slice B m d) 25)
    have V := hide (hv0.kept hB)
    clear hset hvs hr hB hlen hv0
    cases hf : fieldsR (.mk k s a b l) with
    | false =>
      have Hn := hide (node_fields hf)
      have Hf := hide hf
      clear hf
      go_enter Tryz.func33, Tryz.ntmps33
      go_wp2_with fail
      with_reducible refine (fields53 V.out false Hf.out).mono ?_
      rintro e w2 ⟨rfl, hb2⟩
      have B2 := hide (bgo BB.out hb2)
      clear hb2 V F
      go_wp2
      go_ret
      exact ⟨ret_int Hn.out.symm, B2.out⟩
    | true =>
      have Hf := hide hf
      by_cases hbad : k = 4 ∧ boundsR a b = false
      · have Hn := hide (node_bounds hf hbad.1 hbad.2)
        have e4 : (k == 4) = true := by rw [hbad.1]; rfl
        have hbb := hbad.2
        unfold boundsR at hbb
        rw [decide_eq_false_iff_not] at hbb
        have hcase : (a < 0 ∨ 8 < a) ∨ (0 ≤ a ∧ a ≤ 8 ∧ b ≠ -1 ∧ b < 1) ∨ (0 ≤ a ∧ a ≤ 8 ∧ b ≠ -1 ∧ 1 ≤ b ∧ 8 < b) ∨ (0 ≤ a ∧ a ≤ 8 ∧ b ≠ -1 ∧ 1 ≤ b ∧ b ≤ 8 ∧ b < a) := by omega
        have hcase2 : (a < 0) ∨ (¬ a < 0 ∧ 8 < a) ∨ (¬ a < 0 ∧ ¬ 8 < a ∧ (b != -1) = true ∧ b < 1) ∨ (¬ a < 0 ∧ ¬ 8 < a ∧ (b != -1) = true ∧ ¬ b < 1 ∧ 8 < b) ∨ (¬ a < 0 ∧ ¬ 8 < a ∧ (b != -1) = true ∧ ¬ b < 1 ∧ ¬ 8 < b ∧ b < a) := by
          rcases hcase with (h | h) | ⟨h1, h2, h3, h4⟩ | ⟨h1, h2, h3, h4, h5⟩ | ⟨h1, h2, h3, h4, h5, h6⟩
          · exact Or.inl h
          · exact Or.inr (Or.inl ⟨by omega, h⟩)
          · exact Or.inr (Or.inr (Or.inl ⟨by omega, by omega, int_ne h3, h4⟩))
          · exact Or.inr (Or.inr (Or.inr (Or.inl ⟨by omega, by omega, int_ne h3, by omega, h5⟩)))
          · exact Or.inr (Or.inr (Or.inr (Or.inr ⟨by omega, by omega, int_ne h3, by omega, by omega, h6⟩)))
        clear hf hbad hbb hcase
        go_enter Tryz.func33, Tryz.ntmps33
        go_wp2_with fail
        with_reducible refine (fields53 V.out true Hf.out).mono ?_
        rintro e w2 ⟨rfl, hb2⟩
        have B2 := hide (bgo BB.out hb2)
        obtain ⟨_, t0, t1, t2, t3, t4⟩ := F.out.keep hb2
        clear hb2 V F
        rcases hcase2 with h | ⟨h1, h⟩ | ⟨h1, h2, h3, h⟩ | ⟨h1, h2, h3, h4, h⟩ | ⟨h1, h2, h3, h4, h5, h⟩
        all_goals
          go_wp2
          go_ret
          exact ⟨ret_int Hn.out.symm, B2.out⟩
      · have hnode := node_subs hf hbad
        have Hnode := hide hnode
        have hcase : ((k == 4) = false) ∨ ((k == 4) = true ∧ ¬ a < 0 ∧ ¬ 8 < a ∧ (b != -1) = false) ∨ ((k == 4) = true ∧ ¬ a < 0 ∧ ¬ 8 < a ∧ (b != -1) = true ∧ ¬ b < 1 ∧ ¬ 8 < b ∧ ¬ b < a) := by
          by_cases hk4 : k = 4
          · have hb1 : boundsR a b = true := by
              cases h : boundsR a b with
              | true => rfl
              | false => exact absurd ⟨hk4, h⟩ hbad
            unfold boundsR at hb1
            rw [decide_eq_true_eq] at hb1
            obtain ⟨h1, h2, h3⟩ := hb1
            have e4 : (k == 4) = true := by rw [hk4]; rfl
            by_cases hb' : b = -1
            · exact Or.inr (Or.inl ⟨e4, by omega, by omega, int_eq hb'⟩)
            · exact Or.inr (Or.inr ⟨e4, by omega, by omega, int_ne hb', by omega, by omega, by omega⟩)
          · exact Or.inl (beq_eq_false_iff_ne.2 hk4)
        clear hf hbad hnode
        go_enter Tryz.func33, Tryz.ntmps33
        go_wp2_with fail
        with_reducible refine (fields53 V.out true Hf.out).mono ?_
        rintro e w2 ⟨rfl, hb2⟩
        have B2 := hide (bgo BB.out hb2)
        have G := hide (F.out.keep hb2)
        obtain ⟨_, t0, t1, t2, t3, t4⟩ := F.out.keep hb2
        clear hb2 V F
        rcases hcase with h | ⟨h1, h2, h3, h4⟩ | ⟨h1, h2, h3, h4, h5, h6, h7⟩
        all_goals
          go_wp2
          clear t0 t1 t2 t3 t4
          go_loopw [3] (fun x wr => ∃ i : Nat, i ≤ m ∧ x = .int .i64 (i : Int) ∧ (∀ y ∈ l.take i, nodeR y = 0) ∧ Below w2.heap.size w2 wr) (fun x _ => m - (intOf x).toNat)
          case atStart => exact ⟨0, Nat.zero_le _, rfl, fun y hy => (by simp at hy), Below.refl _ _⟩
          case round =>
            obtain ⟨i, hi, rfl, hm, hbel⟩ := hrel
            obtain ⟨w3, hw3⟩ : ∃ w3, w3 = wr := ⟨wr, rfl⟩
            subst hw3
            obtain ⟨_, t0, t1, t2, t3, t4⟩ := G.out.keep hbel
            have Hm := hide hm
            have B3 := hide hbel
            have B4 := hide (bgo B2.out hbel)
            clear hm
            by_cases hlt : i < m
            · obtain ⟨g, o, c0, c1, c2, c3, c4, rfl, hx, x0, x1, x2, x3, x4⟩ := (Hvs.out.below B4.out).at_ hlt
              have hil : i < l.length := by rw [Hlen.out]; exact hlt
              have hxl := List.getElem?_eq_getElem hil
              have rx := Hr.out i _ _ hx hxl
              obtain ⟨x, hxe⟩ : ∃ x, l[i] = x := ⟨_, rfl⟩
              rw [hxe] at hxl rx
              have hmem : x ∈ l := List.mem_of_getElem? hxl
              obtain ⟨y, hy⟩ : ∃ y, nodeR x = y := ⟨_, rfl⟩
              have HC := hide (ih x hmem w3 ok _ (rx.kept B4.out))
              rw [hy] at HC
              by_cases hy0 : y = 0
              · have hq : (y != 0) = false := int_eq hy0
                have Hn := hide (show ∀ z ∈ l.take (i + 1), nodeR z = 0 from fun z hz => by
                  rw [rx_take hxl, List.mem_append, List.mem_singleton] at hz
                  rcases hz with hz | rfl
                  · exact Hm.out z hz
                  · rw [hy, hy0])
                clear hx hxl rx hxe hmem hy hy0 hbel
                go_wp2_with fail
                with_reducible refine HC.out.mono ?_
                rintro e w4 ⟨rfl, hb4⟩
                have B6 := hide (B3.out.trans (hb4.mono B3.out.size))
                clear hb4
                go_wp2
                go_roundw
                case rel => exact ⟨i + 1, by omega, by go_num, Hn.out, B6.out⟩
                case measure => simp [intOf]; omega
              · have hq : (y != 0) = true := int_ne hy0
                have Hn := hide (show nodeR (.mk k s a b l) = y by rw [Hnode.out, ← hy]; exact nodeL_at hxl Hm.out (by rw [hy]; exact hy0))
                clear hx hxl rx hxe hmem hy hy0 hbel
                go_wp2_with fail
                with_reducible refine HC.out.mono ?_
                rintro e w4 ⟨rfl, hb4⟩
                have B6 := hide (bgo B4.out hb4)
                clear hb4
                go_wp2
                go_ret
                exact ⟨ret_int Hn.out.symm, B6.out⟩
            · have hall := Hm.out
              rw [List.take_of_length_le (by rw [Hlen.out]; omega)] at hall
              have Hn := hide (show nodeR (.mk k s a b l) = 0 by rw [Hnode.out]; exact nodeL_all hall)
              clear hall hbel
              go_wp2
              go_ret
              exact ⟨ret_int Hn.out.symm, B4.out⟩

set_option maxRecDepth 100000 in
set_option maxHeartbeats 6400000 in
theorem rright13 {W : World} {ok : Nat → Prop} {v : Value} {r : Rx} (hv : RxV W ok v r) (hs : sizeR r ≤ 1000000) (hd : depthR r ≤ 1000000) : Calls Tryz.prog 13 #[v] W fun e w' => e = .returned (.int .i64 (rightR r)) ∧ Below W.heap.size W w' := by
  have hv0 := hv
  cases hv with
  | mk k a b A B n c m d s vs l hset hvs hlen hk ha hb hr =>
  have hB := bnew (Below.refl _ W) (.cells #[.int .i64 k, .slice A n c, .int .i64 a, .int .i64 b, .slice B m d] 25)
  have BB := hide hB
  have F := hide (five_new W (.int .i64 k) (.slice A n c) (.int .i64 a) (.int .i64 b) (.slice B m d) 25)
  have V := hide (hv0.kept hB)
  obtain ⟨r, hr'⟩ : ∃ r, Rx.mk k s a b l = r := ⟨_, rfl⟩
  rw [hr'] at hv0 V hs hd ⊢
  have Hs := hide hs
  have Hd := hide hd
  clear hset hvs hr hB hlen hv0 hr' hk ha hb
  obtain ⟨y, hy⟩ : ∃ y, nodeR r = y := ⟨_, rfl⟩
  obtain ⟨p, hp⟩ : ∃ p, sizeR r = p := ⟨_, rfl⟩
  obtain ⟨q, hq⟩ : ∃ q, depthR r = q := ⟨_, rfl⟩
  have hrr : rightR r = if y = 0 then (if 40 < p ∨ 12 < q then 4 else 0) else y := by unfold rightR; rw [hy, hp, hq]
  have Hy := hide hy
  have Hp := hide hp
  have Hq := hide hq
  rw [hp] at hs
  rw [hq] at hd
  clear hy hp hq
  by_cases hy0 : y = 0
  · have hq0 : (y != 0) = false := int_eq hy0
    rw [if_pos hy0] at hrr
    clear hy0
    by_cases h40 : 40 < p
    · have Hn := hide (show rightR r = 4 by rw [hrr, if_pos (Or.inl h40)])
      clear hrr
      go_enter Tryz.func13, Tryz.ntmps13
      go_wp2_with fail
      with_reducible refine (node33 r _ ok _ V.out).mono ?_
      rw [Hy.out]
      rintro e w2 ⟨rfl, hb2⟩
      have B2 := hide (bgo BB.out hb2)
      have V2 := hide (V.out.kept hb2)
      obtain ⟨_, t0, t1, t2, t3, t4⟩ := F.out.keep hb2
      clear hb2 V F
      go_wp2_with fail
      with_reducible refine (size34 r _ ok _ V2.out Hs.out).mono ?_
      rw [Hp.out]
      rintro e w3 ⟨rfl, hb3⟩
      have B3 := hide (bgo B2.out hb3)
      clear hb3
      go_wp2
      go_ret
      exact ⟨ret_int Hn.out.symm, B3.out⟩
    · by_cases h12 : 12 < q
      · have Hn := hide (show rightR r = 4 by rw [hrr, if_pos (Or.inr h12)])
        clear hrr
        go_enter Tryz.func13, Tryz.ntmps13
        go_wp2_with fail
        with_reducible refine (node33 r _ ok _ V.out).mono ?_
        rw [Hy.out]
        rintro e w2 ⟨rfl, hb2⟩
        have B2 := hide (bgo BB.out hb2)
        have V2 := hide (V.out.kept hb2)
        have F2 := hide (F.out.keep hb2)
        obtain ⟨_, t0, t1, t2, t3, t4⟩ := F.out.keep hb2
        clear hb2 V F
        go_wp2_with fail
        with_reducible refine (size34 r _ ok _ V2.out Hs.out).mono ?_
        rw [Hp.out]
        rintro e w3 ⟨rfl, hb3⟩
        have B3 := hide (bgo B2.out hb3)
        have V3 := hide (V2.out.kept hb3)
        obtain ⟨_, y0, y1, y2, y3, y4⟩ := F2.out.keep hb3
        clear hb3 V2 F2 t0 t1 t2 t3 t4
        go_wp2_with fail
        with_reducible refine (depth35 r _ ok _ V3.out Hd.out).mono ?_
        rw [Hq.out]
        rintro e w4 ⟨rfl, hb4⟩
        have B4 := hide (bgo B3.out hb4)
        clear hb4
        go_wp2
        go_ret
        exact ⟨ret_int Hn.out.symm, B4.out⟩
      · have Hn := hide (show rightR r = 0 by rw [hrr, if_neg (by omega)])
        clear hrr
        go_enter Tryz.func13, Tryz.ntmps13
        go_wp2_with fail
        with_reducible refine (node33 r _ ok _ V.out).mono ?_
        rw [Hy.out]
        rintro e w2 ⟨rfl, hb2⟩
        have B2 := hide (bgo BB.out hb2)
        have V2 := hide (V.out.kept hb2)
        have F2 := hide (F.out.keep hb2)
        obtain ⟨_, t0, t1, t2, t3, t4⟩ := F.out.keep hb2
        clear hb2 V F
        go_wp2_with fail
        with_reducible refine (size34 r _ ok _ V2.out Hs.out).mono ?_
        rw [Hp.out]
        rintro e w3 ⟨rfl, hb3⟩
        have B3 := hide (bgo B2.out hb3)
        have V3 := hide (V2.out.kept hb3)
        obtain ⟨_, y0, y1, y2, y3, y4⟩ := F2.out.keep hb3
        clear hb3 V2 F2 t0 t1 t2 t3 t4
        go_wp2_with fail
        with_reducible refine (depth35 r _ ok _ V3.out Hd.out).mono ?_
        rw [Hq.out]
        rintro e w4 ⟨rfl, hb4⟩
        have B4 := hide (bgo B3.out hb4)
        clear hb4
        go_wp2
        go_ret
        exact ⟨ret_int Hn.out.symm, B4.out⟩
  · have hq0 : (y != 0) = true := int_ne hy0
    rw [if_neg hy0] at hrr
    have Hn := hide hrr
    clear hrr hy0
    go_enter Tryz.func13, Tryz.ntmps13
    go_wp2_with fail
    with_reducible refine (node33 r _ ok _ V.out).mono ?_
    rw [Hy.out]
    rintro e w2 ⟨rfl, hb2⟩
    have B2 := hide (bgo BB.out hb2)
    clear hb2 V F
    go_wp2
    go_ret
    exact ⟨ret_int Hn.out.symm, B2.out⟩

end Go.Proofs.YtmiegjefmebpdaaGreatDoor
