/- Layer 9: P6, P7, P8, P9. -/
import Derived.Test.YtkghbhcjgogaeaaDoorGp
import Derived.Deep.RegionHeld3
import Derived.BigQuiet
import Derived.Deep.Cut
/-! ### P6 -/
namespace Go.Proofs.YtkghbhcjgogaeaaDoor
open Go.RowKit
open Go.ChangeShapes (block_add)

/-- The offsets below i passed: those in f at which P holds lead len further. -/
def fillC (N : Nat) (P : Nat → Bool) (len : Nat) (f : List Bool) (i : Nat) : List Bool := (List.range i).foldl (fun l q => if f.getD q false && P q then l.set (q + len) true else l) (noneC N)
theorem fill_next (N : Nat) (P : Nat → Bool) (len : Nat) (f : List Bool) (i : Nat) : fillC N P len f (i + 1) = if f.getD i false && P i then (fillC N P len f i).set (i + len) true else fillC N P len f i := by
  unfold fillC
  rw [List.range_succ, List.foldl_append]
  rfl
theorem fill_len (N : Nat) (P : Nat → Bool) (len : Nat) (f : List Bool) : ∀ i, (fillC N P len f i).length = N + 1
  | 0 => noneC_len N
  | i + 1 => by
    rw [fill_next]
    split
    · rw [List.length_set]; exact fill_len N P len f i
    · exact fill_len N P len f i
theorem on_put (l : List Bool) (k j : Nat) (h : k < l.length) : On (l.set k true) j ↔ On l j ∨ j = k := by
  unfold On
  rw [List.getD_eq_getElem?_getD, List.getD_eq_getElem?_getD, List.getElem?_set]
  by_cases e : k = j
  · subst e
    simp [h]
  · rw [if_neg e]
    exact ⟨Or.inl, fun x => x.resolve_right fun y => e y.symm⟩
theorem fill_on (N : Nat) (P : Nat → Bool) (len : Nat) (f : List Bool) (hP : ∀ q, q ≤ N → P q = true → q + len ≤ N) (j : Nat) : ∀ i, i ≤ N + 1 → (On (fillC N P len f i) j ↔ ∃ q, q < i ∧ On f q ∧ P q = true ∧ j = q + len)
  | 0, _ => ⟨fun h => absurd h (noneC_at N j), fun ⟨q, h, _⟩ => by omega⟩
  | i + 1, hi => by
    have ih := fill_on N P len f hP j i (by omega)
    rw [fill_next]
    by_cases h : (f.getD i false && P i) = true
    · rw [if_pos h]
      rw [Bool.and_eq_true] at h
      rw [on_put _ _ _ (by rw [fill_len]; have := hP i (by omega) h.2; omega), ih]
      constructor
      · rintro (⟨q, h1, h2⟩ | rfl)
        · exact ⟨q, by omega, h2⟩
        · exact ⟨i, by omega, h.1, h.2, rfl⟩
      · rintro ⟨q, h1, h2, h3, h4⟩
        rcases Nat.lt_or_ge q i with h5 | h5
        · exact Or.inl ⟨q, h5, h2, h3, h4⟩
        · obtain rfl : q = i := by omega
          exact Or.inr h4
    · rw [if_neg h, ih]
      constructor
      · rintro ⟨q, h1, h2⟩
        exact ⟨q, by omega, h2⟩
      · rintro ⟨q, h1, h2, h3, h4⟩
        rcases Nat.lt_or_ge q i with h5 | h5
        · exact ⟨q, h5, h2, h3, h4⟩
        · obtain rfl : q = i := by omega
          exact absurd (by rw [Bool.and_eq_true]; exact ⟨h2, h3⟩) h
theorem fill_all (N : Nat) (P : Nat → Bool) (len : Nat) (f g : List Bool) (hf : f.length = N + 1) (hg : g.length = N + 1) (hP : ∀ q, q ≤ N → P q = true → q + len ≤ N) (h : ∀ j, On g j ↔ ∃ i, On f i ∧ P i = true ∧ j = i + len) : fillC N P len f (N + 1) = g :=
  on_ext (by rw [fill_len, hg]) fun j => by
    rw [fill_on N P len f hP j (N + 1) (Nat.le_refl _), h]
    constructor
    · rintro ⟨q, _, h2⟩; exact ⟨q, h2⟩
    · rintro ⟨q, h1, h2⟩
      have := on_lt h1
      exact ⟨q, by omega, h1, h2⟩
theorem boolC_set (l : List Bool) (k : Nat) : (boolC l).set k (.bool true) = boolC (l.set k true) := by simp [boolC, List.map_set]
theorem row_at {w : World} {B g n cap : Nat} {xs : List Value} (h : w.ownsRow B 4 1 (.slice (some ⟨g, 0, none⟩) n cap) n xs) {j : Nat} {u : Value} (hu : xs[j]? = some u) : w.cell? ⟨g, j, none⟩ = some u := by
  have hj : j < n := by
    have := (List.getElem?_eq_some_iff.1 hu).1
    have := h.1
    omega
  rw [World.ownsRow.cellAt h j (by omega), hu]
theorem row_free {w : World} {B g n cap : Nat} {xs : List Value} (h : w.ownsRow B 4 1 (.slice (some ⟨g, 0, none⟩) n cap) n xs) (j : Nat) : w.frozen? ⟨g, j, none⟩ = false := by
  rcases h.2 with ⟨h0, _⟩ | ⟨g', cap', cur, hv, _, hh, _⟩
  · cases h0
  · simp only [Value.slice.injEq, Option.some.injEq, Addr.mk.injEq, and_true, true_and] at hv
    obtain ⟨rfl, rfl⟩ := hv
    simp [World.frozen?, hh]
theorem own1_set {w : World} {B g n cap : Nat} {xs : List Value} (h : w.ownsRow B 4 1 (.slice (some ⟨g, 0, none⟩) n cap) n xs) (j : Nat) (u : Value) : (w.setCell ⟨g, j, none⟩ u).ownsRow B 4 1 (.slice (some ⟨g, 0, none⟩) n cap) n (xs.set j u) := own_set h j u
set_option maxRecDepth 100000 in
set_option maxHeartbeats 4000000 in
theorem step33_p (s : ByteArray) (hs60 : s.size ≤ 60) (k : Int) (h5 : 5 ≤ k) (set : List (UInt8 × UInt8)) (a b : Int) (l : List Rx) : RefStep s (.mk k set a b l) := by
  intro W ok v A0 n0 c0 f hv hf hS
  have hlen := strlen s
  cases hv with
  | mk _ _ _ A B n c m d _ vs _ hset hvs hlen2 hk ha hb hr =>
  have hn0 : n0 = s.size + 1 := by rw [← hS.blen, hf]
  subst hn0
  obtain ⟨P, hPP⟩ : ∃ P : Nat → Bool, (standsB k s.data.toList) = P := ⟨_, rfl⟩
  have hP : ∀ q, q ≤ s.size → P q = true → q + 0 ≤ s.size := fun q hq h => by
    omega
  have hfin : fillC s.size P 0 f (s.size + 1) = stepC (.mk k set a b l) s.data.toList f := by
    rw [step_place k h5 set a b l _ f]
    refine fill_all s.size P 0 f _ hf (by unfold leafC; rw [List.length_map, List.length_range, hlen]) hP fun j => ?_
    rw [← hPP]
    exact leaf_place k (by omega) set s.data.toList f (by rw [hlen]; exact hf) j
  have Hfin := hide hfin
  obtain ⟨R, hR⟩ : ∃ R, stepC (.mk k set a b l) s.data.toList f = R := ⟨_, rfl⟩
  rw [hR] at Hfin ⊢
  have e2 : (k == 2) = false := by rw [beq_eq_false_iff_ne]; omega
  have e3 : (k == 3) = false := by rw [beq_eq_false_iff_ne]; omega
  have e4 : (k == 4) = false := by rw [beq_eq_false_iff_ne]; omega
  have e1 : (k == 1) = false := by rw [beq_eq_false_iff_ne]; omega
  have hB := bnew (Below.refl _ W) (.cells #[.int .i64 k, .slice A n c, .int .i64 a, .int .i64 b, .slice B m d] 25)
  obtain ⟨W1, hW1⟩ : ∃ W1, W.alloc (.cells #[.int .i64 k, .slice A n c, .int .i64 a, .int .i64 b, .slice B m d] 25) = W1 := ⟨_, rfl⟩
  obtain ⟨_, t0, t1, t2, t3, t4⟩ := five_new W (.int .i64 k) (.slice A n c) (.int .i64 a) (.int .i64 b) (.slice B m d) 25
  have F1 := hide (show Five W1 W.heap.size _ _ _ _ _ from hW1 ▸ five_new W (.int .i64 k) (.slice A n c) (.int .i64 a) (.int .i64 b) (.slice B m d) 25)
  rw [hW1] at hB
  have S1 := hide (hS.below hB)
  have Set1 := hide (hset.below hB)
  have BB := hide hB
  have HN := hide (none32 s hs60 W1)
  have HW1 := hide hW1
  have HP := hide hP
  have HPP := hide hPP
  clear hvs hlen2 hk ha hb hr hB hS hset hW1 hfin hR hP hPP
  go_enter Tryd.func33, Tryd.ntmps33
  go_wp2_with fail
  rw [HW1.out]
  clear t0 t1 t2 t3 t4
  with_reducible refine HN.out.mono ?_
  rintro e w2 ⟨v2, rfl, ho2, hb2⟩
  have ho2' : w2.ownsRow W1.heap.size 4 1 v2 (s.size + 1) (boolC (fillC s.size P 0 f 0)) := by
    have := ho2
    unfold Own at this
    rwa [boolC_len, noneC_len] at this
  obtain ⟨g, cap, rfl, hgB, hgl⟩ := World.ownsRow.form ho2' (by omega)
  have O2 := hide ho2'
  have B2 := hide hb2
  clear ho2 ho2' hb2
  go_wp2
  go_loopw [12] (fun y wr => ∃ i : Nat, i ≤ s.size + 1 ∧ y = .int .i64 (i : Int) ∧ wr.ownsRow W1.heap.size 4 1 (.slice (some ⟨g, 0, none⟩) (s.size + 1) cap) (s.size + 1) (boolC (fillC s.size P 0 f i)) ∧ Below W1.heap.size W1 wr) (fun y _ => s.size + 1 - (intOf y).toNat)
  case atStart => exact ⟨0, Nat.zero_le _, rfl, O2.out, B2.out⟩
  case round =>
    obtain ⟨i, hi, rfl, hown, hbel⟩ := hrel
    obtain ⟨w, hw⟩ : ∃ w, w = wr := ⟨wr, rfl⟩
    subst hw
    have O := hide hown
    have Bw := hide hbel
    by_cases hlt : i ≤ s.size
    · have hd : decide ((i : Int) ≤ (s.size : Int)) = true := decide_eq_true (by omega)
      have hd2 : decide (i ≤ s.size) = true := decide_eq_true hlt
      obtain ⟨pf, z, rfl, hz, hcz0⟩ := bool_cell S1.out.reads (show i < s.size + 1 by omega)
      have hcz := (hbel.cell (p := pf.add i) (World.block_lt_of_cell? _ _ hcz0)).trans hcz0
      obtain ⟨_, y0, y1, y2, y3, y4⟩ := F1.out.keep hbel
      have hfi : f.getD i false = z := by rw [List.getD_eq_getElem?_getD, hz]; rfl
      have hnext := fill_next s.size P 0 f i
      rw [hfi] at hnext
      have Hnext := hide hnext
      clear hown hbel hcz0 hz hfi hnext
      cases z with
      | false =>
        have e := Hnext.out
        rw [Bool.false_and, if_neg (by simp)] at e
        have E := hide e
        clear e
        go_wp2
        go_roundw
        case rel => exact ⟨i + 1, by omega, by go_num, by rw [E.out]; exact O.out, Bw.out⟩
        case measure => simp [intOf]; omega
      | true =>
        have HS := hide (stands64 s k i w hlt (by omega))
        rw [HPP.out] at HS
        obtain ⟨q, hq⟩ : ∃ q, P i = q := ⟨_, rfl⟩
        rw [hq] at HS
        have e := Hnext.out
        rw [hq, Bool.true_and] at e
        have E := hide e
        clear e hq
        cases q with
        | false =>
          go_wp2_with fail
          with_reducible refine HS.out.mono ?_
          rintro e w9 ⟨rfl, rfl⟩
          have e := E.out
          rw [if_neg (by simp)] at e
          have E := hide e
          clear e
          go_wp2
          go_roundw
          case rel => exact ⟨i + 1, by omega, by go_num, by rw [E.out]; exact O.out, Bw.out⟩
          case measure => simp [intOf]; omega
        | true =>
          obtain ⟨u9, hu9⟩ : ∃ u, (boolC (fillC s.size P 0 f i))[i]? = some u := ⟨_, List.getElem?_eq_getElem (by rw [boolC_len, fill_len]; omega)⟩
          have cg := row_at O.out hu9
          have fg := row_free O.out i
          go_wp2_with fail
          with_reducible refine HS.out.mono ?_
          rintro e w9 ⟨rfl, rfl⟩
          have e := E.out
          rw [if_pos trivial] at e
          have E := hide e
          clear e
          go_wp2
          go_roundw
          case rel =>
            refine ⟨i + 1, by omega, by go_num, ?_, Bw.out.setCell hgB _⟩
            rw [E.out, ← boolC_set]
            exact own1_set O.out i _
          case measure => simp [intOf]; omega
    · obtain rfl : i = s.size + 1 := by omega
      have hd : decide (((s.size + 1 : Nat) : Int) ≤ (s.size : Int)) = false := decide_eq_false (by omega)
      have hd2 : decide (s.size + 1 ≤ s.size) = false := decide_eq_false (by omega)
      rw [Hfin.out] at O
      clear hown hbel
      go_wp2
      go_ret
      obtain ⟨A, c, e, hs⟩ := Own.sl (show Own w W1.heap.size 4 (.slice (some ⟨g, 0, none⟩) (s.size + 1) cap) (boolC R) by
        unfold Own
        have h := O.out
        rw [h.1, Nat.mul_one]
        exact h)
      exact ⟨A, _, c, congrArg Ending.returned e, hs, bgo BB.out Bw.out⟩
end Go.Proofs.YtkghbhcjgogaeaaDoor
/-! ### P7 -/
namespace Go.Proofs.YtkghbhcjgogaeaaDoor
open Go.RowKit
open Go.ChangeShapes (block_add)

set_option maxRecDepth 100000 in
set_option maxHeartbeats 4000000 in
theorem step33_1 (s : ByteArray) (hs60 : s.size ≤ 60) (set : List (UInt8 × UInt8)) (a b : Int) (l : List Rx) : RefStep s (.mk 1 set a b l) := by
  intro W ok v A0 n0 c0 f hv hf hS
  have hlen := strlen s
  cases hv with
  | mk _ _ _ A B n c m d _ vs _ hset hvs hlen2 hk ha hb hr =>
  have hn0 : n0 = s.size + 1 := by rw [← hS.blen, hf]
  subst hn0
  obtain ⟨P, hPP⟩ : ∃ P : Nat → Bool, (fun i => match s.data.toList[i]? with | some c => hasS set c | none => false) = P := ⟨_, rfl⟩
  have hP : ∀ q, q ≤ s.size → P q = true → q + 1 ≤ s.size := fun q hq h => by
    rcases Nat.lt_or_ge q s.size with h5 | h5
    · omega
    · rw [← hPP] at h
      simp only [] at h
      rw [List.getElem?_eq_none (by rw [strlen]; exact h5)] at h
      cases h
  have hfin : fillC s.size P 1 f (s.size + 1) = stepC (.mk 1 set a b l) s.data.toList f := by
    rw [step_set set a b l _ f]
    refine fill_all s.size P 1 f _ hf (by unfold leafC; rw [List.length_map, List.length_range, hlen]) hP fun j => ?_
    rw [← hPP]
    exact leaf_set set s.data.toList f (by rw [hlen]; exact hf) j
  have Hfin := hide hfin
  obtain ⟨R, hR⟩ : ∃ R, stepC (.mk 1 set a b l) s.data.toList f = R := ⟨_, rfl⟩
  rw [hR] at Hfin ⊢
  have hB := bnew (Below.refl _ W) (.cells #[.int .i64 1, .slice A n c, .int .i64 a, .int .i64 b, .slice B m d] 25)
  obtain ⟨W1, hW1⟩ : ∃ W1, W.alloc (.cells #[.int .i64 1, .slice A n c, .int .i64 a, .int .i64 b, .slice B m d] 25) = W1 := ⟨_, rfl⟩
  obtain ⟨_, t0, t1, t2, t3, t4⟩ := five_new W (.int .i64 1) (.slice A n c) (.int .i64 a) (.int .i64 b) (.slice B m d) 25
  have F1 := hide (show Five W1 W.heap.size _ _ _ _ _ from hW1 ▸ five_new W (.int .i64 1) (.slice A n c) (.int .i64 a) (.int .i64 b) (.slice B m d) 25)
  rw [hW1] at hB
  have S1 := hide (hS.below hB)
  have Set1 := hide (hset.below hB)
  have BB := hide hB
  have HN := hide (none32 s hs60 W1)
  have HW1 := hide hW1
  have HP := hide hP
  have HPP := hide hPP
  clear hvs hlen2 hk ha hb hr hB hS hset hW1 hfin hR hP hPP
  go_enter Tryd.func33, Tryd.ntmps33
  go_wp2_with fail
  rw [HW1.out]
  clear t0 t1 t2 t3 t4
  with_reducible refine HN.out.mono ?_
  rintro e w2 ⟨v2, rfl, ho2, hb2⟩
  have ho2' : w2.ownsRow W1.heap.size 4 1 v2 (s.size + 1) (boolC (fillC s.size P 1 f 0)) := by
    have := ho2
    unfold Own at this
    rwa [boolC_len, noneC_len] at this
  obtain ⟨g, cap, rfl, hgB, hgl⟩ := World.ownsRow.form ho2' (by omega)
  have O2 := hide ho2'
  have B2 := hide hb2
  clear ho2 ho2' hb2
  go_wp2
  go_loopw [12] (fun y wr => ∃ i : Nat, i ≤ s.size + 1 ∧ y = .int .i64 (i : Int) ∧ wr.ownsRow W1.heap.size 4 1 (.slice (some ⟨g, 0, none⟩) (s.size + 1) cap) (s.size + 1) (boolC (fillC s.size P 1 f i)) ∧ Below W1.heap.size W1 wr) (fun y _ => s.size + 1 - (intOf y).toNat)
  case atStart => exact ⟨0, Nat.zero_le _, rfl, O2.out, B2.out⟩
  case round =>
    obtain ⟨i, hi, rfl, hown, hbel⟩ := hrel
    obtain ⟨w, hw⟩ : ∃ w, w = wr := ⟨wr, rfl⟩
    subst hw
    have O := hide hown
    have Bw := hide hbel
    by_cases hlt : i ≤ s.size
    · have hd : decide ((i : Int) ≤ (s.size : Int)) = true := decide_eq_true (by omega)
      have hd2 : decide (i ≤ s.size) = true := decide_eq_true hlt
      obtain ⟨pf, z, rfl, hz, hcz0⟩ := bool_cell S1.out.reads (show i < s.size + 1 by omega)
      have hcz := (hbel.cell (p := pf.add i) (World.block_lt_of_cell? _ _ hcz0)).trans hcz0
      obtain ⟨_, y0, y1, y2, y3, y4⟩ := F1.out.keep hbel
      have hfi : f.getD i false = z := by rw [List.getD_eq_getElem?_getD, hz]; rfl
      have hnext := fill_next s.size P 1 f i
      rw [hfi] at hnext
      have Hnext := hide hnext
      clear hown hbel hcz0 hz hfi hnext
      cases z with
      | false =>
        have e := Hnext.out
        rw [Bool.false_and, if_neg (by simp)] at e
        have E := hide e
        clear e
        go_wp2
        go_roundw
        case rel => exact ⟨i + 1, by omega, by go_num, by rw [E.out]; exact O.out, Bw.out⟩
        case measure => simp [intOf]; omega
      | true =>
        by_cases hin : i < s.size
        · have hd3 : decide ((i : Int) < (s.size : Int)) = true := decide_eq_true (by omega)
          have hd4 : decide (i < s.size) = true := decide_eq_true hin
          have hpi : P i = hasS set s[i] := by rw [← HPP.out]; simp only []; rw [get_at s i hin]
          obtain ⟨q, hq⟩ : ∃ q, hasS set s[i] = q := ⟨_, rfl⟩
          have HH := hide (fun w' (hb : Below W1.heap.size W1 w') => has63 (Set1.out.below hb) s[i] q hq)
          rw [hq] at hpi
          have e := Hnext.out
          rw [hpi, Bool.true_and] at e
          have E := hide e
          have hby : ((s[i].toNat : Nat) : Int) ≤ 255 := by have := s[i].toNat_lt; omega
          clear e hpi hq
          have HD := hide (fun j => (Bw.out.trans (Drawn.below ⟨j, rfl⟩ _) : Below W1.heap.size W1 (w.drewN j)))
          cases q with
          | false =>
            have e := E.out
            rw [if_neg (by simp)] at e
            have E := hide e
            clear e
            go_wp2_with fail
            go_quiet (first | (go_at_call 63; with_reducible exact quiet_left (HH.out _ (HD.out _))))
            go_wp2
            go_roundw
            case rel => exact ⟨i + 1, by omega, by go_num, by rw [E.out]; exact owns_below' O.out (Drawn.below ⟨_, rfl⟩ _), Bw.out.trans (Drawn.below ⟨_, rfl⟩ _)⟩
            case measure => simp [intOf]; omega
          | true =>
            have e := E.out
            rw [if_pos rfl] at e
            have E2 := hide e
            clear e E
            obtain ⟨u9, hu9⟩ : ∃ u, (boolC (fillC s.size P 1 f i))[i + 1]? = some u := ⟨_, List.getElem?_eq_getElem (by rw [boolC_len, fill_len]; omega)⟩
            have cg := row_at O.out hu9
            have fg := row_free O.out (i + 1)
            have hi1 : i + 1 < s.size + 1 := by omega
            go_wp2_with fail
            go_quiet (first | (go_at_call 63; with_reducible exact quiet_left (HH.out _ (HD.out _))))
            go_wp2
            go_roundw
            case rel =>
              refine ⟨i + 1, by omega, by go_num, ?_, (Bw.out.trans (Drawn.below ⟨_, rfl⟩ _)).setCell hgB _⟩
              rw [E2.out, ← boolC_set]
              exact own1_set (owns_below' O.out (Drawn.below ⟨_, rfl⟩ _)) (i + 1) _
            case measure => simp [intOf]; omega
        · have hd3 : decide ((i : Int) < (s.size : Int)) = false := decide_eq_false (by omega)
          have hd4 : decide (i < s.size) = false := decide_eq_false hin
          have hpi : P i = false := by rw [← HPP.out]; simp only []; rw [List.getElem?_eq_none (by rw [strlen]; omega)]
          have e := Hnext.out
          rw [hpi, Bool.and_false, if_neg (by simp)] at e
          have E := hide e
          clear e hpi
          go_wp2_with fail
          go_quiet (fail)
          go_wp2
          go_roundw
          case rel => exact ⟨i + 1, by omega, by go_num, by rw [E.out]; exact owns_below' O.out (Drawn.below ⟨_, rfl⟩ _), Bw.out.trans (Drawn.below ⟨_, rfl⟩ _)⟩
          case measure => simp [intOf]; omega
    · obtain rfl : i = s.size + 1 := by omega
      have hd : decide (((s.size + 1 : Nat) : Int) ≤ (s.size : Int)) = false := decide_eq_false (by omega)
      have hd2 : decide (s.size + 1 ≤ s.size) = false := decide_eq_false (by omega)
      rw [Hfin.out] at O
      clear hown hbel
      go_wp2
      go_ret
      obtain ⟨A, c, e, hs⟩ := Own.sl (show Own w W1.heap.size 4 (.slice (some ⟨g, 0, none⟩) (s.size + 1) cap) (boolC R) by
        unfold Own
        have h := O.out
        rw [h.1, Nat.mul_one]
        exact h)
      exact ⟨A, _, c, congrArg Ending.returned e, hs, bgo BB.out Bw.out⟩
end Go.Proofs.YtkghbhcjgogaeaaDoor
/-! ### P8 -/
namespace Go.Proofs.YtkghbhcjgogaeaaDoor
open Go.RowKit
open Go.ChangeShapes (block_add)

set_option maxRecDepth 100000 in
set_option maxHeartbeats 4000000 in
theorem step33_4 (s : ByteArray) (hs60 : s.size ≤ 60) (set : List (UInt8 × UInt8)) (L : Nat) (hL : L ≤ 1000000) (b : Int) (hb1 : b = -1 ∨ (L ≤ b ∧ b ≤ 1000000)) (x : Rx) (hx0 : nodeR x = 0) (hx : RefStep s x) : RefStep s (.mk 4 set (L : Int) b [x]) := by
  intro W ok v A0 n0 c0 f hv hf hS
  have hlen := strlen s
  have hn0 : n0 = s.size + 1 := by rw [← hS.blen, hf]
  subst hn0
  have hv0 := hv
  have hstep := step_rep set (L : Int) b x s.data.toList f
  rw [hlen] at hstep
  rw [← hstep]
  cases hv with
  | mk _ _ _ A B n c m d _ vs _ hset hvs hlen2 hk ha hb hr =>
  have hB := bnew (Below.refl _ W) (.cells #[.int .i64 4, .slice A n c, .int .i64 (L : Int), .int .i64 b, .slice B m d] 25)
  have F := hide (five_new W (.int .i64 4) (.slice A n c) (.int .i64 (L : Int)) (.int .i64 b) (.slice B m d) 25)
  have HC := hide (repeat62 s hs60 set L hL b hb1 x hx0 hx _ ok _ A0 c0 f (hv0.kept hB) hf (hS.below hB))
  have BB := hide hB
  obtain ⟨_, t0, t1, t2, t3, t4⟩ := F.out
  clear hset hvs hk ha hb hr hB hS hv0 hstep
  go_enter Tryd.func33, Tryd.ntmps33
  go_wp2_with fail
  with_reducible refine HC.out.mono ?_
  rintro e w2 ⟨A2, n2, c2, rfl, hs2, hb2⟩
  have S2 := hide hs2
  have B2 := hide (bgo BB.out hb2)
  clear hs2 hb2 t0 t1 t2 t3 t4
  go_wp2
  go_ret
  exact ⟨A2, n2, c2, rfl, S2.out, B2.out⟩
theorem refstep (s : ByteArray) (hs : s.size ≤ 60) (r : Rx) : nodeR r = 0 → RefStep s r := by
  induction r using Rx.ind with
  | h k set a b l ih =>
    intro h0
    obtain ⟨hf, hb, hsub⟩ := node_ok h0
    have hl : ∀ x ∈ l, RefStep s x := fun x hx => ih x hx (hsub x hx)
    have hk : 1 ≤ k ∧ k ≤ 7 := by
      unfold fieldsR at hf
      simp at hf
      omega
    rcases (show k = 1 ∨ k = 2 ∨ k = 3 ∨ k = 4 ∨ 5 ≤ k by omega) with rfl | rfl | rfl | rfl | h5
    · exact step33_1 s hs set a b l
    · exact step33_2 s set a b l hl
    · exact step33_3 s hs set a b l hl
    · have hbd := hb rfl
      unfold boundsR at hbd
      simp at hbd
      have hl1 : l.length = 1 := by
        unfold fieldsR at hf
        simp at hf
        omega
      obtain ⟨x, rfl⟩ := List.length_eq_one_iff.1 hl1
      obtain ⟨L, rfl⟩ : ∃ L : Nat, a = (L : Int) := ⟨a.toNat, by omega⟩
      exact step33_4 s hs set L (by omega) b (by omega) x (hsub x (by simp)) (hl x (by simp))
    · exact step33_p s hs k h5 set a b l
end Go.Proofs.YtkghbhcjgogaeaaDoor
/-! ### P9 -/
namespace Go.Proofs.YtkghbhcjgogaeaaDoor
open Go.RowKit
open Go.ChangeShapes (block_add)

/-- The offsets of a set that are below i. -/
def offsTo (l : List Bool) (i : Nat) : List Nat := (List.range i).filter fun q => l.getD q false
theorem offsTo_next (l : List Bool) (i : Nat) : offsTo l (i + 1) = if l.getD i false then offsTo l i ++ [i] else offsTo l i := by
  unfold offsTo
  rw [List.range_succ, List.filter_append]
  cases h : l.getD i false with
  | false => rw [List.filter_cons_of_neg (by rw [h]; simp), if_neg (by simp)]; simp
  | true => rw [List.filter_cons_of_pos (by rw [h]), if_pos rfl]; rfl
theorem offsTo_len (l : List Bool) (i : Nat) : (offsTo l i).length ≤ i := by
  unfold offsTo
  exact Nat.le_trans (List.length_filter_le _ _) (by simp)
theorem num_snoc (l : List Nat) (x : Nat) : numCells (natI l) ++ [.int .i64 (x : Int)] = numCells (natI (l ++ [x])) := by simp [numCells, natI]
set_option maxRecDepth 100000 in
set_option maxHeartbeats 4000000 in
theorem rends13 (s : ByteArray) (hs : s.size ≤ 60) (r : Rx) (h1 : sizeR r ≤ 1000000) (h2 : depthR r ≤ 1000000) (at_ : Int) (W : World) (ok : Nat → Prop) (v : Value) (hv : RxV W ok v r) :
    Calls Tryd.prog 13 #[v, .string s, .int .i64 at_] W (GrewI W (natI (endsA r s.data.toList at_))) := by
  have hlen := strlen s
  obtain ⟨i3, hi3, hy0, hy1, hy2⟩ := info_parts info3
  have hv0 := hv
  cases hv with
  | mk k a b A B n c m d set vs l hset hvs hl hk ha hb hr =>
  have hB := bnew (Below.refl _ W) (.cells #[.int .i64 k, .slice A n c, .int .i64 a, .int .i64 b, .slice B m d] 25)
  have F := hide (five_new W (.int .i64 k) (.slice A n c) (.int .i64 a) (.int .i64 b) (.slice B m d) 25)
  have V := hide (hv0.kept hB)
  have BB := hide hB
  obtain ⟨_, t0, t1, t2, t3, t4⟩ := F.out
  obtain ⟨r, hr'⟩ : ∃ r, Rx.mk k set a b l = r := ⟨_, rfl⟩
  rw [hr'] at V h1 h2 ⊢
  clear hset hvs hl hk ha hb hr hB hv0 hr'
  by_cases c1 : at_ < 0
  · have he : endsA r s.data.toList at_ = [] := by unfold endsA; rw [if_pos (Or.inl c1)]
    have hd : decide (at_ < 0) = true := decide_eq_true c1
    rw [he]
    clear he
    go_enter Tryd.func13, Tryd.ntmps13
    go_wp2
    go_ret
    exact GrewI.nil W _ BB.out
  · obtain ⟨i, rfl⟩ : ∃ i : Nat, at_ = (i : Int) := ⟨at_.toNat, by omega⟩
    have hd : decide ((i : Int) < 0) = false := decide_eq_false c1
    by_cases c2 : s.size < i
    · have he : endsA r s.data.toList (i : Int) = [] := by unfold endsA; rw [if_pos (Or.inr (Or.inl (by rw [hlen]; omega)))]
      have hd2 : decide ((s.size : Int) < (i : Int)) = true := decide_eq_true (by omega)
      have hd3 : decide (s.size < i) = true := decide_eq_true c2
      rw [he]
      clear he
      go_enter Tryd.func13, Tryd.ntmps13
      go_wp2
      go_ret
      exact GrewI.nil W _ BB.out
    · have hd2 : decide ((s.size : Int) < (i : Int)) = false := decide_eq_false (by omega)
      have hd3 : decide (s.size < i) = false := decide_eq_false c2
      have HR := hide (rright24 V.out h1 h2)
      obtain ⟨q, hq⟩ : ∃ q, rightR r = q := ⟨_, rfl⟩
      rw [hq] at HR
      by_cases c3 : q = 0
      · have hne : (q != 0) = false := int_eq c3
        subst c3
        obtain ⟨hn, hsz⟩ := right_node hq
        have he : endsA r s.data.toList (i : Int) = endsC r s.data.toList i := by unfold endsA; rw [if_neg (by rw [hlen]; omega)]; rfl
        rw [he]
        have HM := hide (show ∀ (W : World) (ok : Nat → Prop) (v : Value) (A : Option Addr) (n c : Nat) (f : List Bool), RxV W ok v r → f.length = s.size + 1 → Sl W A n c (boolC f) → Calls Tryd.prog 33 #[v, .string s, .slice A n c] W (RetS W (stepC r s.data.toList f)) from refstep s hs r hn)
        have HN := hide (fun w => none32 s hs w)
        clear he hq
        go_enter Tryd.func13, Tryd.ntmps13
        go_wp2_with fail
        with_reducible refine HR.out.mono ?_
        rintro e w2 ⟨rfl, hb2⟩
        have B2 := hide (bgo BB.out hb2)
        have B02 := hide hb2
        clear t0 t1 t2 t3 t4 hb2
        go_wp2_with fail
        with_reducible refine (HN.out _).mono ?_
        rintro e w3 ⟨v3, rfl, ho3, hb3⟩
        have ho3' : w3.ownsRow w2.heap.size 4 1 v3 (s.size + 1) (boolC (noneC s.size)) := by
          have := ho3
          unfold Own at this
          rwa [boolC_len, noneC_len] at this
        obtain ⟨g, cap, rfl, hgB, hgl⟩ := World.ownsRow.form ho3' (by omega)
        obtain ⟨u9, hu9⟩ : ∃ u, (boolC (noneC s.size))[i]? = some u := ⟨_, List.getElem?_eq_getElem (by rw [boolC_len, noneC_len]; omega)⟩
        have cg := row_at ho3' hu9
        have fg := row_free ho3' i
        have hi1 : i < s.size + 1 := by omega
        have O3 := hide ho3'
        have hb03 := bgo B02.out hb3
        have B3 := hide (bgo B2.out hb3)
        obtain ⟨w4, hw4⟩ : ∃ w4, w3.setCell ⟨g, i, none⟩ (.bool true) = w4 := ⟨_, rfl⟩
        have ho4 : w4.ownsRow w2.heap.size 4 1 (.slice (some ⟨g, 0, none⟩) (s.size + 1) cap) (s.size + 1) (boolC (onlyC s.size i)) := by
          rw [← hw4, show onlyC s.size i = (noneC s.size).set i true from rfl, ← boolC_set]
          exact own1_set ho3' i _
        have hb24 : Below w2.heap.size w2 w4 := by rw [← hw4]; exact hb3.setCell hgB _
        have hb04 := bgo B02.out hb24
        obtain ⟨A4, c4, e4, hs4⟩ := Own.sl (show Own w4 w2.heap.size 4 (.slice (some ⟨g, 0, none⟩) (s.size + 1) cap) (boolC (onlyC s.size i)) by
          unfold Own
          rw [boolC_len, only_len]
          exact ho4)
        rw [boolC_len, only_len] at e4 hs4
        simp only [Value.slice.injEq] at e4
        obtain ⟨rfl, -, rfl⟩ := e4
        have HC := hide (HM.out w4 ok _ _ _ _ _ (V.out.kept hb04) (only_len s.size i) hs4)
        obtain ⟨_, t0, t1, t2, t3, t4⟩ := F.out.keep hb04
        have B4 := hide (bgo B2.out hb24)
        have HW4 := hide hw4
        clear ho3 ho3' hb3 hb03 hw4 ho4 hb24 hb04 hs4 hu9
        go_upto_region 5 with fail
        rw [HW4.out]
        go_wp2_with fail
        with_reducible refine HC.out.mono ?_
        rintro e w5 ⟨A5, n5, c5, rfl, hs5, hb5⟩
        have hL5 : (stepC r s.data.toList (onlyC s.size i)).length = s.size + 1 := by rw [stepC_len r _ _ (by rw [hlen]; exact only_len _ _), hlen]
        obtain rfl : n5 = s.size + 1 := by rw [← hs5.blen, hL5]
        have hfin : offsTo (stepC r s.data.toList (onlyC s.size i)) (s.size + 1) = endsC r s.data.toList i := by
          unfold offsTo endsC offsC
          rw [hlen, show (noneC s.size).set i true = onlyC s.size i from rfl, hL5]
        obtain ⟨f5, hf5⟩ : ∃ f5, stepC r s.data.toList (onlyC s.size i) = f5 := ⟨_, rfl⟩
        rw [hf5] at hs5 hfin hL5
        have S5 := hide hs5
        have B5 := hide (bgo B4.out hb5)
        have Hfin := hide hfin
        clear hs5 hb5 hf5 hfin t0 t1 t2 t3 t4
        go_wp2
        go_loopw [9, 10] (fun u y wr => ∃ j : Nat, j ≤ s.size + 1 ∧ y = .int .i64 (j : Int) ∧ Own wr w5.heap.size 3 u (numCells (natI (offsTo f5 j))) ∧ Below w5.heap.size w5 wr) (fun _ y _ => s.size + 1 - (intOf y).toNat)
        case atStart => exact ⟨0, Nat.zero_le _, rfl, World.ownsRow_nil _ _ _ _, Below.refl _ _⟩
        case round =>
          obtain ⟨j, hj, rfl, hown, hbel⟩ := hrel
          obtain ⟨w, hw⟩ : ∃ w, w = wr := ⟨wr, rfl⟩
          subst hw
          have O := hide hown
          have Bw := hide hbel
          have hszw := hbel.size
          by_cases hlt : j < s.size + 1
          · have hdj : decide ((j : Int) < ((s.size + 1 : Nat) : Int)) = true := decide_eq_true (by omega)
            have hdj2 : decide (j < s.size + 1) = true := decide_eq_true hlt
            obtain ⟨pf, z, rfl, hz, hcz0⟩ := bool_cell S5.out.reads hlt
            have hcz := (hbel.cell (p := pf.add j) (World.block_lt_of_cell? _ _ hcz0)).trans hcz0
            have hfi : f5.getD j false = z := by rw [List.getD_eq_getElem?_getD, hz]; rfl
            have hnext := offsTo_next f5 j
            rw [hfi] at hnext
            have hlo := offsTo_len f5 j
            have hlo2 : (numCells (natI (offsTo f5 j))).length ≤ 61 := by rw [num_len, natI_len]; omega
            cases z with
            | false =>
              rw [if_neg (by simp)] at hnext
              have E := hide hnext
              clear hown hbel hcz0 hz hfi hnext
              go_wp2
              go_roundw
              case rel => exact ⟨j + 1, by omega, by go_num, by rw [E.out]; exact O.out, Bw.out⟩
              case measure => simp [intOf]; omega
            | true =>
              rw [if_pos rfl] at hnext
              have E := hide hnext
              clear hown hbel hcz0 hz hfi hnext
              go_wp2_with (at_builtin; refine wp_push rfl (.tmp 43) (.tmp 45) 28 rfl 3 i3 (.int .i64 0) 8 Tryd.underlying28 hi3 hy0 hy1 hy2 rfl w5.heap.size _ (numCells (natI (offsTo f5 j))) rfl _ _ rfl O.out.src hszw _ rfl rfl (by omega) (by unfold maxLen; omega) ?_)
              intro v' w7 ho7 hb7
              rw [num_snoc, ← E.out] at ho7
              have O7 := hide ho7
              have B7 := hide (Bw.out.trans hb7)
              clear ho7 hb7
              go_wp2
              go_roundw
              case rel => exact ⟨j + 1, by omega, by go_num, O7.out, B7.out⟩
              case measure => simp [intOf]; omega
          · obtain rfl : j = s.size + 1 := by omega
            rw [Hfin.out] at O
            have B6 := hide (bgo B5.out hbel)
            clear hown hbel
            go_wp2
            go_ret
            exact ⟨_, rfl, owns_mono O.out B5.out.size, B6.out⟩
      · have hne : (q != 0) = true := int_ne c3
        have he : endsA r s.data.toList (i : Int) = [] := by unfold endsA; rw [if_pos (Or.inr (Or.inr (by omega)))]
        rw [he]
        clear he hq
        go_enter Tryd.func13, Tryd.ntmps13
        go_wp2_with fail
        with_reducible refine HR.out.mono ?_
        rintro e w2 ⟨rfl, hb2⟩
        have B2 := hide (bgo BB.out hb2)
        clear hb2
        go_wp2
        go_ret
        exact GrewI.nil W _ B2.out
end Go.Proofs.YtkghbhcjgogaeaaDoor
