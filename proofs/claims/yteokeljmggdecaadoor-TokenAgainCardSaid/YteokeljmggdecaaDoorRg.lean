/- Walk of layer 11's reference: literal. -/
import Derived.Test.YteokeljmggdecaaDoorRe
import Derived.Test.YteokeljmggdecaaDoorRc
import Derived.Deep.Cut
namespace Go.Proofs.YteokeljmggdecaaDoor
open Go.RowKit
open Go.Lib (byteCells)

theorem lit_fault {t : List UInt8} (h : t.all conB = true) : faultS 4 t = if 60 < t.length then 4 else 0 := by
  unfold faultS
  rw [form4, h, if_neg (by decide)]
  rfl
/-- A literal whose contents so far are acc. -/
theorem litK_none {r r1 : List UInt8} {acc : List UInt8} {n : Nat} (h : litS r = (litS r1).map (fun y => (acc ++ y.1, y.2 + n))) (h1 : litS r1 = none) : litK r = (0, [], 0) := by
  unfold litK
  rw [h, h1]
  rfl
theorem litK_some {r r1 : List UInt8} {acc : List UInt8} {n : Nat} (h : litS r = (litS (34 :: r1)).map (fun y => (acc ++ y.1, y.2 + n))) : litK r = (4, acc, n + 2) ∧ acc.all conB = true := by
  have h2 : litS r = some (acc, 1 + n) := by rw [h, litS_end, Option.map_some, List.append_nil]
  refine ⟨?_, (litS_len _ r (Nat.le_refl _) _ _ h2).2.2.1⟩
  unfold litK
  rw [h2]
  show (4, acc, 1 + n + 1) = _
  rw [show 1 + n + 1 = n + 2 by omega]

set_option maxRecDepth 100000 in
set_option maxHeartbeats 12800000 in
theorem rliteral (s : ByteArray) (k : Nat) (hk : k < s.size) (hs : s.size ≤ 1000000) (w : World) :
    Calls Tryd.prog 66 #[.string s, .int .i64 (k : Int)] w (GotE w k (faultS (litK (s.data.toList.drop (k + 1))).1 (litK (s.data.toList.drop (k + 1))).2.1) (litK (s.data.toList.drop (k + 1)))) := by
  obtain ⟨i0, hi, hz0, hz1, hz2⟩ := info_parts info5
  obtain ⟨W0, hW0, hF0, hFr0, hb0, hsz0⟩ := start_box w
  have HW0 := hide hW0
  have HF0 := hide hF0
  have HR0 := hide hFr0
  have HB0 := hide hb0
  have hO1 := own_lit5 W0 #[] [] 0 rfl rfl (by decide)
  have HO1 := hide (show Own (W0.alloc (.cells #[] 5)) W0.heap.size 5 (.slice (some ⟨W0.heap.size, 0, none⟩) 0 0) (byteCells []) from hO1)
  have HB1 := hide (bnew (Below.refl W0.heap.size W0) (.cells #[] 5))
  have hF0lt := hF0.1
  clear hW0 hF0 hFr0 hb0 hsz0 hO1
  obtain ⟨x, hx⟩ : ∃ x, litK (s.data.toList.drop (k + 1)) = x := ⟨_, rfl⟩
  rw [hx]
  have Hx := hide hx
  obtain ⟨q, hq⟩ : ∃ q, faultS x.1 x.2.1 = q := ⟨_, rfl⟩
  rw [hq]
  have Hq := hide hq
  clear hx hq
  have hki : (k : Int) < (s.size : Int) := by omega
  go_enter Tryd.func66, Tryd.ntmps66
  go_upto_region 1 with (fail)
  rw [HW0.out]
  clear HW0
  go_wp2_with fail
  go_loopw [6, 7] (fun u y wr => ∃ (i n : Nat) (acc : List UInt8), i = k + 1 + n ∧ i ≤ s.size ∧ y = .int .i64 (i : Int) ∧ Own wr W0.heap.size 5 u (byteCells acc) ∧ acc.length ≤ n ∧ litS (s.data.toList.drop (k + 1)) = (litS (s.data.toList.drop i)).map (fun y => (acc ++ y.1, y.2 + n)) ∧ Below W0.heap.size W0 wr) (fun _ y _ => s.size - (intOf y).toNat)
  case atStart =>
    refine ⟨k + 1, 0, [], rfl, by omega, by go_num, HO1.out, Nat.le_refl _, ?_, HB1.out⟩
    cases litS (s.data.toList.drop (k + 1)) <;> rfl
  case round =>
    clear HO1 HB1
    obtain ⟨i, n, acc, hin, hi', rfl, hown, hacc, hlit, hb⟩ := hrel
    obtain ⟨w1, hw1⟩ : ∃ w1, w1 = wr := ⟨wr, rfl⟩
    subst hw1
    have hsz1 := hb.size
    have HF1 := hide (HF0.out.at_ hb hF0lt)
    have HR1 := hide (HR0.out.at_ hb hF0lt)
    have HB1 := hide (HB0.out.trans (hb.mono HB0.out.size))
    have HB := hide hb
    have HO := hide hown
    have Hlit := hide hlit
    have Hin := hide hin
    have hlen : (byteCells acc).length ≤ 1000000 := by rw [byteC_len]; omega
    obtain ⟨⟨-, f0, f1, f2, f3⟩, g0, g1, g2, g3⟩ := And.intro HF1.out HR1.out
    by_cases hlt : i < s.size
    · have hii : (i : Int) < (s.size : Int) := by omega
      have hii2 : ¬ (i : Int) ≥ (s.size : Int) := by omega
      have hii3 : ¬ (s.size : Int) ≤ (i : Int) := by omega
      have hd := drop_cons hlt
      have q34 : (((s[i]).toNat : Int) == 34) = decide (s[i] = 34) := u8_eq (n := 34) (by decide)
      have q92 : (((s[i]).toNat : Int) == 92) = decide (s[i] = 92) := u8_eq (n := 92) (by decide)
      have hcb := byte_lt s[i]
      by_cases h34 : s[i] = 34
      · rw [decide_eq_true h34] at q34
        have n34 : (((s[i]).toNat : Int) != 34) = false := by unfold bne; rw [q34]; rfl
        rw [hd, h34] at hlit
        obtain ⟨hk4, hall⟩ := litK_some hlit
        have hxe : x = (4, acc, n + 2) := by rw [← Hx.out, hk4]
        have hqe : q = if 60 < acc.length then 4 else 0 := by rw [← Hq.out, hxe]; exact lit_fault hall
        obtain ⟨A2, m2, c2, rfl, hm2, hs2⟩ := hown.sl5
        have hcv := conv_run hs2.reads (c := c2) 59 9 5 Tryd.underlying59 Tryd.underlying5 Tryd.underlying9 (fun e => by have := hs2.2.2.1 e; have := hs2.1; omega)
        obtain ⟨Z, hZ⟩ : ∃ Z, (⟨acc.toArray⟩ : ByteArray) = Z := ⟨_, rfl⟩
        rw [hZ] at hcv
        have HZ := hide (show Z = bs acc from hZ.symm)
        have Hxe := hide hxe
        have hmc := hs2.1
        have hmm : c2 ≤ 9223372036854775807 := hs2.2.1
        by_cases h60 : 60 < acc.length
        · have Hqe := hide (show q = 4 by rw [hqe, if_pos h60])
          have hg : (60 : Int) < (m2 : Int) := by omega
          have hg2 : (m2 : Int) > 60 := hg
          clear hin hown hacc hlit hb hd h34 hk4 hall hxe hqe hm2 hs2 hZ h60 q92 hlen
          go_wp2
          refine bodyPost_ret (res_two rfl _ _ w.heap.size _ _ _ _ _ rfl rfl (put4_four HF1.out _ _ _ _)) rfl ⟨_, _, _, _, by rw [Hqe.out]; rfl, fun h => ?_, put4_below HB1.out (Nat.le_refl _)⟩
          rw [Hqe.out] at h
          exact absurd h (by decide)
        · have Hqe := hide (show q = 0 by rw [hqe, if_neg h60])
          have hg : ¬ (60 : Int) < (m2 : Int) := by omega
          have hg2 : ¬ (m2 : Int) > 60 := hg
          clear hin hown hacc hlit hb hd h34 hk4 hall hxe hqe hm2 hs2 hZ h60 q92 hlen
          go_wp2
          refine bodyPost_ret (res_two rfl _ _ w.heap.size _ _ _ _ _ rfl rfl (put4_four HF1.out _ _ _ _)) rfl ⟨_, _, _, _, by rw [Hqe.out]; rfl, fun _ => ⟨by rw [Hxe.out], by rw [Hxe.out, HZ.out], rfl, ?_⟩, put4_below HB1.out (Nat.le_refl _)⟩
          have h1 := Hin.out
          rw [Hxe.out]
          show (i : Int) + 1 = ((k + (n + 2) : Nat) : Int)
          omega
      · rw [decide_eq_false h34] at q34
        have n34 : (((s[i]).toNat : Int) != 34) = true := by unfold bne; rw [q34]; rfl
        cases hv : visB s[i] with
        | false =>
          have h92 : ¬ s[i] = 92 := fun e => by rw [e] at hv; exact absurd hv (by decide)
          have hxe : x = (0, [], 0) := by rw [← Hx.out]; exact litK_none hlit (by rw [hd]; exact litS_bad _ _ h34 h92 hv)
          have Hqe := hide (show q = 11 by rw [← Hq.out, hxe]; exact fault_none)
          have hvv : (s[i]).toNat < 32 ∨ 126 < (s[i]).toNat := by
            unfold visB at hv
            rw [Bool.and_eq_false_iff, decide_eq_false_iff_not, decide_eq_false_iff_not] at hv
            omega
          clear hin hown hacc hlit hb hd h34 hxe h92 hv q92 hlen
          by_cases h32 : (s[i]).toNat < 32
          · have d32 : decide (((s[i]).toNat : Int) < 32) = true := decide_eq_true (by omega)
            have l32 : ((s[i]).toNat : Int) < 32 := by omega
            clear hvv
            go_wp2
            refine bodyPost_ret (res_two rfl _ _ w.heap.size _ _ _ _ _ rfl rfl (put4_four HF1.out _ _ _ _)) rfl ⟨_, _, _, _, by rw [Hqe.out]; rfl, fun h => ?_, put4_below HB1.out (Nat.le_refl _)⟩
            rw [Hqe.out] at h
            exact absurd h (by decide)
          · have d32 : decide (((s[i]).toNat : Int) < 32) = false := decide_eq_false (by omega)
            have l32 : ¬ ((s[i]).toNat : Int) < 32 := by omega
            have d126 : decide (((s[i]).toNat : Int) > 126) = true := decide_eq_true (by omega)
            have l126 : ((s[i]).toNat : Int) > 126 := by omega
            clear hvv
            go_wp2
            refine bodyPost_ret (res_two rfl _ _ w.heap.size _ _ _ _ _ rfl rfl (put4_four HF1.out _ _ _ _)) rfl ⟨_, _, _, _, by rw [Hqe.out]; rfl, fun h => ?_, put4_below HB1.out (Nat.le_refl _)⟩
            rw [Hqe.out] at h
            exact absurd h (by decide)
        | true =>
          have hvv : 32 ≤ (s[i]).toNat ∧ (s[i]).toNat ≤ 126 := by
            unfold visB at hv
            rw [Bool.and_eq_true, decide_eq_true_eq, decide_eq_true_eq] at hv
            exact hv
          have d32 : decide (((s[i]).toNat : Int) < 32) = false := decide_eq_false (by omega)
          have l32 : ¬ ((s[i]).toNat : Int) < 32 := by omega
          have d126 : decide (((s[i]).toNat : Int) > 126) = false := decide_eq_false (by omega)
          have l126 : ¬ ((s[i]).toNat : Int) > 126 := by omega
          clear hvv
          by_cases h92 : s[i] = 92
          · rw [decide_eq_true h92] at q92
            by_cases hlt2 : i + 1 < s.size
            · have hi2 : (i : Int) + 1 < (s.size : Int) := by omega
              have hi3 : ¬ (i : Int) + 1 ≥ (s.size : Int) := by omega
              have hi4 : ¬ (s.size : Int) ≤ (i : Int) + 1 := by omega
              have hi5 : decide ((i : Int) + 1 ≥ (s.size : Int)) = false := decide_eq_false hi3
              have hi6 : decide ((s.size : Int) ≤ (i : Int) + 1) = false := decide_eq_false hi4
              have hd2 := drop_cons hlt2
              have e34 : (((s[i + 1]).toNat : Int) == 34) = decide (s[i + 1] = 34) := u8_eq (n := 34) (by decide)
              have e92 : (((s[i + 1]).toNat : Int) == 92) = decide (s[i + 1] = 92) := u8_eq (n := 92) (by decide)
              have e110 : (((s[i + 1]).toNat : Int) == 110) = decide (s[i + 1] = 110) := u8_eq (n := 110) (by decide)
              have m34 : (((s[i + 1]).toNat : Int) != 34) = !decide (s[i + 1] = 34) := by unfold bne; rw [e34]
              have m92 : (((s[i + 1]).toNat : Int) != 92) = !decide (s[i + 1] = 92) := by unfold bne; rw [e92]
              have m110 : (((s[i + 1]).toNat : Int) != 110) = !decide (s[i + 1] = 110) := by unfold bne; rw [e110]
              by_cases he : s[i + 1] = 34 ∨ s[i + 1] = 92
              · have hst : litS (s.data.toList.drop (k + 1)) = (litS (s.data.toList.drop (i + 1 + 1))).map (fun y => ((acc ++ [s[i + 1]]) ++ y.1, y.2 + (n + 2))) := by
                  rw [hlit, hd, hd2, h92, litS_esc _ _ he, Option.map_map]
                  congr 1
                  funext y
                  simp only [Function.comp, List.append_assoc, List.singleton_append]
                  congr 1
                  omega
                have h110 : ¬ s[i + 1] = 110 := by rcases he with h | h <;> rw [h] <;> decide
                have HN := hide (show litS (s.data.toList.drop (k + 1)) = (litS (s.data.toList.drop (i + 1 + 1))).map (fun y => ((acc ++ [s[i + 1]]) ++ y.1, y.2 + (n + 2))) from hst)
                rw [decide_eq_false h110] at e110 m110
                have m110 : (((s[i + 1]).toNat : Int) != 110) = true := m110
                by_cases h3 : s[i + 1] = 34
                · rw [decide_eq_true h3] at e34 m34
                  have m34 : (((s[i + 1]).toNat : Int) != 34) = false := m34
                  have h9 : ¬ s[i + 1] = 92 := by rw [h3]; decide
                  rw [decide_eq_false h9] at e92 m92
                  have m92 : (((s[i + 1]).toNat : Int) != 92) = true := m92
                  clear hin hown hlit hb hd hd2 h34 h92 hst h110 he h3 h9 hv
                  go_wp2_with (at_builtin; refine wp_push_far (by rfl) (.tmp 64) (.tmp 66) 59 (by rfl) 5 i0 _ 1 Tryd.underlying59 hi hz0 hz1 hz2 rfl W0.heap.size u6 _ (by rfl) w1 (.int .u8 ((s[i + 1]).toNat : Int)) rfl HO.out hsz1 _ rfl (by rfl) (by omega) (by unfold maxLen; omega) _ ?_)
                  intro v' w3 hown3 hb3 _
                  have hown4 : Own w3 W0.heap.size 5 v' (byteCells (acc ++ [s[i + 1]])) := by
                    rw [Go.Lib.byteCells_append]
                    exact hown3
                  obtain ⟨A3, m3, c3, rfl, -, -⟩ := hown4.sl5
                  have HO3 := hide hown4
                  have HB3 := hide (HB.out.trans hb3)
                  clear hown3 hown4 hb3
                  go_wp2
                  go_roundw
                  case rel => exact ⟨i + 2, n + 2, acc ++ [s[i + 1]], by have := Hin.out; omega, by omega, by go_num, HO3.out, by rw [List.length_append]; simp only [List.length_cons, List.length_nil]; omega, HN.out, HB3.out⟩
                  case measure => simp [intOf]; omega
                · have h9 : s[i + 1] = 92 := by rcases he with h | h; exact absurd h h3; exact h
                  rw [decide_eq_false h3] at e34 m34
                  have m34 : (((s[i + 1]).toNat : Int) != 34) = true := m34
                  rw [decide_eq_true h9] at e92 m92
                  have m92 : (((s[i + 1]).toNat : Int) != 92) = false := m92
                  clear hin hown hlit hb hd hd2 h34 h92 hst h110 he h3 h9 hv
                  go_wp2_with (at_builtin; refine wp_push_far (by rfl) (.tmp 64) (.tmp 66) 59 (by rfl) 5 i0 _ 1 Tryd.underlying59 hi hz0 hz1 hz2 rfl W0.heap.size u6 _ (by rfl) w1 (.int .u8 ((s[i + 1]).toNat : Int)) rfl HO.out hsz1 _ rfl (by rfl) (by omega) (by unfold maxLen; omega) _ ?_)
                  intro v' w3 hown3 hb3 _
                  have hown4 : Own w3 W0.heap.size 5 v' (byteCells (acc ++ [s[i + 1]])) := by
                    rw [Go.Lib.byteCells_append]
                    exact hown3
                  obtain ⟨A3, m3, c3, rfl, -, -⟩ := hown4.sl5
                  have HO3 := hide hown4
                  have HB3 := hide (HB.out.trans hb3)
                  clear hown3 hown4 hb3
                  go_wp2
                  go_roundw
                  case rel => exact ⟨i + 2, n + 2, acc ++ [s[i + 1]], by have := Hin.out; omega, by omega, by go_num, HO3.out, by rw [List.length_append]; simp only [List.length_cons, List.length_nil]; omega, HN.out, HB3.out⟩
                  case measure => simp [intOf]; omega
              · have h3 : ¬ s[i + 1] = 34 := fun h => he (Or.inl h)
                have h9 : ¬ s[i + 1] = 92 := fun h => he (Or.inr h)
                rw [decide_eq_false h3] at e34 m34
                rw [decide_eq_false h9] at e92 m92
                have m34 : (((s[i + 1]).toNat : Int) != 34) = true := m34
                have m92 : (((s[i + 1]).toNat : Int) != 92) = true := m92
                by_cases h110 : s[i + 1] = 110
                · rw [decide_eq_true h110] at e110 m110
                  have m110 : (((s[i + 1]).toNat : Int) != 110) = false := m110
                  have hst : litS (s.data.toList.drop (k + 1)) = (litS (s.data.toList.drop (i + 1 + 1))).map (fun y => ((acc ++ [10]) ++ y.1, y.2 + (n + 2))) := by
                    rw [hlit, hd, hd2, h92, h110, litS_feed, Option.map_map]
                    congr 1
                    funext y
                    simp only [Function.comp, List.append_assoc, List.singleton_append]
                    congr 1
                    omega
                  have HN := hide hst
                  clear hin hown hlit hb hd hd2 h34 h92 hst h110 he h3 h9 hv
                  go_wp2_with (at_builtin; refine wp_push_far (by rfl) (.tmp 64) (.tmp 66) 59 (by rfl) 5 i0 _ 1 Tryd.underlying59 hi hz0 hz1 hz2 rfl W0.heap.size u6 _ (by rfl) w1 (.int .u8 10) rfl HO.out hsz1 _ rfl (by rfl) (by omega) (by unfold maxLen; omega) _ ?_)
                  intro v' w3 hown3 hb3 _
                  have hown4 : Own w3 W0.heap.size 5 v' (byteCells (acc ++ [10])) := by
                    rw [Go.Lib.byteCells_append]
                    exact hown3
                  obtain ⟨A3, m3, c3, rfl, -, -⟩ := hown4.sl5
                  have HO3 := hide hown4
                  have HB3 := hide (HB.out.trans hb3)
                  clear hown3 hown4 hb3
                  go_wp2
                  go_roundw
                  case rel => exact ⟨i + 2, n + 2, acc ++ [10], by have := Hin.out; omega, by omega, by go_num, HO3.out, by rw [List.length_append]; simp only [List.length_cons, List.length_nil]; omega, HN.out, HB3.out⟩
                  case measure => simp [intOf]; omega
                · have hxe : x = (0, [], 0) := by rw [← Hx.out]; exact litK_none hlit (by rw [hd, hd2, h92]; exact litS_no _ _ he h110)
                  have Hqe := hide (show q = 11 by rw [← Hq.out, hxe]; exact fault_none)
                  rw [decide_eq_false h110] at e110 m110
                  have m110 : (((s[i + 1]).toNat : Int) != 110) = true := m110
                  clear hin hown hacc hlit hb hd hd2 h34 hxe h92 hv hlen h3 h9 he h110
                  go_wp2
                  refine bodyPost_ret (res_two rfl _ _ w.heap.size _ _ _ _ _ rfl rfl (put4_four HF1.out _ _ _ _)) rfl ⟨_, _, _, _, by rw [Hqe.out]; rfl, fun h => ?_, put4_below HB1.out (Nat.le_refl _)⟩
                  rw [Hqe.out] at h
                  exact absurd h (by decide)
            · have hi2 : (i : Int) + 1 ≥ (s.size : Int) := by omega
              have hi4 : (s.size : Int) ≤ (i : Int) + 1 := by omega
              have hi5 : decide ((i : Int) + 1 ≥ (s.size : Int)) = true := decide_eq_true hi2
              have hi6 : decide ((s.size : Int) ≤ (i : Int) + 1) = true := decide_eq_true hi4
              have hxe : x = (0, [], 0) := by rw [← Hx.out]; exact litK_none hlit (by rw [hd, drop_end hlt2, h92]; exact litS_last)
              have Hqe := hide (show q = 11 by rw [← Hq.out, hxe]; exact fault_none)
              clear hin hown hacc hlit hb hd h34 hxe h92 hv hlen
              go_wp2
              refine bodyPost_ret (res_two rfl _ _ w.heap.size _ _ _ _ _ rfl rfl (put4_four HF1.out _ _ _ _)) rfl ⟨_, _, _, _, by rw [Hqe.out]; rfl, fun h => ?_, put4_below HB1.out (Nat.le_refl _)⟩
              rw [Hqe.out] at h
              exact absurd h (by decide)
          · rw [decide_eq_false h92] at q92
            have hst : litS (s.data.toList.drop (k + 1)) = (litS (s.data.toList.drop (i + 1))).map (fun y => ((acc ++ [s[i]]) ++ y.1, y.2 + (n + 1))) := by
              rw [hlit, hd, litS_plain _ _ h34 h92 hv, Option.map_map]
              congr 1
              funext y
              simp only [Function.comp, List.append_assoc, List.singleton_append]
              congr 1
              omega
            have HN := hide hst
            clear hin hown hlit hb hd h34 h92 hst hv
            go_wp2_with (at_builtin; refine wp_push_far (by rfl) (.tmp 64) (.tmp 66) 59 (by rfl) 5 i0 _ 1 Tryd.underlying59 hi hz0 hz1 hz2 rfl W0.heap.size u6 _ (by rfl) w1 (.int .u8 ((s[i]).toNat : Int)) rfl HO.out hsz1 _ rfl (by rfl) (by omega) (by unfold maxLen; omega) _ ?_)
            intro v' w3 hown3 hb3 _
            have hown4 : Own w3 W0.heap.size 5 v' (byteCells (acc ++ [s[i]])) := by
              rw [Go.Lib.byteCells_append]
              exact hown3
            obtain ⟨A3, m3, c3, rfl, -, -⟩ := hown4.sl5
            have HO3 := hide hown4
            have HB3 := hide (HB.out.trans hb3)
            clear hown3 hown4 hb3
            go_wp2
            go_roundw
            case rel => exact ⟨i + 1, n + 1, acc ++ [s[i]], by have := Hin.out; omega, by omega, by go_num, HO3.out, by rw [List.length_append]; simp only [List.length_cons, List.length_nil]; omega, HN.out, HB3.out⟩
            case measure => simp [intOf]; omega
    · have hii : ¬ (i : Int) < (s.size : Int) := by omega
      have hii2 : (i : Int) ≥ (s.size : Int) := by omega
      have hii3 : (s.size : Int) ≤ (i : Int) := by omega
      have hxe : x = (0, [], 0) := by rw [← Hx.out]; exact litK_none hlit (by rw [drop_end hlt]; rfl)
      have Hqe := hide (show q = 11 by rw [← Hq.out, hxe]; exact fault_none)
      clear hin hown hacc hlit hb hxe hlen
      go_wp2
      refine bodyPost_ret (res_two rfl _ _ w.heap.size _ _ _ _ _ rfl rfl (put4_four HF1.out _ _ _ _)) rfl ⟨_, _, _, _, by rw [Hqe.out]; rfl, fun h => ?_, put4_below HB1.out (Nat.le_refl _)⟩
      rw [Hqe.out] at h
      exact absurd h (by decide)
end Go.Proofs.YteokeljmggdecaaDoor
