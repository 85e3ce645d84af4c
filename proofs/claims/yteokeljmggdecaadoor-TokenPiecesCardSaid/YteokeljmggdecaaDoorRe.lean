/- Walks of layer 11's reference: number, meta. -/
import Derived.Test.YteokeljmggdecaaDoorRb
import Derived.Test.YteokeljmggdecaaDoorHq
namespace Go.Proofs.YteokeljmggdecaaDoor
open Go.RowKit

/-- A token and its error; where there is an error, the token may be any. -/
def GotE (w : World) (k : Nat) (q : Int) (x : Int × List UInt8 × Nat) (e : Ending) (w' : World) : Prop :=
  ∃ (K : Int) (T : ByteArray) (a E : Int), e = .returned (.tuple #[.agg #[.int .i64 K, .string T, .int .i64 a, .int .i64 E], .int .i64 q]) ∧ (q = 0 → K = x.1 ∧ T = bs x.2.1 ∧ a = (k : Int) ∧ E = ((k + x.2.2 : Nat) : Int)) ∧ Below w.heap.size w w'
theorem ext_bs (s : ByteArray) (k n : Nat) : s.extract k (k + n) = bs ((s.data.toList.drop k).take n) := by
  refine ba_ext ?_
  rw [bs_list]
  simp
theorem int_at {s : ByteArray} {j : Nat} (h : j < s.size) (hw : dgB s[j] = true) : (intS (s.data.toList.drop j)).length = (intS (s.data.toList.drop (j + 1))).length + 1 := by
  rw [drop_cons h]
  unfold intS
  rw [tw_cons _ _ hw]
  rfl
theorem int_stop {s : ByteArray} {j : Nat} (h : j < s.size) (hw : dgB s[j] = false) : (intS (s.data.toList.drop j)).length = 0 := by
  rw [drop_cons h]
  unfold intS
  simp [List.takeWhile, hw]
theorem int_end {s : ByteArray} {j : Nat} (h : ¬ j < s.size) : (intS (s.data.toList.drop j)).length = 0 := by
  rw [drop_end h]
  rfl
theorem num_fault {c : UInt8} {x : List UInt8} (h : dgB c = true) : faultS 3 (intS (c :: x)) = if c = 48 ∧ 1 < (intS (c :: x)).length then 11 else if 9 < (intS (c :: x)).length then 4 else 0 := by
  have hall : (intS (c :: x)).all dgB = true := tw_all _
  have e : intS (c :: x) = c :: intS x := tw_cons c x h
  unfold faultS
  rw [form3, hall, show longS 3 = 9 from rfl]
  rw [e]
  simp only [List.isEmpty_cons, Bool.not_false, List.headD_cons, Bool.true_and, Bool.and_true]
  by_cases h48 : c = 48
  · subst h48
    cases hx : intS x with
    | nil => rfl
    | cons y z => simp
  · have hb : (c == 48) = false := beq_eq_false_iff_ne.2 h48
    rw [hb]
    simp [h48]

set_option maxRecDepth 100000 in
set_option maxHeartbeats 6400000 in
theorem rnumber (s : ByteArray) (k : Nat) (hk : k < s.size) (hs : s.size ≤ 1000000) (hd : dgB s[k] = true) (w : World) :
    Calls Tryd.prog 65 #[.string s, .int .i64 (k : Int)] w (GotE w k (faultS 3 (intS (s.data.toList.drop k))) (3, intS (s.data.toList.drop k), (intS (s.data.toList.drop k)).length)) := by
  obtain ⟨W0, hW0, hF0, hFr0, hb0, hsz0⟩ := start_box w
  obtain ⟨t, ht⟩ : ∃ t, intS (s.data.toList.drop k) = t := ⟨_, rfl⟩
  have hdc := drop_cons hk
  have hnf := num_fault (x := s.data.toList.drop (k + 1)) hd
  rw [← hdc] at hnf
  have hle : t.length ≤ s.size - k := by
    have := tw_len (p := dgB) (s.data.toList.drop k)
    rw [List.length_drop, size_list] at this
    rw [← ht]
    exact this
  have hpos : 1 ≤ t.length := by
    have h1 := int_at hk hd
    rw [ht] at h1
    omega
  have htk : (s.data.toList.drop k).take t.length = t := by
    rw [← ht]
    exact tw_take _
  rw [ht] at hnf ⊢
  obtain ⟨q, hq⟩ : ∃ q, faultS 3 t = q := ⟨_, rfl⟩
  rw [hq] at hnf ⊢
  obtain ⟨E, hE⟩ : ∃ E, k + t.length = E := ⟨_, rfl⟩
  have hext : s.extract k E = bs t := by rw [← hE, ext_bs, htk]
  have HE := hide hE
  have Hnf := hide hnf
  have Hext := hide hext
  have Hst := hide (show k + (intS (s.data.toList.drop k)).length = E by rw [ht]; exact hE)
  have hEs : E ≤ s.size := by omega
  have HW0 := hide hW0
  have HF0 := hide hF0
  have HR0 := hide hFr0
  have HB0 := hide hb0
  have HS0 := hide hsz0
  have q48 : (((s[k]).toNat : Int) == 48) = decide (s[k] = 48) := u8_eq (n := 48) (by decide)
  clear ht hdc hnf htk hq hE hext hW0 hF0 hFr0 hb0 hsz0
  have hki : (k : Int) < (s.size : Int) := by omega
  go_enter Tryd.func65, Tryd.ntmps65
  go_wp2_with fail
  rw [HW0.out]
  clear HW0
  go_loopw [6] (fun y wr => ∃ j : Nat, k ≤ j ∧ j ≤ s.size ∧ y = .int .i64 (j : Int) ∧ j + (intS (s.data.toList.drop j)).length = E ∧ wr = W0) (fun y _ => s.size - (intOf y).toNat)
  case atStart => exact ⟨k, Nat.le_refl _, by omega, rfl, Hst.out, rfl⟩
  case round =>
    clear Hst
    obtain ⟨j, hkj, hj, rfl, hjE, rfl⟩ := hrel
    by_cases hlt : j < s.size
    · have hji : (j : Int) < (s.size : Int) := by omega
      have HD := hide (fun W => rdigit s[j] W)
      cases hdj : dgB s[j] with
      | true =>
        have Hn := hide (show j + 1 + (intS (s.data.toList.drop (j + 1))).length = E by have := int_at hlt hdj; omega)
        rw [hdj] at HD
        clear hjE hdj
        go_wp2_with fail
        with_reducible refine (HD.out _).mono ?_
        rintro e w3 ⟨rfl, rfl⟩
        go_wp2
        go_roundw
        case rel => exact ⟨j + 1, by omega, by omega, by go_num, Hn.out, trivial⟩
        case measure => simp [intOf]; omega
      | false =>
        have hjE2 : j = E := by have := int_stop hlt hdj; omega
        rw [hdj] at HD
        clear hdj
        subst hjE2
        have HT := hide (four_new wr (.int .i64 3) (.string (s.extract k j)) (.int .i64 (k : Int)) (.int .i64 (j : Int)) 33)
        have hbx := bnew (Below.refl wr.heap.size wr) (.cells #[.int .i64 3, .string (s.extract k j), .int .i64 (k : Int), .int .i64 (j : Int)] 33)
        have HF1 := hide (HF0.out.keep hbx)
        have HR1 := hide (HR0.out.at_ hbx HF0.out.1)
        have HB1 := hide (HB0.out.trans (hbx.mono HB0.out.size))
        obtain ⟨⟨-, f0, f1, f2, f3⟩, g0, g1, g2, g3⟩ := And.intro HF1.out HR1.out
        clear hjE hbx
        by_cases hA : s[k] = 48 ∧ 1 < t.length
        · have Hq := hide (show q = 11 by rw [Hnf.out, if_pos hA])
          rw [decide_eq_true hA.1] at q48
          have hI : (k : Int) + 1 < (j : Int) := by have := HE.out; omega
          have hI2 : (j : Int) > (k : Int) + 1 := hI
          have hI3 : decide ((k : Int) + 1 < (j : Int)) = true := decide_eq_true hI
          clear hA
          go_wp2_with fail
          with_reducible refine (HD.out _).mono ?_
          rintro e w3 ⟨rfl, rfl⟩
          go_wp2
          refine bodyPost_ret (res_two rfl _ _ w.heap.size _ _ _ _ _ rfl rfl (put4_four HF1.out _ _ _ _)) rfl ⟨_, _, _, _, by rw [Hq.out]; rfl, fun h => ?_, put4_below HB1.out (Nat.le_refl _)⟩
          rw [Hq.out] at h; exact absurd h (by decide)
        · by_cases hB : 9 < t.length
          · have Hq := hide (show q = 4 by rw [Hnf.out, if_neg hA, if_pos hB])
            have hJ : (k : Int) + 9 < (j : Int) := by have := HE.out; omega
            have hJ2 : (j : Int) > (k : Int) + 9 := hJ
            by_cases h48 : s[k] = 48
            · exact absurd ⟨h48, by omega⟩ hA
            · rw [decide_eq_false h48] at q48
              clear hA hB h48
              go_wp2_with fail
              with_reducible refine (HD.out _).mono ?_
              rintro e w3 ⟨rfl, rfl⟩
              go_wp2
              refine bodyPost_ret (res_two rfl _ _ w.heap.size _ _ _ _ _ rfl rfl (put4_four HF1.out _ _ _ _)) rfl ⟨_, _, _, _, by rw [Hq.out]; rfl, fun h => ?_, put4_below HB1.out (Nat.le_refl _)⟩
              rw [Hq.out] at h; exact absurd h (by decide)
          · have Hq := hide (show q = 0 by rw [Hnf.out, if_neg hA, if_neg hB])
            have hJ : ¬ (k : Int) + 9 < (j : Int) := by have := HE.out; omega
            have hJ2 : ¬ (j : Int) > (k : Int) + 9 := hJ
            by_cases h48 : s[k] = 48
            · have hI : ¬ (k : Int) + 1 < (j : Int) := fun h => hA ⟨h48, by have := HE.out; omega⟩
              have hI2 : ¬ (j : Int) > (k : Int) + 1 := hI
              rw [decide_eq_true h48] at q48
              clear hA hB h48
              go_wp2_with fail
              with_reducible refine (HD.out _).mono ?_
              rintro e w3 ⟨rfl, rfl⟩
              go_wp2
              refine bodyPost_ret (res_two rfl _ _ w.heap.size _ _ _ _ _ rfl rfl (put4_four HF1.out _ _ _ _)) rfl ⟨_, _, _, _, by rw [Hq.out]; rfl, fun h => ?_, put4_below HB1.out (Nat.le_refl _)⟩
              exact ⟨rfl, Hext.out, rfl, by rw [HE.out]⟩
            · rw [decide_eq_false h48] at q48
              clear hA hB h48
              go_wp2_with fail
              with_reducible refine (HD.out _).mono ?_
              rintro e w3 ⟨rfl, rfl⟩
              go_wp2
              refine bodyPost_ret (res_two rfl _ _ w.heap.size _ _ _ _ _ rfl rfl (put4_four HF1.out _ _ _ _)) rfl ⟨_, _, _, _, by rw [Hq.out]; rfl, fun h => ?_, put4_below HB1.out (Nat.le_refl _)⟩
              exact ⟨rfl, Hext.out, rfl, by rw [HE.out]⟩
    · have hji : ¬ (j : Int) < (s.size : Int) := by omega
      have hjE2 : j = E := by have := int_end hlt; omega
      subst hjE2
      have HT := hide (four_new wr (.int .i64 3) (.string (s.extract k j)) (.int .i64 (k : Int)) (.int .i64 (j : Int)) 33)
      have hbx := bnew (Below.refl wr.heap.size wr) (.cells #[.int .i64 3, .string (s.extract k j), .int .i64 (k : Int), .int .i64 (j : Int)] 33)
      have HF1 := hide (HF0.out.keep hbx)
      have HR1 := hide (HR0.out.at_ hbx HF0.out.1)
      have HB1 := hide (HB0.out.trans (hbx.mono HB0.out.size))
      obtain ⟨⟨-, f0, f1, f2, f3⟩, g0, g1, g2, g3⟩ := And.intro HF1.out HR1.out
      clear hjE hbx
      by_cases hA : s[k] = 48 ∧ 1 < t.length
      · have Hq := hide (show q = 11 by rw [Hnf.out, if_pos hA])
        rw [decide_eq_true hA.1] at q48
        have hI : (k : Int) + 1 < (j : Int) := by have := HE.out; omega
        have hI2 : (j : Int) > (k : Int) + 1 := hI
        have hI3 : decide ((k : Int) + 1 < (j : Int)) = true := decide_eq_true hI
        clear hA
        go_wp2
        refine bodyPost_ret (res_two rfl _ _ w.heap.size _ _ _ _ _ rfl rfl (put4_four HF1.out _ _ _ _)) rfl ⟨_, _, _, _, by rw [Hq.out]; rfl, fun h => ?_, put4_below HB1.out (Nat.le_refl _)⟩
        rw [Hq.out] at h; exact absurd h (by decide)
      · by_cases hB : 9 < t.length
        · have Hq := hide (show q = 4 by rw [Hnf.out, if_neg hA, if_pos hB])
          have hJ : (k : Int) + 9 < (j : Int) := by have := HE.out; omega
          have hJ2 : (j : Int) > (k : Int) + 9 := hJ
          by_cases h48 : s[k] = 48
          · exact absurd ⟨h48, by omega⟩ hA
          · rw [decide_eq_false h48] at q48
            clear hA hB h48
            go_wp2
            refine bodyPost_ret (res_two rfl _ _ w.heap.size _ _ _ _ _ rfl rfl (put4_four HF1.out _ _ _ _)) rfl ⟨_, _, _, _, by rw [Hq.out]; rfl, fun h => ?_, put4_below HB1.out (Nat.le_refl _)⟩
            rw [Hq.out] at h; exact absurd h (by decide)
        · have Hq := hide (show q = 0 by rw [Hnf.out, if_neg hA, if_neg hB])
          have hJ : ¬ (k : Int) + 9 < (j : Int) := by have := HE.out; omega
          have hJ2 : ¬ (j : Int) > (k : Int) + 9 := hJ
          by_cases h48 : s[k] = 48
          · have hI : ¬ (k : Int) + 1 < (j : Int) := fun h => hA ⟨h48, by have := HE.out; omega⟩
            have hI2 : ¬ (j : Int) > (k : Int) + 1 := hI
            rw [decide_eq_true h48] at q48
            clear hA hB h48
            go_wp2
            refine bodyPost_ret (res_two rfl _ _ w.heap.size _ _ _ _ _ rfl rfl (put4_four HF1.out _ _ _ _)) rfl ⟨_, _, _, _, by rw [Hq.out]; rfl, fun h => ?_, put4_below HB1.out (Nat.le_refl _)⟩
            exact ⟨rfl, Hext.out, rfl, by rw [HE.out]⟩
          · rw [decide_eq_false h48] at q48
            clear hA hB h48
            go_wp2
            refine bodyPost_ret (res_two rfl _ _ w.heap.size _ _ _ _ _ rfl rfl (put4_four HF1.out _ _ _ _)) rfl ⟨_, _, _, _, by rw [Hq.out]; rfl, fun h => ?_, put4_below HB1.out (Nat.le_refl _)⟩
            exact ⟨rfl, Hext.out, rfl, by rw [HE.out]⟩
end Go.Proofs.YteokeljmggdecaaDoor
