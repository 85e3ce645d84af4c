/- Walks of layer 11's reference: skip. -/
import Derived.Test.YteokeljmggdecaaDoorRa
namespace Go.Proofs.YteokeljmggdecaaDoor
open Go.RowKit

theorem sk_bl {c : UInt8} {r : List UInt8} (h : blB c = true) : skS (c :: r) = skS r := by rw [skS, skB.eq_2, if_pos h]
theorem sk_com (r : List UInt8) : skS (47 :: 47 :: r) = skB true (47 :: 47 :: r) := by
  have : blB 47 = false := by decide
  rw [skS, skB.eq_2, if_neg (by rw [this]; decide), if_pos ⟨rfl, rfl⟩]
  rfl
theorem sk_stay {c : UInt8} {r : List UInt8} (h : blB c = false) (h2 : ¬ (c = 47 ∧ r.head? = some 47)) : skS (c :: r) = c :: r := by
  rw [skS, skB.eq_2, if_neg (by rw [h]; decide), if_neg h2]
theorem sk_in {c : UInt8} {r : List UInt8} (h : ¬ c = 10) : skB true (c :: r) = skB true r := by rw [skB.eq_3, if_neg h]
theorem sk_out (r : List UInt8) : skB true (10 :: r) = skS (10 :: r) := by
  rw [skB.eq_3, if_pos rfl, sk_bl (by decide)]
theorem sk_size {s : ByteArray} {j : Nat} {R : List UInt8} (h : s.data.toList.drop j = R) (hj : j ≤ s.size) : j = s.size - R.length := by
  rw [← h, List.length_drop, size_list]
  omega
set_option maxRecDepth 100000 in
set_option maxHeartbeats 6400000 in
theorem rskip (s : ByteArray) (k : Nat) (hk : k ≤ s.size) (hs : s.size ≤ 1000000) (E : Nat) (hE : s.size - (skS (s.data.toList.drop k)).length = E) (w : World) :
    Calls Tryd.prog 43 #[.string s, .int .i64 (k : Int)] w fun e w' => e = .returned (.int .i64 (E : Int)) ∧ w = w' := by
  obtain ⟨R, hR⟩ : ∃ R, skS (s.data.toList.drop k) = R := ⟨_, rfl⟩
  rw [hR] at hE
  have HE := hide hE
  have HR := hide hR
  clear hE hR
  go_enter Tryd.func43, Tryd.ntmps43
  go_wp2_with fail
  go_loopw [1] (fun y wr => ∃ j : Nat, j ≤ s.size ∧ y = .int .i64 (j : Int) ∧ skS (s.data.toList.drop j) = R ∧ wr = w) (fun y _ => s.size - (intOf y).toNat)
  case atStart => exact ⟨k, hk, rfl, HR.out, rfl⟩
  case round =>
    clear HR hk
    obtain ⟨j, hj, rfl, hjR, hww⟩ := hrel
    obtain ⟨w1, hw1⟩ : ∃ w1, w1 = wr := ⟨wr, rfl⟩
    subst hw1
    have Hww := hide hww
    clear hww
    by_cases hlt : j < s.size
    · have hji : (j : Int) < (s.size : Int) := by omega
      have hd := drop_cons hlt
      have q32 : (((s[j]).toNat : Int) == 32) = (s[j] == 32) := u8_eq (by decide)
      have q9 : (((s[j]).toNat : Int) == 9) = (s[j] == 9) := u8_eq (by decide)
      have q10 : (((s[j]).toNat : Int) == 10) = (s[j] == 10) := u8_eq (by decide)
      have q47 : (((s[j]).toNat : Int) == 47) = decide (s[j] = 47) := u8_eq (n := 47) (by decide)
      obtain ⟨b32, h32⟩ : ∃ b, (s[j] == 32) = b := ⟨_, rfl⟩
      obtain ⟨b9, h9⟩ : ∃ b, (s[j] == 9) = b := ⟨_, rfl⟩
      obtain ⟨b10, h10⟩ : ∃ b, (s[j] == 10) = b := ⟨_, rfl⟩
      rw [h32] at q32
      rw [h9] at q9
      rw [h10] at q10
      have hbl : blB s[j] = (b32 || b9 || b10) := by unfold blB; rw [h32, h9, h10]
      by_cases hb : blB s[j] = true
      · have Hn := hide (show skS (s.data.toList.drop (j + 1)) = R by rw [← hjR, hd, sk_bl hb])
        rw [hb] at hbl
        clear hjR hd hb h32 h9 h10 q47
        cases b32
        · cases b9
          · cases b10
            · cases hbl
            · clear hbl
              go_wp2
              go_roundw
              case rel => exact ⟨j + 1, by omega, by go_num, Hn.out, Hww.out⟩
              case measure => simp [intOf]; omega
          · clear hbl
            go_wp2
            go_roundw
            case rel => exact ⟨j + 1, by omega, by go_num, Hn.out, Hww.out⟩
            case measure => simp [intOf]; omega
        · clear hbl
          go_wp2
          go_roundw
          case rel => exact ⟨j + 1, by omega, by go_num, Hn.out, Hww.out⟩
          case measure => simp [intOf]; omega
      · have hb0 : blB s[j] = false := by simpa using hb
        rw [hb0] at hbl
        have hbl2 := hbl.symm
        clear hbl
        rw [Bool.or_eq_false_iff, Bool.or_eq_false_iff] at hbl2
        obtain ⟨⟨rfl, rfl⟩, rfl⟩ := hbl2
        clear h32 h9
        by_cases hc : s[j] = 47
        · rw [decide_eq_true hc] at q47
          by_cases hlt2 : j + 1 < s.size
          · have hji2 : (j : Int) + 1 < (s.size : Int) := by omega
            have hd2 := drop_cons hlt2
            have q47b : (((s[j + 1]).toNat : Int) == 47) = decide (s[j + 1] = 47) := u8_eq (n := 47) (by decide)
            by_cases hc2 : s[j + 1] = 47
            · rw [decide_eq_true hc2] at q47b
              have Hn := hide (show skB true (s.data.toList.drop j) = R by rw [← hjR, hd, hd2, hc, hc2, sk_com])
              have Hne := hide (show ¬ s[j] = 10 by rw [hc]; decide)
              have hlt3 : j ≤ s.size := by omega
              clear hjR hd hd2 hb hb0 h10 hc hc2
              go_wp2_with fail
              go_loopw [1] (fun y wr => ∃ i : Nat, j ≤ i ∧ i ≤ s.size ∧ y = .int .i64 (i : Int) ∧ skB true (s.data.toList.drop i) = R ∧ wr = w1) (fun y _ => s.size - (intOf y).toNat)
              case atStart => exact ⟨j, Nat.le_refl _, by omega, rfl, Hn.out, rfl⟩
              case round =>
                obtain ⟨i, hij, hi, rfl, hiR, hww2⟩ := hrel
                obtain ⟨w2, hw2⟩ : ∃ w2, w2 = wr := ⟨wr, rfl⟩
                subst hw2
                have Hww2 := hide (hww2.trans Hww.out)
                have Hww3 := hide hww2
                clear hww2
                by_cases hil : i < s.size
                · have hii : (i : Int) < (s.size : Int) := by omega
                  have hdi := drop_cons hil
                  have qi : (((s[i]).toNat : Int) == 10) = decide (s[i] = 10) := u8_eq (n := 10) (by decide)
                  by_cases hi10 : s[i] = 10
                  · rw [decide_eq_true hi10] at qi
                    have qi' : (((s[i]).toNat : Int) != 10) = false := by unfold bne; rw [qi]; rfl
                    have Hm := hide (show skS (s.data.toList.drop i) = R by rw [← hiR, hdi, hi10, sk_out])
                    have hne : j ≠ i := by
                      intro e
                      subst e
                      exact Hne.out hi10
                    have hlt4 : j < i := by omega
                    clear hiR hdi hi10 hne
                    go_wp2
                    go_roundw
                    case rel => exact ⟨i, by omega, rfl, Hm.out, Hww2.out⟩
                    case measure => simp [intOf]; omega
                  · rw [decide_eq_false hi10] at qi
                    have qi' : (((s[i]).toNat : Int) != 10) = true := by unfold bne; rw [qi]; rfl
                    have Hm := hide (show skB true (s.data.toList.drop (i + 1)) = R by rw [← hiR, hdi, sk_in hi10])
                    clear hiR hdi hi10
                    go_wp2
                    go_roundw
                    case rel => exact ⟨i + 1, by omega, by omega, by go_num, Hm.out, Hww3.out⟩
                    case measure => simp [intOf]; omega
                · have hii : ¬ (i : Int) < (s.size : Int) := by omega
                  have Hm := hide (show skS (s.data.toList.drop i) = R by rw [← hiR, drop_end hil]; rfl)
                  have hlt4 : j < i := by omega
                  clear hiR
                  go_wp2
                  go_roundw
                  case rel => exact ⟨i, by omega, rfl, Hm.out, Hww2.out⟩
                  case measure => simp [intOf]; omega
            · rw [decide_eq_false hc2] at q47b
              have Hy := hide (show j = E by
                rw [← HE.out, ← hjR, hd, sk_stay hb0 (fun h => hc2 (by rw [hd2] at h; injection h.2)), ← hd]
                exact sk_size rfl hj)
              clear hjR hd hd2 hb hb0 h10 hc hc2
              go_wp2
              go_ret
              exact ⟨ret_int (by rw [Hy.out]), Hww.out.symm⟩
          · have hji2 : ¬ (j : Int) + 1 < (s.size : Int) := by omega
            have Hy := hide (show j = E by
              rw [← HE.out, ← hjR, hd, sk_stay hb0 (fun h => by rw [drop_end hlt2] at h; cases h.2), ← hd]
              exact sk_size rfl hj)
            clear hjR hd hb hb0 h10 hc
            go_wp2
            go_ret
            exact ⟨ret_int (by rw [Hy.out]), Hww.out.symm⟩
        · rw [decide_eq_false hc] at q47
          have Hy := hide (show j = E by
            rw [← HE.out, ← hjR, hd, sk_stay hb0 (fun h => hc h.1), ← hd]
            exact sk_size rfl hj)
          clear hjR hd hb hb0 h10 hc
          go_wp2
          go_ret
          exact ⟨ret_int (by rw [Hy.out]), Hww.out.symm⟩
    · have hji : ¬ (j : Int) < (s.size : Int) := by omega
      have Hy := hide (show j = E by
        rw [← HE.out, ← hjR, drop_end hlt]
        show j = s.size - 0
        omega)
      clear hjR
      go_wp2
      go_ret
      exact ⟨ret_int (by rw [Hy.out]), Hww.out.symm⟩
end Go.Proofs.YteokeljmggdecaaDoor
