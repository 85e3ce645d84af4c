/- Walk of layer 11's reference: token, a mark. -/
import Derived.Test.YteokeljmggdecaaDoorRha
namespace Go.Proofs.YteokeljmggdecaaDoor
open Go.RowKit

set_option maxRecDepth 100000 in
set_option maxHeartbeats 12800000 in
theorem rtoken_mark (s : ByteArray) (k : Nat) (pat : Bool) (hk : k < s.size) (hs : s.size ≤ 1000000) (hl : ltB s[k] = false) (hd : dgB s[k] = false) (h34 : ¬ s[k] = 34) (h36 : ¬ (pat = true ∧ s[k] = 36)) (w : World) :
    Calls Tryd.prog 44 #[.string s, .int .i64 (k : Int), .bool pat] w (GotE w k (errS pat (s.data.toList.drop k)) (preS pat (s.data.toList.drop k))) := by
  obtain ⟨W0, hW0, hF0, hFr0, hb0, hsz0⟩ := start_box w
  have HW0 := hide hW0
  have HF0 := hide hF0
  have HR0 := hide hFr0
  have HB0 := hide hb0
  have hF0lt := hF0.1
  clear hW0 hF0 hFr0 hb0 hsz0
  have hdc := drop_cons hk
  have hki : (k : Int) < (s.size : Int) := by omega
  obtain ⟨c, hc⟩ : ∃ c, s[k] = c := ⟨_, rfl⟩
  rw [hc] at hl hd h34 h36
  obtain ⟨r, hr⟩ : ∃ r, s.data.toList.drop k = r := ⟨_, rfl⟩
  obtain ⟨r1, hr1⟩ : ∃ r1, s.data.toList.drop (k + 1) = r1 := ⟨_, rfl⟩
  rw [hr, hc, hr1] at hdc
  rw [hr]
  have HL := hide (fun W => rletter c W)
  have HD := hide (fun W => rdigit c W)
  obtain ⟨x, hx⟩ : ∃ x, preS pat r = x := ⟨_, rfl⟩
  obtain ⟨q, hq⟩ : ∃ q, errS pat r = q := ⟨_, rfl⟩
  rw [hx, hq]
  have Hr := hide hr
  have Hr1 := hide hr1
  have Hdc := hide hdc
  have q34 : ((c.toNat : Int) == 34) = decide (c = 34) := u8_eq (n := 34) (by decide)
  have q36 : ((c.toNat : Int) == 36) = decide (c = 36) := u8_eq (n := 36) (by decide)
  have hl0 : ltB c = false := hl
  rw [hl0] at HL
  have hd0 : dgB c = false := hd
  rw [hd0] at HD
  rw [decide_eq_false h34] at q34
  have hlen : (c :: r1).length = s.size - k := by rw [← hdc, ← hr, List.length_drop, size_list]
  obtain ⟨M1, M2⟩ := mark_err (pat := pat) (r1 := r1) hd0 hl0 h34 h36
  rw [← hdc] at M1 M2 hlen
  rw [hlen, hx, hq] at M1 M2
  have e2 : s.extract k (k + 2) = bs (r.take 2) := by rw [ext_bs, hr]
  have e1 : s.extract k (k + 1) = bs [c] := by rw [ext_bs, hr, hdc]; rfl
  have HM2 := fun W => rmark (s.extract k (k + 2)) _ rfl W
  have HM1 := fun W => rmark (s.extract k (k + 1)) _ rfl W
  rw [show (s.extract k (k + 2)).data.toList = r.take 2 by rw [e2, bs_list]] at HM2
  rw [show (s.extract k (k + 1)).data.toList = [c] by rw [e1, bs_list]] at HM1
  obtain ⟨b2, hb2⟩ : ∃ b, isMk (r.take 2) = b := ⟨_, rfl⟩
  obtain ⟨b1, hb1⟩ : ∃ b, isMk [c] = b := ⟨_, rfl⟩
  rw [hb2] at M1 M2 HM2
  rw [hb1] at M2 HM1
  have HM1 := hide HM1
  have HM2 := hide HM2
  have M1 := hide M1
  have M2 := hide M2
  have E1 := hide e1
  have E2 := hide e2
  have hk1 : (k : Int) + 1 ≤ (s.size : Int) := by omega
  clear hx hq hdc hr hr1 hl hl0 hd hd0 h34 e1 e2 hb1 hb2 hlen
  have key : ∃ b36 : Bool, ((c.toNat : Int) == 36) = b36 ∧ (b36 = true → pat = false) := by
    refine ⟨decide (c = 36), q36, fun h => ?_⟩
    cases pat with
    | false => rfl
    | true => exact absurd ⟨rfl, of_decide_eq_true h⟩ h36
  obtain ⟨b36, hb36, hbp⟩ := key
  clear q36 h36
  by_cases h2 : 2 ≤ s.size - k
  · have hk2 : (k : Int) + 2 ≤ (s.size : Int) := by omega
    cases b2 with
    | true =>
      obtain ⟨hx2, hq2⟩ := M1.out ⟨h2, rfl⟩
      have Hfin := hide (show (5 : Int) = x.1 ∧ s.extract k (k + 2) = bs x.2.1 ∧ (k : Int) + 2 = ((k + x.2.2 : Nat) : Int) by rw [hx2]; exact ⟨rfl, E2.out, by show (k : Int) + 2 = ((k + 2 : Nat) : Int); omega⟩)
      have Hq2 := hide hq2
      clear hx2 hq2
      cases b36
      · go_enter Tryd.func44, Tryd.ntmps44
        go_upto_region 1 with (fail)
        rw [HW0.out]
        clear HW0
        go_wp2_with fail
        with_reducible refine (HL.out _).mono ?_
        rintro e w3 ⟨rfl, rfl⟩
        go_wp2_with fail
        with_reducible refine (HD.out _).mono ?_
        rintro e w3 ⟨rfl, rfl⟩
        go_wp2_with fail
        with_reducible refine (HM2.out _).mono ?_
        rintro e w5 ⟨rfl, hb5⟩
        have HF5 := hide (HF0.out.keep hb5)
        have HR5 := hide (HR0.out.at_ hb5 HF0.out.1)
        have HB5 := hide (HB0.out.trans (hb5.mono HB0.out.size))
        clear hb5
        obtain ⟨⟨-, f0, f1, f2, f3⟩, g0, g1, g2, g3⟩ := And.intro HF5.out HR5.out
        go_wp2
        exact bodyPost_ret (res_two rfl _ _ w.heap.size _ _ _ _ _ rfl rfl (put4_four HF5.out _ _ _ _)) rfl ⟨_, _, _, _, by rw [Hq2.out]; rfl, fun _ => ⟨Hfin.out.1, Hfin.out.2.1, rfl, Hfin.out.2.2⟩, put4_below HB5.out (Nat.le_refl _)⟩
      · obtain rfl := hbp rfl
        go_enter Tryd.func44, Tryd.ntmps44
        go_upto_region 1 with (fail)
        rw [HW0.out]
        clear HW0
        go_wp2_with fail
        with_reducible refine (HL.out _).mono ?_
        rintro e w3 ⟨rfl, rfl⟩
        go_wp2_with fail
        with_reducible refine (HD.out _).mono ?_
        rintro e w3 ⟨rfl, rfl⟩
        go_wp2_with fail
        with_reducible refine (HM2.out _).mono ?_
        rintro e w5 ⟨rfl, hb5⟩
        have HF5 := hide (HF0.out.keep hb5)
        have HR5 := hide (HR0.out.at_ hb5 HF0.out.1)
        have HB5 := hide (HB0.out.trans (hb5.mono HB0.out.size))
        clear hb5
        obtain ⟨⟨-, f0, f1, f2, f3⟩, g0, g1, g2, g3⟩ := And.intro HF5.out HR5.out
        go_wp2
        exact bodyPost_ret (res_two rfl _ _ w.heap.size _ _ _ _ _ rfl rfl (put4_four HF5.out _ _ _ _)) rfl ⟨_, _, _, _, by rw [Hq2.out]; rfl, fun _ => ⟨Hfin.out.1, Hfin.out.2.1, rfl, Hfin.out.2.2⟩, put4_below HB5.out (Nat.le_refl _)⟩
    | false =>
      obtain ⟨hx2, hq2⟩ := M2.out (fun h => by cases h.2)
      cases b1 with
      | true =>
        have Hfin := hide (show (5 : Int) = x.1 ∧ s.extract k (k + 1) = bs x.2.1 ∧ (k : Int) + 1 = ((k + x.2.2 : Nat) : Int) by rw [hx2]; exact ⟨rfl, E1.out, by show (k : Int) + 1 = ((k + 1 : Nat) : Int); omega⟩)
        have Hq2 := hide (show q = 0 from hq2)
        clear hx2 hq2
        cases b36
        · go_enter Tryd.func44, Tryd.ntmps44
          go_upto_region 1 with (fail)
          rw [HW0.out]
          clear HW0
          go_wp2_with fail
          with_reducible refine (HL.out _).mono ?_
          rintro e w3 ⟨rfl, rfl⟩
          go_wp2_with fail
          with_reducible refine (HD.out _).mono ?_
          rintro e w3 ⟨rfl, rfl⟩
          go_wp2_with fail
          with_reducible refine (HM2.out _).mono ?_
          rintro e w5 ⟨rfl, hb5⟩
          have HF5 := hide (HF0.out.keep hb5)
          have HR5 := hide (HR0.out.at_ hb5 HF0.out.1)
          have HB5 := hide (HB0.out.trans (hb5.mono HB0.out.size))
          clear hb5
          go_wp2_with fail
          with_reducible refine (HM1.out _).mono ?_
          rintro e w5 ⟨rfl, hb5⟩
          have HF6 := hide (HF5.out.keep hb5)
          have HR6 := hide (HR5.out.at_ hb5 HF5.out.1)
          have HB6 := hide (HB5.out.trans (hb5.mono HB5.out.size))
          clear hb5
          have HF5 := HF6
          have HR5 := HR6
          have HB5 := HB6
          obtain ⟨⟨-, f0, f1, f2, f3⟩, g0, g1, g2, g3⟩ := And.intro HF5.out HR5.out
          go_wp2
          exact bodyPost_ret (res_two rfl _ _ w.heap.size _ _ _ _ _ rfl rfl (put4_four HF5.out _ _ _ _)) rfl ⟨_, _, _, _, by rw [Hq2.out]; rfl, fun _ => ⟨Hfin.out.1, Hfin.out.2.1, rfl, Hfin.out.2.2⟩, put4_below HB5.out (Nat.le_refl _)⟩
        · obtain rfl := hbp rfl
          go_enter Tryd.func44, Tryd.ntmps44
          go_upto_region 1 with (fail)
          rw [HW0.out]
          clear HW0
          go_wp2_with fail
          with_reducible refine (HL.out _).mono ?_
          rintro e w3 ⟨rfl, rfl⟩
          go_wp2_with fail
          with_reducible refine (HD.out _).mono ?_
          rintro e w3 ⟨rfl, rfl⟩
          go_wp2_with fail
          with_reducible refine (HM2.out _).mono ?_
          rintro e w5 ⟨rfl, hb5⟩
          have HF5 := hide (HF0.out.keep hb5)
          have HR5 := hide (HR0.out.at_ hb5 HF0.out.1)
          have HB5 := hide (HB0.out.trans (hb5.mono HB0.out.size))
          clear hb5
          go_wp2_with fail
          with_reducible refine (HM1.out _).mono ?_
          rintro e w5 ⟨rfl, hb5⟩
          have HF6 := hide (HF5.out.keep hb5)
          have HR6 := hide (HR5.out.at_ hb5 HF5.out.1)
          have HB6 := hide (HB5.out.trans (hb5.mono HB5.out.size))
          clear hb5
          have HF5 := HF6
          have HR5 := HR6
          have HB5 := HB6
          obtain ⟨⟨-, f0, f1, f2, f3⟩, g0, g1, g2, g3⟩ := And.intro HF5.out HR5.out
          go_wp2
          exact bodyPost_ret (res_two rfl _ _ w.heap.size _ _ _ _ _ rfl rfl (put4_four HF5.out _ _ _ _)) rfl ⟨_, _, _, _, by rw [Hq2.out]; rfl, fun _ => ⟨Hfin.out.1, Hfin.out.2.1, rfl, Hfin.out.2.2⟩, put4_below HB5.out (Nat.le_refl _)⟩
      | false =>
        have Hq2 := hide (show q = 11 from hq2)
        clear hx2 hq2
        cases b36
        · go_enter Tryd.func44, Tryd.ntmps44
          go_upto_region 1 with (fail)
          rw [HW0.out]
          clear HW0
          go_wp2_with fail
          with_reducible refine (HL.out _).mono ?_
          rintro e w3 ⟨rfl, rfl⟩
          go_wp2_with fail
          with_reducible refine (HD.out _).mono ?_
          rintro e w3 ⟨rfl, rfl⟩
          go_wp2_with fail
          with_reducible refine (HM2.out _).mono ?_
          rintro e w5 ⟨rfl, hb5⟩
          have HF5 := hide (HF0.out.keep hb5)
          have HR5 := hide (HR0.out.at_ hb5 HF0.out.1)
          have HB5 := hide (HB0.out.trans (hb5.mono HB0.out.size))
          clear hb5
          go_wp2_with fail
          with_reducible refine (HM1.out _).mono ?_
          rintro e w5 ⟨rfl, hb5⟩
          have HF6 := hide (HF5.out.keep hb5)
          have HR6 := hide (HR5.out.at_ hb5 HF5.out.1)
          have HB6 := hide (HB5.out.trans (hb5.mono HB5.out.size))
          clear hb5
          have HF5 := HF6
          have HR5 := HR6
          have HB5 := HB6
          obtain ⟨⟨-, f0, f1, f2, f3⟩, g0, g1, g2, g3⟩ := And.intro HF5.out HR5.out
          go_wp2
          refine bodyPost_ret (res_two rfl _ _ w.heap.size _ _ _ _ _ rfl rfl (put4_four HF5.out _ _ _ _)) rfl ⟨_, _, _, _, by rw [Hq2.out]; rfl, fun h => ?_, put4_below HB5.out (Nat.le_refl _)⟩
          rw [Hq2.out] at h
          exact absurd h (by decide)
        · obtain rfl := hbp rfl
          go_enter Tryd.func44, Tryd.ntmps44
          go_upto_region 1 with (fail)
          rw [HW0.out]
          clear HW0
          go_wp2_with fail
          with_reducible refine (HL.out _).mono ?_
          rintro e w3 ⟨rfl, rfl⟩
          go_wp2_with fail
          with_reducible refine (HD.out _).mono ?_
          rintro e w3 ⟨rfl, rfl⟩
          go_wp2_with fail
          with_reducible refine (HM2.out _).mono ?_
          rintro e w5 ⟨rfl, hb5⟩
          have HF5 := hide (HF0.out.keep hb5)
          have HR5 := hide (HR0.out.at_ hb5 HF0.out.1)
          have HB5 := hide (HB0.out.trans (hb5.mono HB0.out.size))
          clear hb5
          go_wp2_with fail
          with_reducible refine (HM1.out _).mono ?_
          rintro e w5 ⟨rfl, hb5⟩
          have HF6 := hide (HF5.out.keep hb5)
          have HR6 := hide (HR5.out.at_ hb5 HF5.out.1)
          have HB6 := hide (HB5.out.trans (hb5.mono HB5.out.size))
          clear hb5
          have HF5 := HF6
          have HR5 := HR6
          have HB5 := HB6
          obtain ⟨⟨-, f0, f1, f2, f3⟩, g0, g1, g2, g3⟩ := And.intro HF5.out HR5.out
          go_wp2
          refine bodyPost_ret (res_two rfl _ _ w.heap.size _ _ _ _ _ rfl rfl (put4_four HF5.out _ _ _ _)) rfl ⟨_, _, _, _, by rw [Hq2.out]; rfl, fun h => ?_, put4_below HB5.out (Nat.le_refl _)⟩
          rw [Hq2.out] at h
          exact absurd h (by decide)
  · have hk2 : ¬ (k : Int) + 2 ≤ (s.size : Int) := by omega
    obtain ⟨hx2, hq2⟩ := M2.out (fun h => h2 h.1)
    cases b1 with
    | true =>
      have Hfin := hide (show (5 : Int) = x.1 ∧ s.extract k (k + 1) = bs x.2.1 ∧ (k : Int) + 1 = ((k + x.2.2 : Nat) : Int) by rw [hx2]; exact ⟨rfl, E1.out, by show (k : Int) + 1 = ((k + 1 : Nat) : Int); omega⟩)
      have Hq2 := hide (show q = 0 from hq2)
      clear hx2 hq2
      cases b36
      · go_enter Tryd.func44, Tryd.ntmps44
        go_upto_region 1 with (fail)
        rw [HW0.out]
        clear HW0
        go_wp2_with fail
        with_reducible refine (HL.out _).mono ?_
        rintro e w3 ⟨rfl, rfl⟩
        go_wp2_with fail
        with_reducible refine (HD.out _).mono ?_
        rintro e w3 ⟨rfl, rfl⟩
        go_wp2_with fail
        with_reducible refine (HM1.out _).mono ?_
        rintro e w5 ⟨rfl, hb5⟩
        have HF5 := hide (HF0.out.keep hb5)
        have HR5 := hide (HR0.out.at_ hb5 HF0.out.1)
        have HB5 := hide (HB0.out.trans (hb5.mono HB0.out.size))
        clear hb5
        obtain ⟨⟨-, f0, f1, f2, f3⟩, g0, g1, g2, g3⟩ := And.intro HF5.out HR5.out
        go_wp2
        exact bodyPost_ret (res_two rfl _ _ w.heap.size _ _ _ _ _ rfl rfl (put4_four HF5.out _ _ _ _)) rfl ⟨_, _, _, _, by rw [Hq2.out]; rfl, fun _ => ⟨Hfin.out.1, Hfin.out.2.1, rfl, Hfin.out.2.2⟩, put4_below HB5.out (Nat.le_refl _)⟩
      · obtain rfl := hbp rfl
        go_enter Tryd.func44, Tryd.ntmps44
        go_upto_region 1 with (fail)
        rw [HW0.out]
        clear HW0
        go_wp2_with fail
        with_reducible refine (HL.out _).mono ?_
        rintro e w3 ⟨rfl, rfl⟩
        go_wp2_with fail
        with_reducible refine (HD.out _).mono ?_
        rintro e w3 ⟨rfl, rfl⟩
        go_wp2_with fail
        with_reducible refine (HM1.out _).mono ?_
        rintro e w5 ⟨rfl, hb5⟩
        have HF5 := hide (HF0.out.keep hb5)
        have HR5 := hide (HR0.out.at_ hb5 HF0.out.1)
        have HB5 := hide (HB0.out.trans (hb5.mono HB0.out.size))
        clear hb5
        obtain ⟨⟨-, f0, f1, f2, f3⟩, g0, g1, g2, g3⟩ := And.intro HF5.out HR5.out
        go_wp2
        exact bodyPost_ret (res_two rfl _ _ w.heap.size _ _ _ _ _ rfl rfl (put4_four HF5.out _ _ _ _)) rfl ⟨_, _, _, _, by rw [Hq2.out]; rfl, fun _ => ⟨Hfin.out.1, Hfin.out.2.1, rfl, Hfin.out.2.2⟩, put4_below HB5.out (Nat.le_refl _)⟩
    | false =>
      have Hq2 := hide (show q = 11 from hq2)
      clear hx2 hq2
      cases b36
      · go_enter Tryd.func44, Tryd.ntmps44
        go_upto_region 1 with (fail)
        rw [HW0.out]
        clear HW0
        go_wp2_with fail
        with_reducible refine (HL.out _).mono ?_
        rintro e w3 ⟨rfl, rfl⟩
        go_wp2_with fail
        with_reducible refine (HD.out _).mono ?_
        rintro e w3 ⟨rfl, rfl⟩
        go_wp2_with fail
        with_reducible refine (HM1.out _).mono ?_
        rintro e w5 ⟨rfl, hb5⟩
        have HF5 := hide (HF0.out.keep hb5)
        have HR5 := hide (HR0.out.at_ hb5 HF0.out.1)
        have HB5 := hide (HB0.out.trans (hb5.mono HB0.out.size))
        clear hb5
        obtain ⟨⟨-, f0, f1, f2, f3⟩, g0, g1, g2, g3⟩ := And.intro HF5.out HR5.out
        go_wp2
        refine bodyPost_ret (res_two rfl _ _ w.heap.size _ _ _ _ _ rfl rfl (put4_four HF5.out _ _ _ _)) rfl ⟨_, _, _, _, by rw [Hq2.out]; rfl, fun h => ?_, put4_below HB5.out (Nat.le_refl _)⟩
        rw [Hq2.out] at h
        exact absurd h (by decide)
      · obtain rfl := hbp rfl
        go_enter Tryd.func44, Tryd.ntmps44
        go_upto_region 1 with (fail)
        rw [HW0.out]
        clear HW0
        go_wp2_with fail
        with_reducible refine (HL.out _).mono ?_
        rintro e w3 ⟨rfl, rfl⟩
        go_wp2_with fail
        with_reducible refine (HD.out _).mono ?_
        rintro e w3 ⟨rfl, rfl⟩
        go_wp2_with fail
        with_reducible refine (HM1.out _).mono ?_
        rintro e w5 ⟨rfl, hb5⟩
        have HF5 := hide (HF0.out.keep hb5)
        have HR5 := hide (HR0.out.at_ hb5 HF0.out.1)
        have HB5 := hide (HB0.out.trans (hb5.mono HB0.out.size))
        clear hb5
        obtain ⟨⟨-, f0, f1, f2, f3⟩, g0, g1, g2, g3⟩ := And.intro HF5.out HR5.out
        go_wp2
        refine bodyPost_ret (res_two rfl _ _ w.heap.size _ _ _ _ _ rfl rfl (put4_four HF5.out _ _ _ _)) rfl ⟨_, _, _, _, by rw [Hq2.out]; rfl, fun h => ?_, put4_below HB5.out (Nat.le_refl _)⟩
        rw [Hq2.out] at h
        exact absurd h (by decide)
end Go.Proofs.YteokeljmggdecaaDoor
