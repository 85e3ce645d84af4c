/- Walk of layer 11's reference: meta. -/
import Derived.Test.YteokeljmggdecaaDoorRe
import Derived.Deep.Cut
namespace Go.Proofs.YteokeljmggdecaaDoor
open Go.RowKit

/-- A metavariable, of what follows its first sign. -/
def metaS (r : List UInt8) : Int × List UInt8 × Nat := if r.headD 0 = 36 then (7, wordS (r.drop 1), 2 + (wordS (r.drop 1)).length) else (6, wordS r, 1 + (wordS r).length)
theorem meta_fault {K : Int} (hK : K = 6 ∨ K = 7) (t : List UInt8) : faultS K t = if nameS t = false then 11 else if 24 < t.length then 4 else 0 := by
  unfold faultS
  rcases hK with rfl | rfl
  · rw [form6]; rfl
  · rw [form7]; rfl
theorem word_name {c : UInt8} {x : List UInt8} (hall : (c :: x).all wdB = true) : nameS (c :: x) = (ltB c && !isKw (c :: x)) := by
  unfold nameS
  rw [hall]
  simp only [List.isEmpty_cons, Bool.not_false, List.headD_cons, Bool.true_and, Bool.and_true]
  have hw : wdB c = true := by
    rw [List.all_cons, Bool.and_eq_true] at hall
    exact hall.1
  cases hd : dgB c with
  | true => rw [dg_lt hd]; rfl
  | false => rw [wd_lt hw hd]; rfl
/-- What follows the signs: a text in a box behind a box of zeros. -/
theorem meta_boxes (w W0 : World) (hF0 : Four W0 w.heap.size (.int .i64 0) (.string ⟨#[]⟩) (.int .i64 0) (.int .i64 0)) (hR0 : FreeF W0 w.heap.size) (hB0 : Below w.heap.size w W0) (c0 c1 c2 c3 : Value) :
    Four (W0.alloc (.cells #[c0, c1, c2, c3] 33)) W0.heap.size c0 c1 c2 c3 ∧ Four (W0.alloc (.cells #[c0, c1, c2, c3] 33)) w.heap.size (.int .i64 0) (.string ⟨#[]⟩) (.int .i64 0) (.int .i64 0) ∧
    FreeF (W0.alloc (.cells #[c0, c1, c2, c3] 33)) w.heap.size ∧ Below w.heap.size w (W0.alloc (.cells #[c0, c1, c2, c3] 33)) := by
  have hbx := bnew (Below.refl W0.heap.size W0) (.cells #[c0, c1, c2, c3] 33)
  exact ⟨four_new W0 c0 c1 c2 c3 _, hF0.keep hbx, hR0.at_ hbx hF0.1, hB0.trans (hbx.mono hB0.size)⟩

set_option maxRecDepth 100000 in
set_option maxHeartbeats 12800000 in
theorem rmeta (s : ByteArray) (k : Nat) (hk : k < s.size) (hs : s.size ≤ 1000000) (w : World) :
    Calls Tryd.prog 67 #[.string s, .int .i64 (k : Int)] w (GotE w k (faultS (metaS (s.data.toList.drop (k + 1))).1 (metaS (s.data.toList.drop (k + 1))).2.1) (metaS (s.data.toList.drop (k + 1)))) := by
  obtain ⟨W0, hW0, hF0, hFr0, hb0, hsz0⟩ := start_box w
  have HW0 := hide hW0
  have HF0 := hide hF0
  have HR0 := hide hFr0
  have HB0 := hide hb0
  clear hW0 hF0 hFr0 hb0 hsz0
  obtain ⟨x, hx⟩ : ∃ x, metaS (s.data.toList.drop (k + 1)) = x := ⟨_, rfl⟩
  rw [hx]
  obtain ⟨K, m, hKm⟩ : ∃ (K : Int) (m : Nat), (K = 7 ∧ m = k + 2 ∧ (∃ h : k + 1 < s.size, s[k + 1] = 36)) ∨ (K = 6 ∧ m = k + 1 ∧ ¬ ∃ h : k + 1 < s.size, s[k + 1] = 36) := by
    by_cases h : ∃ h : k + 1 < s.size, s[k + 1] = 36
    · exact ⟨7, k + 2, Or.inl ⟨rfl, rfl, h⟩⟩
    · exact ⟨6, k + 1, Or.inr ⟨rfl, rfl, h⟩⟩
  have hxe : x = (K, wordS (s.data.toList.drop m), m - k + (wordS (s.data.toList.drop m)).length) := by
    rw [← hx]
    unfold metaS
    rcases hKm with ⟨rfl, rfl, h, he⟩ | ⟨rfl, rfl, h⟩
    · rw [drop_cons h, he, if_pos (show (36 :: s.data.toList.drop (k + 1 + 1)).headD 0 = (36 : UInt8) from rfl), List.drop_succ_cons, List.drop_zero, show k + 2 - k = 2 by omega]
    · rw [if_neg, show k + 1 - k = 1 by omega]
      intro e
      by_cases hlt : k + 1 < s.size
      · rw [drop_cons hlt] at e
        exact h ⟨hlt, e⟩
      · rw [drop_end hlt] at e
        exact absurd e (by decide)
  have hms : m ≤ s.size := by
    rcases hKm with ⟨-, rfl, h, -⟩ | ⟨-, rfl, -⟩ <;> omega
  have hkm : k < m := by rcases hKm with ⟨-, rfl, -⟩ | ⟨-, rfl, -⟩ <;> omega
  obtain ⟨t, ht⟩ : ∃ t, wordS (s.data.toList.drop m) = t := ⟨_, rfl⟩
  rw [ht] at hxe
  have htl : t.length ≤ s.size - m := by
    have := tw_len (p := wdB) (s.data.toList.drop m)
    rw [List.length_drop, size_list] at this
    rw [← ht]
    exact this
  have htall : t.all wdB = true := by rw [← ht]; exact tw_all _
  obtain ⟨E, hE⟩ : ∃ E, m + t.length = E := ⟨_, rfl⟩
  have hext : s.extract m E = bs t := by
    have := tw_take (p := wdB) (s.data.toList.drop m)
    rw [show (s.data.toList.drop m).takeWhile wdB = t from ht] at this
    rw [← hE, ext_bs, this]
  have HWd := hide (fun W => rword s m hms hs E (by rw [ht]; exact hE) W)
  have hmf := meta_fault (K := K) (by rcases hKm with ⟨h, -⟩ | ⟨h, -⟩ <;> omega) t
  have hEs : E ≤ s.size := by omega
  have hmE : m ≤ E := by omega
  have hxq : faultS x.1 x.2.1 = faultS K t := by rw [hxe]
  rw [hxq]
  obtain ⟨q, hq⟩ : ∃ q, faultS K t = q := ⟨_, rfl⟩
  rw [hq] at hmf ⊢
  obtain ⟨T, hT⟩ : ∃ T, s.extract m E = T := ⟨_, rfl⟩
  have hTb : T = bs t := by rw [← hT, hext]
  have hTs : T.size = t.length := by rw [hTb, bs_size]
  have hTl : T.data.toList = t := by rw [hTb, bs_list]
  have Hfin := hide (show q = 0 → K = x.1 ∧ T = bs x.2.1 ∧ (k : Int) = (k : Int) ∧ (E : Int) = ((k + x.2.2 : Nat) : Int) from fun _ => by
    rw [hxe]
    exact ⟨rfl, hTb, rfl, by show (E : Int) = ((k + (m - k + t.length) : Nat) : Int); omega⟩)
  obtain ⟨B1, B2, B3, B4⟩ := meta_boxes w W0 HF0.out HR0.out HB0.out (.int .i64 K) (.string T) (.int .i64 (k : Int)) (.int .i64 (E : Int))
  have HT1 := hide B1
  have HF1 := hide B2
  have HR1 := hide B3
  have HB1 := hide B4
  have Hmf := hide hmf
  have HT := hide hT
  have hki : (k : Int) < (s.size : Int) := by omega
  have hmi : (m : Int) ≤ (s.size : Int) := by omega
  have hmE' : (m : Int) ≤ (E : Int) := by omega
  have hEs' : (E : Int) ≤ (s.size : Int) := by omega
  clear hx hxe ht hE hext hmf hxq hq hT B1 B2 B3 B4
  have hTs2 : T.size ≤ 1000000 := by omega
  by_cases h0 : T.size = 0
  · have Hq := hide (show q = 11 by
      have : t = [] := List.eq_nil_of_length_eq_zero (by omega)
      rw [Hmf.out, this]
      rfl)
    obtain rfl := empty_of h0
    clear htl htall hTb hTs hTl h0
    rcases hKm with ⟨rfl, rfl, hlt, he⟩ | ⟨rfl, rfl, hno⟩
    · have hi1 : (k : Int) + 1 < (s.size : Int) := by omega
      have q36 : (((s[k + 1]).toNat : Int) == 36) = true := by rw [he]; rfl
      have HWd2 := hide (show ∀ W, Calls Tryd.prog 63 #[.string s, .int .i64 ((k : Int) + 1 + 1)] W fun e w' => e = .returned (.int .i64 (E : Int)) ∧ W = w' from HWd.out)
      have HT2 := HT.out
      clear he
      go_enter Tryd.func67, Tryd.ntmps67
      go_upto_region 1 with (fail)
      rw [HW0.out]
      clear HW0
      go_wp2_with fail
      with_reducible refine (HWd2.out _).mono ?_
      rintro e w3 ⟨rfl, rfl⟩
      have HF5 := HF1
      have HT5 := HT1
      have HR5 := HR1
      have HB5 := HB1
      obtain ⟨⟨-, f0, f1, f2, f3⟩, g0, g1, g2, g3⟩ := And.intro HF5.out HR5.out
      obtain ⟨-, t0, t1, t2, t3⟩ := HT5.out
      go_wp2
      exact bodyPost_ret (res_two rfl _ _ w.heap.size _ _ _ _ _ rfl rfl (put4_four HF5.out _ _ _ _)) rfl ⟨_, _, _, _, by rw [Hq.out]; rfl, fun h => ⟨(Hfin.out h).1, (Hfin.out h).2.1, rfl, (Hfin.out h).2.2.2⟩, put4_below HB5.out (Nat.le_refl _)⟩
    · have HWd2 := hide (show ∀ W, Calls Tryd.prog 63 #[.string s, .int .i64 ((k : Int) + 1)] W fun e w' => e = .returned (.int .i64 (E : Int)) ∧ W = w' from HWd.out)
      have HT2 := HT.out
      by_cases hlt : k + 1 < s.size
      · have hi1 : (k : Int) + 1 < (s.size : Int) := by omega
        have q36 : (((s[k + 1]).toNat : Int) == 36) = decide (s[k + 1] = 36) := u8_eq (n := 36) (by decide)
        rw [decide_eq_false (fun h => hno ⟨hlt, h⟩)] at q36
        clear hno
        go_enter Tryd.func67, Tryd.ntmps67
        go_upto_region 1 with (fail)
        rw [HW0.out]
        clear HW0
        go_wp2_with fail
        with_reducible refine (HWd2.out _).mono ?_
        rintro e w3 ⟨rfl, rfl⟩
        have HF5 := HF1
        have HT5 := HT1
        have HR5 := HR1
        have HB5 := HB1
        obtain ⟨⟨-, f0, f1, f2, f3⟩, g0, g1, g2, g3⟩ := And.intro HF5.out HR5.out
        obtain ⟨-, t0, t1, t2, t3⟩ := HT5.out
        go_wp2
        exact bodyPost_ret (res_two rfl _ _ w.heap.size _ _ _ _ _ rfl rfl (put4_four HF5.out _ _ _ _)) rfl ⟨_, _, _, _, by rw [Hq.out]; rfl, fun h => ⟨(Hfin.out h).1, (Hfin.out h).2.1, rfl, (Hfin.out h).2.2.2⟩, put4_below HB5.out (Nat.le_refl _)⟩
      · have hi1 : ¬ (k : Int) + 1 < (s.size : Int) := by omega
        clear hno
        go_enter Tryd.func67, Tryd.ntmps67
        go_upto_region 1 with (fail)
        rw [HW0.out]
        clear HW0
        go_wp2_with fail
        with_reducible refine (HWd2.out _).mono ?_
        rintro e w3 ⟨rfl, rfl⟩
        have HF5 := HF1
        have HT5 := HT1
        have HR5 := HR1
        have HB5 := HB1
        obtain ⟨⟨-, f0, f1, f2, f3⟩, g0, g1, g2, g3⟩ := And.intro HF5.out HR5.out
        obtain ⟨-, t0, t1, t2, t3⟩ := HT5.out
        go_wp2
        exact bodyPost_ret (res_two rfl _ _ w.heap.size _ _ _ _ _ rfl rfl (put4_four HF5.out _ _ _ _)) rfl ⟨_, _, _, _, by rw [Hq.out]; rfl, fun h => ⟨(Hfin.out h).1, (Hfin.out h).2.1, rfl, (Hfin.out h).2.2.2⟩, put4_below HB5.out (Nat.le_refl _)⟩
  · have hpos : 0 < T.size := by omega
    have hne := not_empty T hpos
    have hh := head_of hpos
    have hp1 : (0 : Int) < (T.size : Int) := by omega
    have hnm : nameS t = (ltB T[0] && !isKw t) := by
      rw [← hTl, hh]
      rw [← hTl, hh] at htall
      exact word_name htall
    have HL := hide (fun W => rletter T[0] W)
    have HK := hide (fun W => rkeyword T _ rfl W)
    rw [hTl] at HK
    obtain ⟨l, hl⟩ : ∃ l, ltB T[0] = l := ⟨_, rfl⟩
    obtain ⟨kw, hkw⟩ : ∃ kw, isKw t = kw := ⟨_, rfl⟩
    rw [hl] at HL hnm
    rw [hkw] at HK hnm
    have Htb := hide hTb
    clear htl htall hTl hh hl hkw h0 hTb
    cases l with
    | false =>
      have Hq := hide (show q = 11 by rw [Hmf.out, hnm]; rfl)
      clear hnm hTs
      rcases hKm with ⟨rfl, rfl, hlt, he⟩ | ⟨rfl, rfl, hno⟩
      · have hi1 : (k : Int) + 1 < (s.size : Int) := by omega
        have q36 : (((s[k + 1]).toNat : Int) == 36) = true := by rw [he]; rfl
        have HWd2 := hide (show ∀ W, Calls Tryd.prog 63 #[.string s, .int .i64 ((k : Int) + 1 + 1)] W fun e w' => e = .returned (.int .i64 (E : Int)) ∧ W = w' from HWd.out)
        have HT2 := HT.out
        clear he
        go_enter Tryd.func67, Tryd.ntmps67
        go_upto_region 1 with (fail)
        rw [HW0.out]
        clear HW0
        go_wp2_with fail
        with_reducible refine (HWd2.out _).mono ?_
        rintro e w3 ⟨rfl, rfl⟩
        go_wp2_with fail
        with_reducible refine (HL.out _).mono ?_
        rintro e w3 ⟨rfl, rfl⟩
        have HF5 := HF1
        have HT5 := HT1
        have HR5 := HR1
        have HB5 := HB1
        obtain ⟨⟨-, f0, f1, f2, f3⟩, g0, g1, g2, g3⟩ := And.intro HF5.out HR5.out
        obtain ⟨-, t0, t1, t2, t3⟩ := HT5.out
        go_wp2
        exact bodyPost_ret (res_two rfl _ _ w.heap.size _ _ _ _ _ rfl rfl (put4_four HF5.out _ _ _ _)) rfl ⟨_, _, _, _, by rw [Hq.out]; rfl, fun h => ⟨(Hfin.out h).1, (Hfin.out h).2.1, rfl, (Hfin.out h).2.2.2⟩, put4_below HB5.out (Nat.le_refl _)⟩
      · have HWd2 := hide (show ∀ W, Calls Tryd.prog 63 #[.string s, .int .i64 ((k : Int) + 1)] W fun e w' => e = .returned (.int .i64 (E : Int)) ∧ W = w' from HWd.out)
        have HT2 := HT.out
        by_cases hlt : k + 1 < s.size
        · have hi1 : (k : Int) + 1 < (s.size : Int) := by omega
          have q36 : (((s[k + 1]).toNat : Int) == 36) = decide (s[k + 1] = 36) := u8_eq (n := 36) (by decide)
          rw [decide_eq_false (fun h => hno ⟨hlt, h⟩)] at q36
          clear hno
          go_enter Tryd.func67, Tryd.ntmps67
          go_upto_region 1 with (fail)
          rw [HW0.out]
          clear HW0
          go_wp2_with fail
          with_reducible refine (HWd2.out _).mono ?_
          rintro e w3 ⟨rfl, rfl⟩
          go_wp2_with fail
          with_reducible refine (HL.out _).mono ?_
          rintro e w3 ⟨rfl, rfl⟩
          have HF5 := HF1
          have HT5 := HT1
          have HR5 := HR1
          have HB5 := HB1
          obtain ⟨⟨-, f0, f1, f2, f3⟩, g0, g1, g2, g3⟩ := And.intro HF5.out HR5.out
          obtain ⟨-, t0, t1, t2, t3⟩ := HT5.out
          go_wp2
          exact bodyPost_ret (res_two rfl _ _ w.heap.size _ _ _ _ _ rfl rfl (put4_four HF5.out _ _ _ _)) rfl ⟨_, _, _, _, by rw [Hq.out]; rfl, fun h => ⟨(Hfin.out h).1, (Hfin.out h).2.1, rfl, (Hfin.out h).2.2.2⟩, put4_below HB5.out (Nat.le_refl _)⟩
        · have hi1 : ¬ (k : Int) + 1 < (s.size : Int) := by omega
          clear hno
          go_enter Tryd.func67, Tryd.ntmps67
          go_upto_region 1 with (fail)
          rw [HW0.out]
          clear HW0
          go_wp2_with fail
          with_reducible refine (HWd2.out _).mono ?_
          rintro e w3 ⟨rfl, rfl⟩
          go_wp2_with fail
          with_reducible refine (HL.out _).mono ?_
          rintro e w3 ⟨rfl, rfl⟩
          have HF5 := HF1
          have HT5 := HT1
          have HR5 := HR1
          have HB5 := HB1
          obtain ⟨⟨-, f0, f1, f2, f3⟩, g0, g1, g2, g3⟩ := And.intro HF5.out HR5.out
          obtain ⟨-, t0, t1, t2, t3⟩ := HT5.out
          go_wp2
          exact bodyPost_ret (res_two rfl _ _ w.heap.size _ _ _ _ _ rfl rfl (put4_four HF5.out _ _ _ _)) rfl ⟨_, _, _, _, by rw [Hq.out]; rfl, fun h => ⟨(Hfin.out h).1, (Hfin.out h).2.1, rfl, (Hfin.out h).2.2.2⟩, put4_below HB5.out (Nat.le_refl _)⟩
    | true =>
      cases kw with
      | true =>
        have Hq := hide (show q = 11 by rw [Hmf.out, hnm]; rfl)
        clear hnm hTs
        rcases hKm with ⟨rfl, rfl, hlt, he⟩ | ⟨rfl, rfl, hno⟩
        · have hi1 : (k : Int) + 1 < (s.size : Int) := by omega
          have q36 : (((s[k + 1]).toNat : Int) == 36) = true := by rw [he]; rfl
          have HWd2 := hide (show ∀ W, Calls Tryd.prog 63 #[.string s, .int .i64 ((k : Int) + 1 + 1)] W fun e w' => e = .returned (.int .i64 (E : Int)) ∧ W = w' from HWd.out)
          have HT2 := HT.out
          clear he
          go_enter Tryd.func67, Tryd.ntmps67
          go_upto_region 1 with (fail)
          rw [HW0.out]
          clear HW0
          go_wp2_with fail
          with_reducible refine (HWd2.out _).mono ?_
          rintro e w3 ⟨rfl, rfl⟩
          go_wp2_with fail
          with_reducible refine (HL.out _).mono ?_
          rintro e w3 ⟨rfl, rfl⟩
          go_wp2_with fail
          with_reducible refine (HK.out _).mono ?_
          rintro e w5 ⟨rfl, hb5⟩
          have HF5 := hide (HF1.out.keep hb5)
          have HT5 := hide (HT1.out.keep hb5)
          have HR5 := hide (HR1.out.at_ hb5 HF1.out.1)
          have HB5 := hide (HB1.out.trans (hb5.mono HB1.out.size))
          clear hb5
          obtain ⟨⟨-, f0, f1, f2, f3⟩, g0, g1, g2, g3⟩ := And.intro HF5.out HR5.out
          obtain ⟨-, t0, t1, t2, t3⟩ := HT5.out
          go_wp2
          exact bodyPost_ret (res_two rfl _ _ w.heap.size _ _ _ _ _ rfl rfl (put4_four HF5.out _ _ _ _)) rfl ⟨_, _, _, _, by rw [Hq.out]; rfl, fun h => ⟨(Hfin.out h).1, (Hfin.out h).2.1, rfl, (Hfin.out h).2.2.2⟩, put4_below HB5.out (Nat.le_refl _)⟩
        · have HWd2 := hide (show ∀ W, Calls Tryd.prog 63 #[.string s, .int .i64 ((k : Int) + 1)] W fun e w' => e = .returned (.int .i64 (E : Int)) ∧ W = w' from HWd.out)
          have HT2 := HT.out
          by_cases hlt : k + 1 < s.size
          · have hi1 : (k : Int) + 1 < (s.size : Int) := by omega
            have q36 : (((s[k + 1]).toNat : Int) == 36) = decide (s[k + 1] = 36) := u8_eq (n := 36) (by decide)
            rw [decide_eq_false (fun h => hno ⟨hlt, h⟩)] at q36
            clear hno
            go_enter Tryd.func67, Tryd.ntmps67
            go_upto_region 1 with (fail)
            rw [HW0.out]
            clear HW0
            go_wp2_with fail
            with_reducible refine (HWd2.out _).mono ?_
            rintro e w3 ⟨rfl, rfl⟩
            go_wp2_with fail
            with_reducible refine (HL.out _).mono ?_
            rintro e w3 ⟨rfl, rfl⟩
            go_wp2_with fail
            with_reducible refine (HK.out _).mono ?_
            rintro e w5 ⟨rfl, hb5⟩
            have HF5 := hide (HF1.out.keep hb5)
            have HT5 := hide (HT1.out.keep hb5)
            have HR5 := hide (HR1.out.at_ hb5 HF1.out.1)
            have HB5 := hide (HB1.out.trans (hb5.mono HB1.out.size))
            clear hb5
            obtain ⟨⟨-, f0, f1, f2, f3⟩, g0, g1, g2, g3⟩ := And.intro HF5.out HR5.out
            obtain ⟨-, t0, t1, t2, t3⟩ := HT5.out
            go_wp2
            exact bodyPost_ret (res_two rfl _ _ w.heap.size _ _ _ _ _ rfl rfl (put4_four HF5.out _ _ _ _)) rfl ⟨_, _, _, _, by rw [Hq.out]; rfl, fun h => ⟨(Hfin.out h).1, (Hfin.out h).2.1, rfl, (Hfin.out h).2.2.2⟩, put4_below HB5.out (Nat.le_refl _)⟩
          · have hi1 : ¬ (k : Int) + 1 < (s.size : Int) := by omega
            clear hno
            go_enter Tryd.func67, Tryd.ntmps67
            go_upto_region 1 with (fail)
            rw [HW0.out]
            clear HW0
            go_wp2_with fail
            with_reducible refine (HWd2.out _).mono ?_
            rintro e w3 ⟨rfl, rfl⟩
            go_wp2_with fail
            with_reducible refine (HL.out _).mono ?_
            rintro e w3 ⟨rfl, rfl⟩
            go_wp2_with fail
            with_reducible refine (HK.out _).mono ?_
            rintro e w5 ⟨rfl, hb5⟩
            have HF5 := hide (HF1.out.keep hb5)
            have HT5 := hide (HT1.out.keep hb5)
            have HR5 := hide (HR1.out.at_ hb5 HF1.out.1)
            have HB5 := hide (HB1.out.trans (hb5.mono HB1.out.size))
            clear hb5
            obtain ⟨⟨-, f0, f1, f2, f3⟩, g0, g1, g2, g3⟩ := And.intro HF5.out HR5.out
            obtain ⟨-, t0, t1, t2, t3⟩ := HT5.out
            go_wp2
            exact bodyPost_ret (res_two rfl _ _ w.heap.size _ _ _ _ _ rfl rfl (put4_four HF5.out _ _ _ _)) rfl ⟨_, _, _, _, by rw [Hq.out]; rfl, fun h => ⟨(Hfin.out h).1, (Hfin.out h).2.1, rfl, (Hfin.out h).2.2.2⟩, put4_below HB5.out (Nat.le_refl _)⟩
      | false =>
        by_cases h24 : 24 < t.length
        · have Hq := hide (show q = 4 by rw [Hmf.out, hnm, if_neg (by decide), if_pos h24])
          have hg : (24 : Int) < (T.size : Int) := by omega
          have hg2 : (T.size : Int) > 24 := hg
          clear hnm hTs h24
          rcases hKm with ⟨rfl, rfl, hlt, he⟩ | ⟨rfl, rfl, hno⟩
          · have hi1 : (k : Int) + 1 < (s.size : Int) := by omega
            have q36 : (((s[k + 1]).toNat : Int) == 36) = true := by rw [he]; rfl
            have HWd2 := hide (show ∀ W, Calls Tryd.prog 63 #[.string s, .int .i64 ((k : Int) + 1 + 1)] W fun e w' => e = .returned (.int .i64 (E : Int)) ∧ W = w' from HWd.out)
            have HT2 := HT.out
            clear he
            go_enter Tryd.func67, Tryd.ntmps67
            go_upto_region 1 with (fail)
            rw [HW0.out]
            clear HW0
            go_wp2_with fail
            with_reducible refine (HWd2.out _).mono ?_
            rintro e w3 ⟨rfl, rfl⟩
            go_wp2_with fail
            with_reducible refine (HL.out _).mono ?_
            rintro e w3 ⟨rfl, rfl⟩
            go_wp2_with fail
            with_reducible refine (HK.out _).mono ?_
            rintro e w5 ⟨rfl, hb5⟩
            have HF5 := hide (HF1.out.keep hb5)
            have HT5 := hide (HT1.out.keep hb5)
            have HR5 := hide (HR1.out.at_ hb5 HF1.out.1)
            have HB5 := hide (HB1.out.trans (hb5.mono HB1.out.size))
            clear hb5
            obtain ⟨⟨-, f0, f1, f2, f3⟩, g0, g1, g2, g3⟩ := And.intro HF5.out HR5.out
            obtain ⟨-, t0, t1, t2, t3⟩ := HT5.out
            go_wp2
            exact bodyPost_ret (res_two rfl _ _ w.heap.size _ _ _ _ _ rfl rfl (put4_four HF5.out _ _ _ _)) rfl ⟨_, _, _, _, by rw [Hq.out]; rfl, fun h => ⟨(Hfin.out h).1, (Hfin.out h).2.1, rfl, (Hfin.out h).2.2.2⟩, put4_below HB5.out (Nat.le_refl _)⟩
          · have HWd2 := hide (show ∀ W, Calls Tryd.prog 63 #[.string s, .int .i64 ((k : Int) + 1)] W fun e w' => e = .returned (.int .i64 (E : Int)) ∧ W = w' from HWd.out)
            have HT2 := HT.out
            by_cases hlt : k + 1 < s.size
            · have hi1 : (k : Int) + 1 < (s.size : Int) := by omega
              have q36 : (((s[k + 1]).toNat : Int) == 36) = decide (s[k + 1] = 36) := u8_eq (n := 36) (by decide)
              rw [decide_eq_false (fun h => hno ⟨hlt, h⟩)] at q36
              clear hno
              go_enter Tryd.func67, Tryd.ntmps67
              go_upto_region 1 with (fail)
              rw [HW0.out]
              clear HW0
              go_wp2_with fail
              with_reducible refine (HWd2.out _).mono ?_
              rintro e w3 ⟨rfl, rfl⟩
              go_wp2_with fail
              with_reducible refine (HL.out _).mono ?_
              rintro e w3 ⟨rfl, rfl⟩
              go_wp2_with fail
              with_reducible refine (HK.out _).mono ?_
              rintro e w5 ⟨rfl, hb5⟩
              have HF5 := hide (HF1.out.keep hb5)
              have HT5 := hide (HT1.out.keep hb5)
              have HR5 := hide (HR1.out.at_ hb5 HF1.out.1)
              have HB5 := hide (HB1.out.trans (hb5.mono HB1.out.size))
              clear hb5
              obtain ⟨⟨-, f0, f1, f2, f3⟩, g0, g1, g2, g3⟩ := And.intro HF5.out HR5.out
              obtain ⟨-, t0, t1, t2, t3⟩ := HT5.out
              go_wp2
              exact bodyPost_ret (res_two rfl _ _ w.heap.size _ _ _ _ _ rfl rfl (put4_four HF5.out _ _ _ _)) rfl ⟨_, _, _, _, by rw [Hq.out]; rfl, fun h => ⟨(Hfin.out h).1, (Hfin.out h).2.1, rfl, (Hfin.out h).2.2.2⟩, put4_below HB5.out (Nat.le_refl _)⟩
            · have hi1 : ¬ (k : Int) + 1 < (s.size : Int) := by omega
              clear hno
              go_enter Tryd.func67, Tryd.ntmps67
              go_upto_region 1 with (fail)
              rw [HW0.out]
              clear HW0
              go_wp2_with fail
              with_reducible refine (HWd2.out _).mono ?_
              rintro e w3 ⟨rfl, rfl⟩
              go_wp2_with fail
              with_reducible refine (HL.out _).mono ?_
              rintro e w3 ⟨rfl, rfl⟩
              go_wp2_with fail
              with_reducible refine (HK.out _).mono ?_
              rintro e w5 ⟨rfl, hb5⟩
              have HF5 := hide (HF1.out.keep hb5)
              have HT5 := hide (HT1.out.keep hb5)
              have HR5 := hide (HR1.out.at_ hb5 HF1.out.1)
              have HB5 := hide (HB1.out.trans (hb5.mono HB1.out.size))
              clear hb5
              obtain ⟨⟨-, f0, f1, f2, f3⟩, g0, g1, g2, g3⟩ := And.intro HF5.out HR5.out
              obtain ⟨-, t0, t1, t2, t3⟩ := HT5.out
              go_wp2
              exact bodyPost_ret (res_two rfl _ _ w.heap.size _ _ _ _ _ rfl rfl (put4_four HF5.out _ _ _ _)) rfl ⟨_, _, _, _, by rw [Hq.out]; rfl, fun h => ⟨(Hfin.out h).1, (Hfin.out h).2.1, rfl, (Hfin.out h).2.2.2⟩, put4_below HB5.out (Nat.le_refl _)⟩
        · have Hq := hide (show q = 0 by rw [Hmf.out, hnm, if_neg (by decide), if_neg h24])
          have hg : ¬ (24 : Int) < (T.size : Int) := by omega
          have hg2 : ¬ (T.size : Int) > 24 := hg
          clear hnm hTs h24
          rcases hKm with ⟨rfl, rfl, hlt, he⟩ | ⟨rfl, rfl, hno⟩
          · have hi1 : (k : Int) + 1 < (s.size : Int) := by omega
            have q36 : (((s[k + 1]).toNat : Int) == 36) = true := by rw [he]; rfl
            have HWd2 := hide (show ∀ W, Calls Tryd.prog 63 #[.string s, .int .i64 ((k : Int) + 1 + 1)] W fun e w' => e = .returned (.int .i64 (E : Int)) ∧ W = w' from HWd.out)
            have HT2 := HT.out
            clear he
            go_enter Tryd.func67, Tryd.ntmps67
            go_upto_region 1 with (fail)
            rw [HW0.out]
            clear HW0
            go_wp2_with fail
            with_reducible refine (HWd2.out _).mono ?_
            rintro e w3 ⟨rfl, rfl⟩
            go_wp2_with fail
            with_reducible refine (HL.out _).mono ?_
            rintro e w3 ⟨rfl, rfl⟩
            go_wp2_with fail
            with_reducible refine (HK.out _).mono ?_
            rintro e w5 ⟨rfl, hb5⟩
            have HF5 := hide (HF1.out.keep hb5)
            have HT5 := hide (HT1.out.keep hb5)
            have HR5 := hide (HR1.out.at_ hb5 HF1.out.1)
            have HB5 := hide (HB1.out.trans (hb5.mono HB1.out.size))
            clear hb5
            obtain ⟨⟨-, f0, f1, f2, f3⟩, g0, g1, g2, g3⟩ := And.intro HF5.out HR5.out
            obtain ⟨-, t0, t1, t2, t3⟩ := HT5.out
            go_wp2
            exact bodyPost_ret (res_two rfl _ _ w.heap.size _ _ _ _ _ rfl rfl (put4_four HF5.out _ _ _ _)) rfl ⟨_, _, _, _, by rw [Hq.out]; rfl, fun h => ⟨(Hfin.out h).1, (Hfin.out h).2.1, rfl, (Hfin.out h).2.2.2⟩, put4_below HB5.out (Nat.le_refl _)⟩
          · have HWd2 := hide (show ∀ W, Calls Tryd.prog 63 #[.string s, .int .i64 ((k : Int) + 1)] W fun e w' => e = .returned (.int .i64 (E : Int)) ∧ W = w' from HWd.out)
            have HT2 := HT.out
            by_cases hlt : k + 1 < s.size
            · have hi1 : (k : Int) + 1 < (s.size : Int) := by omega
              have q36 : (((s[k + 1]).toNat : Int) == 36) = decide (s[k + 1] = 36) := u8_eq (n := 36) (by decide)
              rw [decide_eq_false (fun h => hno ⟨hlt, h⟩)] at q36
              clear hno
              go_enter Tryd.func67, Tryd.ntmps67
              go_upto_region 1 with (fail)
              rw [HW0.out]
              clear HW0
              go_wp2_with fail
              with_reducible refine (HWd2.out _).mono ?_
              rintro e w3 ⟨rfl, rfl⟩
              go_wp2_with fail
              with_reducible refine (HL.out _).mono ?_
              rintro e w3 ⟨rfl, rfl⟩
              go_wp2_with fail
              with_reducible refine (HK.out _).mono ?_
              rintro e w5 ⟨rfl, hb5⟩
              have HF5 := hide (HF1.out.keep hb5)
              have HT5 := hide (HT1.out.keep hb5)
              have HR5 := hide (HR1.out.at_ hb5 HF1.out.1)
              have HB5 := hide (HB1.out.trans (hb5.mono HB1.out.size))
              clear hb5
              obtain ⟨⟨-, f0, f1, f2, f3⟩, g0, g1, g2, g3⟩ := And.intro HF5.out HR5.out
              obtain ⟨-, t0, t1, t2, t3⟩ := HT5.out
              go_wp2
              exact bodyPost_ret (res_two rfl _ _ w.heap.size _ _ _ _ _ rfl rfl (put4_four HF5.out _ _ _ _)) rfl ⟨_, _, _, _, by rw [Hq.out]; rfl, fun h => ⟨(Hfin.out h).1, (Hfin.out h).2.1, rfl, (Hfin.out h).2.2.2⟩, put4_below HB5.out (Nat.le_refl _)⟩
            · have hi1 : ¬ (k : Int) + 1 < (s.size : Int) := by omega
              clear hno
              go_enter Tryd.func67, Tryd.ntmps67
              go_upto_region 1 with (fail)
              rw [HW0.out]
              clear HW0
              go_wp2_with fail
              with_reducible refine (HWd2.out _).mono ?_
              rintro e w3 ⟨rfl, rfl⟩
              go_wp2_with fail
              with_reducible refine (HL.out _).mono ?_
              rintro e w3 ⟨rfl, rfl⟩
              go_wp2_with fail
              with_reducible refine (HK.out _).mono ?_
              rintro e w5 ⟨rfl, hb5⟩
              have HF5 := hide (HF1.out.keep hb5)
              have HT5 := hide (HT1.out.keep hb5)
              have HR5 := hide (HR1.out.at_ hb5 HF1.out.1)
              have HB5 := hide (HB1.out.trans (hb5.mono HB1.out.size))
              clear hb5
              obtain ⟨⟨-, f0, f1, f2, f3⟩, g0, g1, g2, g3⟩ := And.intro HF5.out HR5.out
              obtain ⟨-, t0, t1, t2, t3⟩ := HT5.out
              go_wp2
              exact bodyPost_ret (res_two rfl _ _ w.heap.size _ _ _ _ _ rfl rfl (put4_four HF5.out _ _ _ _)) rfl ⟨_, _, _, _, by rw [Hq.out]; rfl, fun h => ⟨(Hfin.out h).1, (Hfin.out h).2.1, rfl, (Hfin.out h).2.2.2⟩, put4_below HB5.out (Nat.le_refl _)⟩
end Go.Proofs.YteokeljmggdecaaDoor
