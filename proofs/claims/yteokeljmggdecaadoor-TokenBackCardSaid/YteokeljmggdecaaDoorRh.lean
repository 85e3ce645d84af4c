/- Walk of layer 11's reference: token, a word. -/
import Derived.Test.YteokeljmggdecaaDoorRha
namespace Go.Proofs.YteokeljmggdecaaDoor
open Go.RowKit

set_option maxRecDepth 100000 in
set_option maxHeartbeats 12800000 in
theorem rtoken_word (s : ByteArray) (k : Nat) (pat : Bool) (hk : k < s.size) (hs : s.size ≤ 1000000) (hl : ltB s[k] = true) (w : World) :
    Calls Tryd.prog 44 #[.string s, .int .i64 (k : Int), .bool pat] w (GotE w k (errS pat (s.data.toList.drop k)) (preS pat (s.data.toList.drop k))) := by
  obtain ⟨W0, hW0, hF0, hFr0, hb0, hsz0⟩ := start_box w
  have HW0 := hide hW0
  have HF0 := hide hF0
  have HR0 := hide hFr0
  have HB0 := hide hb0
  have hF0lt := hF0.1
  clear hW0 hF0 hFr0 hb0 hsz0
  have hdc := drop_cons hk
  have hki : (k : Int) < (s.size : Int) := by omega
  obtain ⟨c, hc⟩ : ∃ c, s[k] = c := ⟨_, rfl⟩
  rw [hc] at hl
  obtain ⟨r, hr⟩ : ∃ r, s.data.toList.drop k = r := ⟨_, rfl⟩
  obtain ⟨r1, hr1⟩ : ∃ r1, s.data.toList.drop (k + 1) = r1 := ⟨_, rfl⟩
  rw [hr, hc, hr1] at hdc
  rw [hr]
  have HL := hide (fun W => rletter c W)
  have HD := hide (fun W => rdigit c W)
  obtain ⟨x, hx⟩ : ∃ x, preS pat r = x := ⟨_, rfl⟩
  obtain ⟨q, hq⟩ : ∃ q, errS pat r = q := ⟨_, rfl⟩
  rw [hx, hq]
  have Hr := hide hr
  have Hr1 := hide hr1
  have Hdc := hide hdc
  have q34 : ((c.toNat : Int) == 34) = decide (c = 34) := u8_eq (n := 34) (by decide)
  have q36 : ((c.toNat : Int) == 36) = decide (c = 36) := u8_eq (n := 36) (by decide)
  rw [hdc, word_fault hl, ← hdc] at hq
  have hxw : preS pat r = (if isKw (wordS r) then 2 else 1, wordS r, (wordS r).length) := by rw [hdc]; exact pre_word (r := c :: r1) hl
  obtain ⟨t, ht⟩ : ∃ t, wordS r = t := ⟨_, rfl⟩
  rw [ht] at hxw hq
  obtain ⟨E, hE⟩ : ∃ E, k + t.length = E := ⟨_, rfl⟩
  have HWd := hide (fun W => rword s k (by omega) hs E (by rw [hr, ht]; exact hE) W)
  have htl : t.length ≤ s.size - k := by
    have := tw_len (p := wdB) r
    rw [← hr, List.length_drop, size_list, hr] at this
    rw [← ht]
    exact this
  have hEs : (E : Int) ≤ (s.size : Int) := by omega
  have hEn : E ≤ s.size := by omega
  have hkE : (k : Int) ≤ (E : Int) := by omega
  have hkEn : k ≤ E := by omega
  obtain ⟨T, hT⟩ : ∃ T, s.extract k E = T := ⟨_, rfl⟩
  have hTb : T = bs t := by
    have := tw_take (p := wdB) r
    rw [show r.takeWhile wdB = t from ht] at this
    rw [← hT, ← hE, ext_bs, hr, this]
  have hTs : T.size = t.length := by rw [hTb, bs_size]
  have hTs2 : T.size ≤ 1000000 := by omega
  have HK := hide (fun W => rkeyword T _ rfl W)
  rw [show T.data.toList = t by rw [hTb, bs_list]] at HK
  obtain ⟨kw, hkw⟩ : ∃ kw, isKw t = kw := ⟨_, rfl⟩
  rw [hkw] at HK hxw
  have hEx : (E : Int) = ((k + t.length : Nat) : Int) := by omega
  have Hfin := hide (show (if kw = true then (2 : Int) else 1) = x.1 ∧ T = bs x.2.1 ∧ (E : Int) = ((k + x.2.2 : Nat) : Int) by
    rw [← hx, hxw]
    exact ⟨rfl, hTb, hEx⟩)
  have Hqe := hide (show q = if 24 < T.size then 4 else 0 by rw [hTs]; exact hq.symm)
  rw [hl] at HL
  obtain ⟨B1, B2, B3, B4⟩ := meta_boxes w W0 HF0.out HR0.out HB0.out (.int .i64 1) (.string T) (.int .i64 (k : Int)) (.int .i64 (E : Int))
  have BT := hide (B1.keep (Below.drew' _ _))
  have BF := hide (B2.keep (Below.drew' _ _))
  have BR := hide (B3.at_ (Below.drew' _ _) B2.1)
  have BB := hide (B4.trans (Below.drew' _ _))
  have hfr := freeF_new W0 (.int .i64 1) (.string T) (.int .i64 (k : Int)) (.int .i64 (E : Int)) 33
  have BG := hide (hfr.at_ (Below.drew' _ _) B1.1)
  clear hx hq hxw ht hE htl hTb hTs hkw hEx B1 B2 B3 B4 hfr hdc hr hr1 q34 q36
  go_enter Tryd.func44, Tryd.ntmps44
  go_upto_region 1 with (fail)
  rw [HW0.out]
  clear HW0
  go_wp2_with fail
  with_reducible refine (HL.out _).mono ?_
  rintro e w3 ⟨rfl, rfl⟩
  go_wp2_with fail
  go_region_with (go_at_call 63; refine (HWd.out _).mono ?_; rintro e w3 ⟨rfl, rfl⟩)
  all_goals
    generalize (W0.alloc (.cells #[.int .i64 1, .string T, .int .i64 (k : Int), .int .i64 (E : Int)] 33)).drew = W1 at BT BF BR BB BG ⊢
    obtain ⟨-, t0, t1, t2, t3⟩ := BT.out
    go_wp2_with fail
    with_reducible refine (HK.out _).mono ?_
    rintro e w5 ⟨rfl, hb5⟩
    have HF5 := hide (BF.out.keep hb5)
    have HT5 := BT.out.keep hb5
    have HR5 := hide (BR.out.at_ hb5 BF.out.1)
    have HG5 := BG.out.at_ hb5 BT.out.1
    have HB5 := hide (bgo BB.out hb5)
    obtain ⟨⟨-, f0, f1, f2, f3⟩, g0, g1, g2, g3⟩ := And.intro HF5.out HR5.out
    obtain ⟨⟨-, y0, y1, y2, y3⟩, z0, z1, z2, z3⟩ := And.intro HT5 HG5
    have hneb : w.heap.size ≠ W0.heap.size := by omega
    clear hb5 t0 t1 t2 t3 HT5 HG5
    cases kw with
    | true =>
      have hF6 := hide (HF5.out.set_other hneb 0 (.int .i64 2))
      by_cases h24 : 24 < T.size
      · have Hq2 := hide (show q = 4 by rw [Hqe.out, if_pos h24])
        have hg : (24 : Int) < (T.size : Int) := by omega
        have hg2 : (T.size : Int) > 24 := hg
        clear h24
        go_wp2
        refine bodyPost_ret (res_two rfl _ _ w.heap.size _ _ _ _ _ rfl rfl (put4_four hF6.out _ _ _ _)) rfl ⟨_, _, _, _, by rw [Hq2.out]; rfl, fun h => ?_, put4_below (HB5.out.setCell (by show w.heap.size ≤ W0.heap.size; omega) _) (Nat.le_refl _)⟩
        rw [Hq2.out] at h
        exact absurd h (by decide)
      · have Hq2 := hide (show q = 0 by rw [Hqe.out, if_neg h24])
        have hg : ¬ (24 : Int) < (T.size : Int) := by omega
        have hg2 : ¬ (T.size : Int) > 24 := hg
        clear h24
        go_wp2
        exact bodyPost_ret (res_two rfl _ _ w.heap.size _ _ _ _ _ rfl rfl (put4_four hF6.out _ _ _ _)) rfl ⟨_, _, _, _, by rw [Hq2.out]; rfl, fun _ => ⟨Hfin.out.1, Hfin.out.2.1, rfl, Hfin.out.2.2⟩, put4_below (HB5.out.setCell (by show w.heap.size ≤ W0.heap.size; omega) _) (Nat.le_refl _)⟩
    | false =>
      by_cases h24 : 24 < T.size
      · have Hq2 := hide (show q = 4 by rw [Hqe.out, if_pos h24])
        have hg : (24 : Int) < (T.size : Int) := by omega
        have hg2 : (T.size : Int) > 24 := hg
        clear h24
        go_wp2
        refine bodyPost_ret (res_two rfl _ _ w.heap.size _ _ _ _ _ rfl rfl (put4_four HF5.out _ _ _ _)) rfl ⟨_, _, _, _, by rw [Hq2.out]; rfl, fun h => ?_, put4_below HB5.out (Nat.le_refl _)⟩
        rw [Hq2.out] at h
        exact absurd h (by decide)
      · have Hq2 := hide (show q = 0 by rw [Hqe.out, if_neg h24])
        have hg : ¬ (24 : Int) < (T.size : Int) := by omega
        have hg2 : ¬ (T.size : Int) > 24 := hg
        clear h24
        go_wp2
        exact bodyPost_ret (res_two rfl _ _ w.heap.size _ _ _ _ _ rfl rfl (put4_four HF5.out _ _ _ _)) rfl ⟨_, _, _, _, by rw [Hq2.out]; rfl, fun _ => ⟨Hfin.out.1, Hfin.out.2.1, rfl, Hfin.out.2.2⟩, put4_below HB5.out (Nat.le_refl _)⟩
end Go.Proofs.YteokeljmggdecaaDoor
