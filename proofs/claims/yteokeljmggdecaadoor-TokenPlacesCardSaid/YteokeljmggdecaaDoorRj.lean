/- Walk of layer 11's reference: token, a metavariable. -/
import Derived.Test.YteokeljmggdecaaDoorRha
namespace Go.Proofs.YteokeljmggdecaaDoor
open Go.RowKit

set_option maxRecDepth 100000 in
set_option maxHeartbeats 12800000 in
theorem rtoken_meta (s : ByteArray) (k : Nat) (pat : Bool) (hk : k < s.size) (hs : s.size ≤ 1000000) (hl : ltB s[k] = false) (hd : dgB s[k] = false) (h34 : ¬ s[k] = 34) (h36 : pat = true ∧ s[k] = 36) (w : World) :
    Calls Tryd.prog 44 #[.string s, .int .i64 (k : Int), .bool pat] w (GotE w k (errS pat (s.data.toList.drop k)) (preS pat (s.data.toList.drop k))) := by
  obtain ⟨W0, hW0, hF0, hFr0, hb0, hsz0⟩ := start_box w
  have HW0 := hide hW0
  have HF0 := hide hF0
  have HR0 := hide hFr0
  have HB0 := hide hb0
  have hF0lt := hF0.1
  clear hW0 hF0 hFr0 hb0 hsz0
  have hdc := drop_cons hk
  have hki : (k : Int) < (s.size : Int) := by omega
  obtain ⟨c, hc⟩ : ∃ c, s[k] = c := ⟨_, rfl⟩
  rw [hc] at hl hd h34 h36
  obtain ⟨r, hr⟩ : ∃ r, s.data.toList.drop k = r := ⟨_, rfl⟩
  obtain ⟨r1, hr1⟩ : ∃ r1, s.data.toList.drop (k + 1) = r1 := ⟨_, rfl⟩
  rw [hr, hc, hr1] at hdc
  rw [hr]
  have HL := hide (fun W => rletter c W)
  have HD := hide (fun W => rdigit c W)
  obtain ⟨x, hx⟩ : ∃ x, preS pat r = x := ⟨_, rfl⟩
  obtain ⟨q, hq⟩ : ∃ q, errS pat r = q := ⟨_, rfl⟩
  rw [hx, hq]
  have Hr := hide hr
  have Hr1 := hide hr1
  have Hdc := hide hdc
  have q34 : ((c.toNat : Int) == 34) = decide (c = 34) := u8_eq (n := 34) (by decide)
  have q36 : ((c.toNat : Int) == 36) = decide (c = 36) := u8_eq (n := 36) (by decide)
  have hl0 : ltB c = false := hl
  rw [hl0] at HL
  have hd0 : dgB c = false := hd
  rw [hd0] at HD
  rw [decide_eq_false h34] at q34
  obtain ⟨rfl, h36⟩ := h36
  have hxw : preS true r = metaS r1 := by rw [hdc, h36]; exact pre_metaS r1
  have HC := hide (fun W => rmeta s k hk hs W)
  have hqe : faultS (metaS r1).1 (metaS r1).2.1 = q := by rw [← hq]; unfold errS; rw [hxw]
  rw [hr1, hqe, ← hxw, hx] at HC
  rw [decide_eq_true h36] at q36
  clear hx hq hxw hqe hdc hr hr1 hl hl0 hd hd0 h34 h36
  go_enter Tryd.func44, Tryd.ntmps44
  go_upto_region 1 with (fail)
  rw [HW0.out]
  clear HW0
  go_wp2_with fail
  with_reducible refine (HL.out _).mono ?_
  rintro e w3 ⟨rfl, rfl⟩
  go_wp2_with fail
  with_reducible refine (HD.out _).mono ?_
  rintro e w3 ⟨rfl, rfl⟩
  go_wp2_with fail
  with_reducible refine (HC.out _).mono ?_
  rintro e w4 ⟨K, T, a, E, rfl, hfin, hb4⟩
  have Hfin := hide hfin
  have HF4 := hide (HF0.out.keep hb4)
  have HR4 := hide (HR0.out.at_ hb4 HF0.out.1)
  have HB4 := hide (HB0.out.trans (hb4.mono HB0.out.size))
  obtain ⟨⟨-, f0, f1, f2, f3⟩, g0, g1, g2, g3⟩ := And.intro HF4.out HR4.out
  clear hfin hb4
  go_wp2
  exact bodyPost_ret (res_two rfl _ _ w.heap.size _ _ _ _ _ rfl rfl (put4_four HF4.out _ _ _ _)) rfl ⟨_, _, _, _, rfl, Hfin.out, put4_below HB4.out (Nat.le_refl _)⟩
end Go.Proofs.YteokeljmggdecaaDoor
