/- Walks of layer 11's reference: token, scan, Scan, ScanPattern. -/
import Derived.Test.YteokeljmggdecaaDoorRh
import Derived.Test.YteokeljmggdecaaDoorRi
import Derived.Test.YteokeljmggdecaaDoorRj
import Derived.Test.YteokeljmggdecaaDoorRk
import Derived.Test.YteokeljmggdecaaDoorRb
import Derived.Test.YteokeljmggdecaaDoorHr
namespace Go.Proofs.YteokeljmggdecaaDoor
open Go.RowKit

theorem rtoken (s : ByteArray) (k : Nat) (pat : Bool) (hk : k < s.size) (hs : s.size ≤ 1000000) (w : World) :
    Calls Tryd.prog 44 #[.string s, .int .i64 (k : Int), .bool pat] w (GotE w k (errS pat (s.data.toList.drop k)) (preS pat (s.data.toList.drop k))) := by
  cases hl : ltB s[k] with
  | true => exact rtoken_word s k pat hk hs hl w
  | false =>
    cases hd : dgB s[k] with
    | true => exact rtoken_num s k pat hk hs hl hd w
    | false =>
      by_cases h34 : s[k] = 34
      · exact rtoken_lit s k pat hk hs hl hd h34 w
      · by_cases h36 : pat = true ∧ s[k] = 36
        · exact rtoken_meta s k pat hk hs hl hd h34 h36 w
        · exact rtoken_mark s k pat hk hs hl hd h34 h36 w
theorem ownT_none (w : World) : OwnT (w.alloc (.cells #[] 33)) w.heap.size (.slice (some ⟨w.heap.size, 0, none⟩) 0 0) [] := by
  refine ⟨rfl, Or.inr ⟨w.heap.size, 0, #[], rfl, Nat.le_refl _, heap_alloc_new w _, Nat.le_refl _, Nat.zero_le _, rfl, rfl⟩⟩

set_option maxRecDepth 20000 in
set_option maxHeartbeats 12800000 in
theorem rscan (pat : Bool) (s : ByteArray) (hs : s.size ≤ 1000000) (w : World) :
    Calls Tryd.prog 26 #[.string s, .bool pat] w (GotS w (resS (scanS pat s.data.toList))) := by
  obtain ⟨i0, hi, hz0, hz1, hz2⟩ := info_parts infoTk
  obtain ⟨P, hP⟩ : ∃ P, scanS pat s.data.toList = P := ⟨_, rfl⟩
  rw [hP]
  have HP := hide hP
  obtain ⟨W0, hW0⟩ : ∃ W0, w.alloc (.cells #[] 33) = W0 := ⟨_, rfl⟩
  have hO0 := ownT_none w
  rw [hW0] at hO0
  have HO0 := hide hO0
  have HB0 := hide (show Below w.heap.size w W0 by rw [← hW0]; exact bnew (Below.refl _ w) _)
  have HW0 := hide hW0
  obtain ⟨J, hJ⟩ : ∃ J, s.size - (skS s.data.toList).length = J := ⟨_, rfl⟩
  have HSk := hide (fun W => rskip s 0 (Nat.zero_le _) hs J (by rw [List.drop_zero]; exact hJ) W)
  have HSk := hide (show ∀ W, Calls Tryd.prog 43 #[.string s, .int .i64 0] W fun e w' => e = .returned (.int .i64 (J : Int)) ∧ W = w' from HSk.out)
  have hsx := sk_suffix s.data.toList 0 (Nat.zero_le _)
  rw [List.drop_zero, size_list, hJ] at hsx
  have HSx := hide hsx
  have HJ := hide hJ
  clear hP hO0 hW0 hJ hsx
  go_enter Tryd.func26, Tryd.ntmps26
  go_wp2_with fail
  rw [HW0.out]
  clear HW0
  with_reducible refine (HSk.out _).mono ?_
  rintro e w1 ⟨rfl, rfl⟩
  go_wp2_with fail
  go_loopw [7, 8] (fun u y wr => ∃ (j : Nat) (l : List Tk) (k : Nat), y = .int .i64 (j : Int) ∧ j ≤ s.size ∧ Bare (s.data.toList.drop j) ∧ s.size - j < k ∧
      P = appE l (scanF k pat s.size l.length (s.data.toList.drop j)) ∧ l.length ≤ 600 ∧ OwnT wr w.heap.size u l ∧ Below w.heap.size w wr) (fun _ y _ => s.size - (intOf y).toNat)
  case atStart =>
    have h1 := HSx.out
    have hj := HJ.out
    have hl : (skS s.data.toList).length ≤ s.size := by have := skB_len s.data.toList false; rw [size_list] at this; exact this
    refine ⟨J, [], s.size + 1, rfl, by omega, by rw [← h1.2]; exact skB_bare _ _, by omega, ?_, by simp, HO0.out, HB0.out⟩
    rw [← h1.2, ← HP.out]
    unfold scanS
    rw [size_list]
    show _ = appE [] (scanF (s.size + 1) pat s.size 0 (skS s.data.toList))
    cases scanF (s.size + 1) pat s.size 0 (skS s.data.toList) <;> rfl
  case round =>
    clear HO0 HB0 HSk HSx HJ
    obtain ⟨j, l, k, rfl, hj, hbare, hk, hres, hl600, hown, hb⟩ := hrel
    obtain ⟨wo, hwo⟩ : ∃ wo, wo = wr := ⟨wr, rfl⟩
    subst hwo
    have hszo := hb.size
    have HO := hide hown
    have HB := hide hb
    have Hres := hide hres
    obtain ⟨A0, n0, c0, rfl, hn0, hts0⟩ := hown.s
    have hnc0 := hts0.1
    have hcc0 := hts0.2.1
    have Hn0 := hide hn0
    by_cases hlt : j < s.size
    · have hji : (j : Int) < (s.size : Int) := by omega
      have HC := hide (fun W => rtoken s j pat hlt hs W)
      obtain ⟨r, hr⟩ : ∃ r, s.data.toList.drop j = r := ⟨_, rfl⟩
      have hrl : r.length = s.size - j := by rw [← hr, List.length_drop, size_list]
      have hrn : r ≠ [] := fun e => by rw [e] at hrl; simp at hrl; omega
      obtain ⟨hstep1, hstep2, hstep3⟩ := scan_step k pat s.size l.length r hrn (by omega)
      have hn := pre_le (pat := pat) hrn
      rw [hr] at hres HC
      rw [← hn0] at hstep1 hstep2 hstep3 hl600 hres
      rw [hrl, show s.size - (s.size - j) = j by omega] at hstep1 hstep2 hstep3
      rw [hrl] at hn
      obtain ⟨x, hx⟩ : ∃ x, preS pat r = x := ⟨_, rfl⟩
      obtain ⟨q, hq⟩ : ∃ q, errS pat r = q := ⟨_, rfl⟩
      rw [hq] at hstep1 hstep2 hstep3 HC
      rw [hx] at hstep3 HC hn
      obtain ⟨E, hE⟩ : ∃ E, j + x.2.2 = E := ⟨_, rfl⟩
      have hEs : E ≤ s.size := by omega
      have hqw : q = 0 → 1 ≤ x.2.2 := fun h => by
        have := err_len hrn (by rw [hq]; exact h)
        rw [hx] at this
        exact this.1
      obtain ⟨J, hJ⟩ : ∃ J, s.size - (skS (s.data.toList.drop E)).length = J := ⟨_, rfl⟩
      have HSk := hide (fun W => rskip s E hEs hs J hJ W)
      have hsx := sk_suffix s.data.toList E (by rw [size_list]; exact hEs)
      rw [size_list, hJ] at hsx
      have hdr : r.drop x.2.2 = s.data.toList.drop E := by rw [← hr, List.drop_drop, hE]
      rw [hE, hdr] at hstep3
      have Hres2 := hide hres
      have S1 := hide hstep1
      have S2 := hide hstep2
      have S3 := hide hstep3
      have HSx := hide hsx
      have HJ := hide hJ
      have Hqw := hide hqw
      have HE := hide hE
      clear hown hb hres hbare hn0 hts0 hr hrl hrn hstep1 hstep2 hstep3 hn hx hq hE hqw hJ hsx hdr
      go_wp2_with fail
      with_reducible refine (HC.out _).mono ?_
      rintro e w3 ⟨K, T, a, E2, rfl, hfin, hb3⟩
      have Hfin := hide hfin
      have hsz3 := hb3.size
      have HO3 := hide (HO.out.below hb3)
      have HB3 := hide (HB.out.trans (hb3.mono hszo))
      have HF3 := hide (four_new w3 (.int .i64 K) (.string T) (.int .i64 a) (.int .i64 E2) 33)
      have hbx := bnew (Below.refl w3.heap.size w3) (.cells #[.int .i64 K, .string T, .int .i64 a, .int .i64 E2] 33)
      have HO4 := hide (HO3.out.below hbx)
      have HB4 := hide (HB3.out.trans (hbx.mono HB3.out.size))
      clear hfin hb3 hbx
      by_cases hq0 : q = 0
      · obtain ⟨hK, hT, ha, hEE⟩ := Hfin.out hq0
        have hE2 : E2 = (E : Int) := by rw [hEE, HE.out]
        subst hE2
        have HT := hide hT
        by_cases hfull : 600 ≤ n0
        · have hPe : P = .error (j, 4) := by rw [Hres2.out, S2.out hq0 hfull]; rfl
          have HPe := hide hPe
          have e6 : (n0 : Int) ≥ 600 := by omega
          have e6' : (600 : Int) ≤ (n0 : Int) := by omega
          subst hq0
          clear hPe hfull hK hT ha hEE
          go_wp2
          go_ret3
          exact ⟨none, 0, 0, by rw [HPe.out]; rfl, by rw [HPe.out]; exact TkS.nil _, HB4.out⟩
        · have e6 : ¬ (n0 : Int) ≥ 600 := by omega
          have e6' : ¬ (600 : Int) ≤ (n0 : Int) := by omega
          have hn0l : n0 < 600 := by omega
          have HP3 := hide (S3.out hq0 hn0l l)
          have Hn1 := hide (Hqw.out hq0)
          have hszx : w.heap.size ≤ (w3.alloc (.cells #[.int .i64 K, .string T, .int .i64 a, .int .i64 (E : Int)] 33)).heap.size := by simp; omega
          have Hszx := hide hszx
          have HTok := hide (show (⟨x.1, x.2.1, (j : Int), (E : Int)⟩ : Tk) = ⟨K, x.2.1, a, (E : Int)⟩ by rw [hK, ha])
          obtain ⟨W4, hW4⟩ : ∃ W4, w3.alloc (.cells #[.int .i64 K, .string T, .int .i64 a, .int .i64 (E : Int)] 33) = W4 := ⟨_, rfl⟩
          rw [hW4] at HO4 HB4 HF3 Hszx
          have HW4 := hide hW4
          have Hne := hide (show (Value.slice A0 n0 c0).ownBlock ≠ some w3.heap.size from fun e => Nat.lt_irrefl _ (World.ownsRow.lt HO3.out _ e).2)
          subst hq0
          clear hfull hK hT ha hEE hszx hW4
          go_upto_region 9 with (fail)
          rw [HW4.out]
          obtain ⟨-, f0, f1, f2, f3⟩ := HF3.out
          go_wp2_with (at_builtin; refine wp_push_tk rfl (.tmp 36) (.tmp 38) 23 rfl i0 _ 40 Tryd.underlying23 hi hz0 hz1 hz2 rfl w.heap.size (.slice A0 n0 c0) l rfl W4 ⟨K, x.2.1, a, (E : Int)⟩ _ _ _ _ rfl (congrArg Value.string HT.out) rfl rfl HO4.out Hszx.out _ rfl rfl (by rw [← Hn0.out]; omega) (by rw [← Hn0.out]; unfold maxLen; omega) _ ?_)
          intro v' w6 hown6 hb6 hfar6
          obtain ⟨-, f0', f1', f2', f3'⟩ := HF3.out.far hfar6 Hne.out
          obtain ⟨A6, n6, c6, rfl, -, -⟩ := hown6.s
          have HO6 := hide hown6
          have HB6 := hide (HB4.out.trans hb6)
          clear hown6 hb6 hfar6 f0 f1 f2 f3
          go_wp2_with fail
          with_reducible refine (HSk.out _).mono ?_
          rintro e w7 ⟨rfl, rfl⟩
          go_wp2
          go_roundw
          case rel =>
            have h1 := HSx.out
            have h2 := Hn1.out
            have h4 := HE.out
            have hJ := HJ.out
            refine ⟨J, l ++ [⟨K, x.2.1, a, (E : Int)⟩], k - 1, rfl, by omega, by rw [← h1.2]; exact skB_bare _ _, by omega, ?_, ?_, HO6.out, HB6.out⟩
            · rw [← h1.2, List.length_append, ← Hn0.out, ← HTok.out]
              exact Hres2.out.trans HP3.out
            · rw [List.length_append, ← Hn0.out]
              simp only [List.length_cons, List.length_nil]
              omega
          case measure =>
            have h1 := HSx.out
            have h2 := Hn1.out
            have h4 := HE.out
            have hJ := HJ.out
            simp [intOf]
            omega
      · have hPe : P = .error (j, q) := by rw [Hres2.out, S1.out hq0]; rfl
        have HPe := hide hPe
        have e0 : (q == 0) = false := beq_eq_false_iff_ne.2 hq0
        have e0' : (q != 0) = true := by unfold bne; rw [e0]; rfl
        clear hPe hq0
        go_wp2
        go_ret3
        exact ⟨none, 0, 0, by rw [HPe.out]; rfl, by rw [HPe.out]; exact TkS.nil _, HB4.out⟩
    · have hji : ¬ (j : Int) < (s.size : Int) := by omega
      have hPe : P = .ok l := by
        rw [Hres.out, drop_end hlt, scan_nil]
        show Except.ok (l ++ []) = _
        rw [List.append_nil]
      have HPe := hide hPe
      have HTS := hide hts0
      clear hown hb hres hbare hn0 hts0 hPe
      go_wp2
      go_ret3
      exact ⟨A0, n0, c0, by rw [HPe.out]; rfl, by rw [HPe.out]; exact HTS.out, HB.out⟩
theorem rScan (s : ByteArray) (hs : s.size ≤ 1000000) (w : World) : Calls Tryd.prog 11 #[.string s] w (GotS w (resS (scanS false s.data.toList))) := by
  have HC := hide (rscan false s hs w)
  obtain ⟨X, hX⟩ : ∃ X, resS (scanS false s.data.toList) = X := ⟨_, rfl⟩
  rw [hX] at HC ⊢
  clear hX
  go_enter Tryd.func11, Tryd.ntmps11
  go_wp2_with fail
  with_reducible refine HC.out.mono ?_
  rintro e w1 ⟨A, n, c, rfl, hts, hb⟩
  have H := hide hts
  have HB := hide hb
  clear hts hb
  go_wp2
  go_ret3
  exact ⟨A, n, c, rfl, H.out, HB.out⟩
theorem rScanPattern (s : ByteArray) (hs : s.size ≤ 1000000) (w : World) : Calls Tryd.prog 14 #[.string s] w (GotS w (resS (scanS true s.data.toList))) := by
  have HC := hide (rscan true s hs w)
  obtain ⟨X, hX⟩ : ∃ X, resS (scanS true s.data.toList) = X := ⟨_, rfl⟩
  rw [hX] at HC ⊢
  clear hX
  go_enter Tryd.func14, Tryd.ntmps14
  go_wp2_with fail
  with_reducible refine HC.out.mono ?_
  rintro e w1 ⟨A, n, c, rfl, hts, hb⟩
  have H := hide hts
  have HB := hide hb
  clear hts hb
  go_wp2
  go_ret3
  exact ⟨A, n, c, rfl, H.out, HB.out⟩
end Go.Proofs.YteokeljmggdecaaDoor
