/- Walks of layer 8's reference: atoms. -/
import Derived.Test.YtmiegjefmebpdaaGreatDoorKL
import Derived.Test.YtmiegjefmebpdaaGreatDoorKM
import Derived.Test.YtmiegjefmebpdaaGreatDoorRyb
namespace Go.Proofs.YtmiegjefmebpdaaGreatDoor
open Go.RowKit

theorem off_of {s : ByteArray} {k : Nat} (hk : k ≤ s.size) {r : List UInt8} (h : EndOf r (s.data.toList.drop k)) : ∃ k', k ≤ k' ∧ k' ≤ s.size ∧ r = s.data.toList.drop k' := by
  obtain ⟨j, rfl⟩ := h
  rw [List.drop_drop]
  by_cases hj : k + j ≤ s.size
  · exact ⟨k + j, by omega, hj, rfl⟩
  · exact ⟨s.size, hk, Nat.le_refl _, by rw [drop_end (by omega), drop_end (Nat.le_refl _)]⟩
theorem gotP_some {s : ByteArray} {w w' : World} {x : Rx} {k' : Nat} {e : Ending} (hk : k' ≤ s.size) (h : GotP s w (some (x, s.data.toList.drop k')) e w') : ∃ v, e = .returned (.tuple #[v, .int .i64 (k' : Int)]) ∧ RxV w' (fun g => w.heap.size ≤ g) v x ∧ Below w.heap.size w w' := by
  obtain ⟨v, rfl, h1, h2⟩ := h
  exact ⟨v, by rw [offO_at s k' hk x], h1, h2⟩
def AltC (s : ByteArray) (n : Nat) : Prop := ∀ (k : Nat) (W : World), k ≤ s.size → 4 * (s.size - k) + 4 ≤ n → Calls Tryz.prog 40 #[.string s, .int .i64 (k : Int)] W (GotP s W (altP n [] (s.data.toList.drop k)))
def SeqC (s : ByteArray) (n : Nat) : Prop := ∀ (k : Nat) (W : World), k ≤ s.size → 4 * (s.size - k) + 3 ≤ n → Calls Tryz.prog 56 #[.string s, .int .i64 (k : Int)] W (GotP s W (seqP n [] (s.data.toList.drop k)))
def ItemC (s : ByteArray) (n : Nat) : Prop := ∀ (k : Nat) (W : World), k < s.size → 4 * (s.size - k) + 2 ≤ n → Calls Tryz.prog 73 #[.string s, .int .i64 (k : Int)] W (GotP s W (itemP n (s.data.toList.drop k)))
def AtomC (s : ByteArray) (n : Nat) : Prop := ∀ (k : Nat) (W : World), k < s.size → 4 * (s.size - k) + 1 ≤ n → Calls Tryz.prog 91 #[.string s, .int .i64 (k : Int)] W (GotP s W (atomP n (s.data.toList.drop k)))
theorem AltC.next {s : ByteArray} {n : Nat} (h : AltC s n) (k : Nat) (W : World) (hk : k + 1 ≤ s.size) (hn : 4 * (s.size - (k + 1)) + 4 ≤ n) : Calls Tryz.prog 40 #[.string s, .int .i64 ((k : Int) + 1)] W (GotP s W (altP n [] (s.data.toList.drop (k + 1)))) := h (k + 1) W hk hn
theorem RxV.agg9 {W : World} {ok : Nat → Prop} {v : Value} {r : Rx} (h : RxV W ok v r) : ∃ (k : Int) (A : Option Addr) (n c : Nat) (a b : Int) (B : Option Addr) (m d : Nat), v = .agg #[.int .i64 k, .slice A n c, .int .i64 a, .int .i64 b, .slice B m d] := by
  cases h
  exact ⟨_, _, _, _, _, _, _, _, _, rfl⟩

set_option maxRecDepth 100000 in
set_option maxHeartbeats 12800000 in
theorem atom91 (s : ByteArray) (hs : s.size ≤ 20000) (n : Nat) (hA : AltC s n) : AtomC s (n + 1) := by
  intro k w hk hn
  have HA := hide hA
  clear hA
  obtain ⟨w0, hw0⟩ : ∃ w0, w.alloc (.cells #[.int .i64 0, .slice none 0 0, .int .i64 0, .int .i64 0, .slice none 0 0] 25) = w0 := ⟨_, rfl⟩
  have HF0 := hide (show FiveF w0 w.heap.size (.int .i64 0) (.slice none 0 0) (.int .i64 0) (.int .i64 0) (.slice none 0 0) by rw [← hw0]; exact fiveF_new w _ _ _ _ _ 25)
  have HB0 := hide (show Below w.heap.size w w0 by rw [← hw0]; exact bnew (Below.refl _ w) _)
  have hs0 : w.heap.size + 1 ≤ w0.heap.size ∧ w0.heap.size ≤ w.heap.size + 1 := by rw [← hw0]; simp
  obtain ⟨hs1, hs2⟩ := hs0
  have hd := drop_cons hk
  obtain ⟨E, hE⟩ : ∃ E, atomP (n + 1) (s.data.toList.drop k) = E := ⟨_, rfl⟩
  rw [hE]
  rw [hd] at hE
  obtain ⟨c, hc⟩ : ∃ c, s[k] = c := ⟨_, rfl⟩
  rw [hc] at hE
  have hki : (k : Int) < (s.size : Int) := by omega
  have hk0 : (0 : Int) ≤ (k : Int) := by omega
  have e40 : ((c.toNat : Int) == 40) = decide (c = 40) := u8_eq rfl
  have e91 : ((c.toNat : Int) == 91) = decide (c = 91) := u8_eq rfl
  have e46 : ((c.toNat : Int) == 46) = decide (c = 46) := u8_eq rfl
  have e94 : ((c.toNat : Int) == 94) = decide (c = 94) := u8_eq rfl
  have e36 : ((c.toNat : Int) == 36) = decide (c = 36) := u8_eq rfl
  have e92 : ((c.toNat : Int) == 92) = decide (c = 92) := u8_eq rfl
  have hb256 : c.toNat < 256 := c.toNat_lt
  unfold atomP at hE
  clear hd
  by_cases h40 : c = 40
  · rw [if_pos h40] at hE
    rw [decide_eq_true h40] at e40
    have HAk := hide (fun W => HA.out.next k W (by omega) (by omega))
    clear e91 e46 e94 e36 e92 h40
    cases hal : altP n [] (s.data.toList.drop (k + 1)) with
    | none =>
      rw [hal] at hE HAk
      have HEn := hide (show E = none by rw [← hE])
      clear hE hal
      go_enter Tryz.func91, Tryz.ntmps91
      go_wp2_with fail
      with_reducible refine (HAk.out _).mono ?_
      rintro e w3 ⟨v3, rfl, hr3, hb3⟩
      obtain ⟨q0, qA, qn, qc, q1, q2, qB, qm, qd, rfl⟩ := hr3.agg9
      have hbA : Below w3.heap.size w3 (w3.alloc (.cells #[.int .i64 q0, .slice qA qn qc, .int .i64 q1, .int .i64 q2, .slice qB qm qd] 25)) := bnew (Below.refl _ w3) _
      have hsz3 := hb3.size
      have B4 := hide ((hb3.mono hs1).trans (hbA.mono (by omega)))
      have hfv := five_new w3 (.int .i64 q0) (.slice qA qn qc) (.int .i64 q1) (.int .i64 q2) (.slice qB qm qd) 25
      have R4 := hide ((hr3.kept hbA).map (fun _ _ _ => rfl) fun g hg _ => Nat.le_trans hs1 hg : RxV (w3.alloc (.cells #[.int .i64 q0, .slice qA qn qc, .int .i64 q1, .int .i64 q2, .slice qB qm qd] 25)) (fun g => w.heap.size + 1 ≤ g) (.agg #[.int .i64 q0, .slice qA qn qc, .int .i64 q1, .int .i64 q2, .slice qB qm qd]) _)
      obtain ⟨-, b0, b1, b2, b3, b4⟩ := hfv
      clear hr3 hb3 hbA
      have hm1 : decide ((-1 : Int) < 0) = true := rfl
      have hfx := HF0.out.at_ B4.out (Nat.lt_succ_self _)
      have HFx := hide hfx
      obtain ⟨⟨-, f1, f2, f3, f4, f5⟩, f6, f7, f8, f9, f10⟩ := hfx
      have HBx := hide (HB0.out.trans ((B4.out).mono (Nat.le_succ _)))
      go_wp2
      exact bodyPost_ret (res_two rfl _ _ w.heap.size _ _ _ _ _ _ rfl rfl (put5_five HFx.out (.int .i64 0) (.slice none 0 0) (.int .i64 0) (.int .i64 0) (.slice none 0 0))) rfl ⟨_, by rw [HEn.out]; rfl, by rw [HEn.out]; exact rxv_zero, put5_below HBx.out (Nat.le_refl _)⟩
    | some p =>
      obtain ⟨x, r⟩ := p
      rw [hal] at hE HAk
      obtain ⟨k', hk1, hk2, rfl⟩ := off_of (by omega) ((parse_end n).2.2.2 _ _ _ _ hal)
      have HAk' := hide (fun W => (HAk.out W).mono fun _ _ h => gotP_some hk2 h)
      clear hal HAk
      have hm1 : decide ((k' : Int) < 0) = false := decide_eq_false (by omega)
      have hm1' : ¬ (k' : Int) < 0 := by omega
      by_cases hk3 : k' < s.size
      · have hd' := drop_cons hk3
        rw [hd'] at hE
        dsimp only at hE
        have hg : decide ((k' : Int) ≥ (s.size : Int)) = false := decide_eq_false (by omega)
        have hg' : (k' : Int) < (s.size : Int) := by omega
        obtain ⟨d, hdd⟩ : ∃ d, s[k'] = d := ⟨_, rfl⟩
        rw [hdd] at hE
        have d41 : ((d.toNat : Int) != 41) = !decide (d = 41) := u8_ne rfl
        by_cases h41 : d = 41
        · rw [if_pos h41] at hE
          rw [decide_eq_true h41] at d41
          have HEn := hide hE.symm
          have Ho := hide (offO_at s (k' + 1) (by omega) x)
          clear hE hd' h41
          go_enter Tryz.func91, Tryz.ntmps91
          go_wp2_with fail
          with_reducible refine (HAk'.out _).mono ?_
          rintro e w3 ⟨v3, rfl, hr3, hb3⟩
          obtain ⟨q0, qA, qn, qc, q1, q2, qB, qm, qd, rfl⟩ := hr3.agg9
          have hbA : Below w3.heap.size w3 (w3.alloc (.cells #[.int .i64 q0, .slice qA qn qc, .int .i64 q1, .int .i64 q2, .slice qB qm qd] 25)) := bnew (Below.refl _ w3) _
          have hsz3 := hb3.size
          have B4 := hide ((hb3.mono hs1).trans (hbA.mono (by omega)))
          have hfv := five_new w3 (.int .i64 q0) (.slice qA qn qc) (.int .i64 q1) (.int .i64 q2) (.slice qB qm qd) 25
          have R4 := hide ((hr3.kept hbA).map (fun _ _ _ => rfl) fun g hg _ => Nat.le_trans hs1 hg : RxV (w3.alloc (.cells #[.int .i64 q0, .slice qA qn qc, .int .i64 q1, .int .i64 q2, .slice qB qm qd] 25)) (fun g => w.heap.size + 1 ≤ g) (.agg #[.int .i64 q0, .slice qA qn qc, .int .i64 q1, .int .i64 q2, .slice qB qm qd]) _)
          obtain ⟨-, b0, b1, b2, b3, b4⟩ := hfv
          clear hr3 hb3 hbA
          have hfx := HF0.out.at_ B4.out (Nat.lt_succ_self _)
          have HFx := hide hfx
          obtain ⟨⟨-, f1, f2, f3, f4, f5⟩, f6, f7, f8, f9, f10⟩ := hfx
          have HBx := hide (HB0.out.trans ((B4.out).mono (Nat.le_succ _)))
          go_wp2
          exact bodyPost_ret (res_two rfl _ _ w.heap.size _ _ _ _ _ _ rfl rfl (put5_five HFx.out (.int .i64 q0) (.slice qA qn qc) (.int .i64 q1) (.int .i64 q2) (.slice qB qm qd))) rfl ⟨_, by rw [HEn.out, Ho.out]; rfl, by rw [HEn.out]; exact put5_rxv R4.out (Nat.lt_succ_self _) _ (Nat.le_succ _), put5_below HBx.out (Nat.le_refl _)⟩
        · rw [if_neg h41] at hE
          rw [decide_eq_false h41] at d41
          have HEn := hide hE.symm
          clear hE hd' h41
          go_enter Tryz.func91, Tryz.ntmps91
          go_wp2_with fail
          with_reducible refine (HAk'.out _).mono ?_
          rintro e w3 ⟨v3, rfl, hr3, hb3⟩
          obtain ⟨q0, qA, qn, qc, q1, q2, qB, qm, qd, rfl⟩ := hr3.agg9
          have hbA : Below w3.heap.size w3 (w3.alloc (.cells #[.int .i64 q0, .slice qA qn qc, .int .i64 q1, .int .i64 q2, .slice qB qm qd] 25)) := bnew (Below.refl _ w3) _
          have hsz3 := hb3.size
          have B4 := hide ((hb3.mono hs1).trans (hbA.mono (by omega)))
          have hfv := five_new w3 (.int .i64 q0) (.slice qA qn qc) (.int .i64 q1) (.int .i64 q2) (.slice qB qm qd) 25
          have R4 := hide ((hr3.kept hbA).map (fun _ _ _ => rfl) fun g hg _ => Nat.le_trans hs1 hg : RxV (w3.alloc (.cells #[.int .i64 q0, .slice qA qn qc, .int .i64 q1, .int .i64 q2, .slice qB qm qd] 25)) (fun g => w.heap.size + 1 ≤ g) (.agg #[.int .i64 q0, .slice qA qn qc, .int .i64 q1, .int .i64 q2, .slice qB qm qd]) _)
          obtain ⟨-, b0, b1, b2, b3, b4⟩ := hfv
          clear hr3 hb3 hbA
          have hfx := HF0.out.at_ B4.out (Nat.lt_succ_self _)
          have HFx := hide hfx
          obtain ⟨⟨-, f1, f2, f3, f4, f5⟩, f6, f7, f8, f9, f10⟩ := hfx
          have HBx := hide (HB0.out.trans ((B4.out).mono (Nat.le_succ _)))
          go_wp2
          exact bodyPost_ret (res_two rfl _ _ w.heap.size _ _ _ _ _ _ rfl rfl (put5_five HFx.out (.int .i64 0) (.slice none 0 0) (.int .i64 0) (.int .i64 0) (.slice none 0 0))) rfl ⟨_, by rw [HEn.out]; rfl, by rw [HEn.out]; exact rxv_zero, put5_below HBx.out (Nat.le_refl _)⟩
      · rw [drop_end (s := s) (k := k') (by omega)] at hE
        have hg : decide ((k' : Int) ≥ (s.size : Int)) = true := decide_eq_true (by omega)
        have HEn := hide hE.symm
        clear hE
        go_enter Tryz.func91, Tryz.ntmps91
        go_wp2_with fail
        with_reducible refine (HAk'.out _).mono ?_
        rintro e w3 ⟨v3, rfl, hr3, hb3⟩
        obtain ⟨q0, qA, qn, qc, q1, q2, qB, qm, qd, rfl⟩ := hr3.agg9
        have hbA : Below w3.heap.size w3 (w3.alloc (.cells #[.int .i64 q0, .slice qA qn qc, .int .i64 q1, .int .i64 q2, .slice qB qm qd] 25)) := bnew (Below.refl _ w3) _
        have hsz3 := hb3.size
        have B4 := hide ((hb3.mono hs1).trans (hbA.mono (by omega)))
        have hfv := five_new w3 (.int .i64 q0) (.slice qA qn qc) (.int .i64 q1) (.int .i64 q2) (.slice qB qm qd) 25
        have R4 := hide ((hr3.kept hbA).map (fun _ _ _ => rfl) fun g hg _ => Nat.le_trans hs1 hg : RxV (w3.alloc (.cells #[.int .i64 q0, .slice qA qn qc, .int .i64 q1, .int .i64 q2, .slice qB qm qd] 25)) (fun g => w.heap.size + 1 ≤ g) (.agg #[.int .i64 q0, .slice qA qn qc, .int .i64 q1, .int .i64 q2, .slice qB qm qd]) _)
        obtain ⟨-, b0, b1, b2, b3, b4⟩ := hfv
        clear hr3 hb3 hbA
        have hfx := HF0.out.at_ B4.out (Nat.lt_succ_self _)
        have HFx := hide hfx
        obtain ⟨⟨-, f1, f2, f3, f4, f5⟩, f6, f7, f8, f9, f10⟩ := hfx
        have HBx := hide (HB0.out.trans ((B4.out).mono (Nat.le_succ _)))
        go_wp2
        exact bodyPost_ret (res_two rfl _ _ w.heap.size _ _ _ _ _ _ rfl rfl (put5_five HFx.out (.int .i64 0) (.slice none 0 0) (.int .i64 0) (.int .i64 0) (.slice none 0 0))) rfl ⟨_, by rw [HEn.out]; rfl, by rw [HEn.out]; exact rxv_zero, put5_below HBx.out (Nat.le_refl _)⟩
  rw [if_neg h40] at hE
  rw [decide_eq_false h40] at e40
  clear h40 HA
  by_cases h91 : c = 91
  · rw [if_pos h91] at hE
    rw [decide_eq_true h91] at e91
    have HS := hide (set104 s k hk hs w0)
    rw [hE] at HS
    clear hE e46 e94 e36 e92 h91
    go_enter Tryz.func91, Tryz.ntmps91
    go_wp2_with fail
    with_reducible refine HS.out.mono ?_
    rintro e w3 ⟨v3, rfl, hr3, hb3⟩
    obtain ⟨q0, qA, qn, qc, q1, q2, qB, qm, qd, rfl⟩ := hr3.agg9
    have B3 := hide (hb3.mono hs1)
    have R3 := hide (hr3.map (fun _ _ _ => rfl) fun g hg _ => Nat.le_trans hs1 hg : RxV w3 (fun g => w.heap.size + 1 ≤ g) (.agg #[.int .i64 q0, .slice qA qn qc, .int .i64 q1, .int .i64 q2, .slice qB qm qd]) _)
    clear hr3 hb3
    have hfx := HF0.out.at_ B3.out (Nat.lt_succ_self _)
    have HFx := hide hfx
    obtain ⟨⟨-, f1, f2, f3, f4, f5⟩, f6, f7, f8, f9, f10⟩ := hfx
    have HBx := hide (HB0.out.trans ((B3.out).mono (Nat.le_succ _)))
    go_wp2
    exact bodyPost_ret (res_two rfl _ _ w.heap.size _ _ _ _ _ _ rfl rfl (put5_five HFx.out (.int .i64 q0) (.slice qA qn qc) (.int .i64 q1) (.int .i64 q2) (.slice qB qm qd))) rfl ⟨_, rfl, put5_rxv R3.out (Nat.lt_succ_self _) _ (Nat.le_succ _), put5_below HBx.out (Nat.le_refl _)⟩
  rw [if_neg h91] at hE
  rw [decide_eq_false h91] at e91
  clear h91
  by_cases h46 : c = 46
  · rw [if_pos h46] at hE
    rw [decide_eq_true h46] at e46
    have HEn := hide hE.symm
    have Ho := hide (offO_at s (k + 1) (by omega) (setR (rangesS [(10, 10)] true)))
    obtain ⟨A1, q1, c1, hv1, hq1, hs1'⟩ := (ownR_lit w0 #[.int .u8 10, .int .u8 10] [(10, 10)] 1 rfl rfl (by decide)).s
    have hba : Below w0.heap.size w0 (w0.alloc (.cells #[.int .u8 10, .int .u8 10] 48)) := bnew (Below.refl _ _) _
    cases hv1
    have HR := hide (ranges50 hs1' true)
    have Hba := hide hba
    clear hE e94 e36 e92 h46 hs1' hba hq1
    go_enter Tryz.func91, Tryz.ntmps91
    go_wp2_with fail
    with_reducible refine HR.out.mono ?_
    rintro e w3 ⟨v3, rfl, ho3, hb3⟩
    obtain ⟨A3, q3, cap3, rfl, -, -⟩ := ho3.s
    have B3 := hide ((Hba.out.trans (hb3.mono Hba.out.size)).mono hs1)
    have R3 := hide (ho3.mono (B' := w.heap.size + 1) (Nat.le_trans hs1 Hba.out.size)).rxv
    clear ho3 hb3
    have hfx := HF0.out.at_ B3.out (Nat.lt_succ_self _)
    have HFx := hide hfx
    obtain ⟨⟨-, f1, f2, f3, f4, f5⟩, f6, f7, f8, f9, f10⟩ := hfx
    have HBx := hide (HB0.out.trans ((B3.out).mono (Nat.le_succ _)))
    go_wp2
    exact bodyPost_ret (res_two rfl _ _ w.heap.size _ _ _ _ _ _ rfl rfl (put5_five HFx.out (.int .i64 1) (.slice A3 q3 cap3) (.int .i64 0) (.int .i64 0) (.slice none 0 0))) rfl ⟨_, by rw [HEn.out, Ho.out]; rfl, by rw [HEn.out]; exact put5_rxv R3.out (Nat.lt_succ_self _) _ (Nat.le_succ _), put5_below HBx.out (Nat.le_refl _)⟩
  rw [if_neg h46] at hE
  rw [decide_eq_false h46] at e46
  clear h46
  by_cases h94 : c = 94
  · rw [if_pos h94] at hE
    rw [decide_eq_true h94] at e94
    have HEn := hide hE.symm
    have Ho := hide (offO_at s (k + 1) (by omega) (Rx.mk 5 [] 0 0 []))
    have B0 := hide (Below.refl (w.heap.size + 1) w0)
    have R0 := hide (rxv_kind 5 (by omega) : RxV w0 (fun g => w.heap.size + 1 ≤ g) _ _)
    clear hE e36 e92 h94
    go_enter Tryz.func91, Tryz.ntmps91
    have hfx := HF0.out.at_ B0.out (Nat.lt_succ_self _)
    have HFx := hide hfx
    obtain ⟨⟨-, f1, f2, f3, f4, f5⟩, f6, f7, f8, f9, f10⟩ := hfx
    have HBx := hide (HB0.out.trans ((B0.out).mono (Nat.le_succ _)))
    go_wp2
    exact bodyPost_ret (res_two rfl _ _ w.heap.size _ _ _ _ _ _ rfl rfl (put5_five HFx.out (.int .i64 5) (.slice none 0 0) (.int .i64 0) (.int .i64 0) (.slice none 0 0))) rfl ⟨_, by rw [HEn.out, Ho.out]; rfl, by rw [HEn.out]; exact put5_rxv R0.out (Nat.lt_succ_self _) _ (Nat.le_succ _), put5_below HBx.out (Nat.le_refl _)⟩
  rw [if_neg h94] at hE
  rw [decide_eq_false h94] at e94
  clear h94
  by_cases h36 : c = 36
  · rw [if_pos h36] at hE
    rw [decide_eq_true h36] at e36
    have HEn := hide hE.symm
    have Ho := hide (offO_at s (k + 1) (by omega) (Rx.mk 6 [] 0 0 []))
    have B0 := hide (Below.refl (w.heap.size + 1) w0)
    have R0 := hide (rxv_kind 6 (by omega) : RxV w0 (fun g => w.heap.size + 1 ≤ g) _ _)
    clear hE e92 h36
    go_enter Tryz.func91, Tryz.ntmps91
    have hfx := HF0.out.at_ B0.out (Nat.lt_succ_self _)
    have HFx := hide hfx
    obtain ⟨⟨-, f1, f2, f3, f4, f5⟩, f6, f7, f8, f9, f10⟩ := hfx
    have HBx := hide (HB0.out.trans ((B0.out).mono (Nat.le_succ _)))
    go_wp2
    exact bodyPost_ret (res_two rfl _ _ w.heap.size _ _ _ _ _ _ rfl rfl (put5_five HFx.out (.int .i64 6) (.slice none 0 0) (.int .i64 0) (.int .i64 0) (.slice none 0 0))) rfl ⟨_, by rw [HEn.out, Ho.out]; rfl, by rw [HEn.out]; exact put5_rxv R0.out (Nat.lt_succ_self _) _ (Nat.le_succ _), put5_below HBx.out (Nat.le_refl _)⟩
  rw [if_neg h36] at hE
  rw [decide_eq_false h36] at e36
  clear h36
  have B0 := hide (Below.refl (w.heap.size + 1) w0)
  by_cases h92 : c = 92
  · rw [if_pos h92] at hE
    rw [decide_eq_true h92] at e92
    clear h92
    by_cases hk1 : k + 1 < s.size
    · rw [drop_cons hk1] at hE
      dsimp only at hE
      have hki1 : (k : Int) + 1 < (s.size : Int) := by omega
      have hki2 : decide ((k : Int) + 1 < (s.size : Int)) = true := decide_eq_true hki1
      obtain ⟨d, hdd⟩ : ∃ d, s[k + 1] = d := ⟨_, rfl⟩
      rw [hdd] at hE
      have d98 : ((d.toNat : Int) == 98) = decide (d = 98) := u8_eq rfl
      by_cases h98 : d = 98
      · rw [if_pos h98] at hE
        rw [decide_eq_true h98] at d98
        have HEn := hide hE.symm
        have Ho := hide (offO_at s (k + 1 + 1) (by omega) (Rx.mk 7 [] 0 0 []))
        have R0 := hide (rxv_kind 7 (by omega) : RxV w0 (fun g => w.heap.size + 1 ≤ g) _ _)
        clear hE h98
        go_enter Tryz.func91, Tryz.ntmps91
        have hfx := HF0.out.at_ B0.out (Nat.lt_succ_self _)
        have HFx := hide hfx
        obtain ⟨⟨-, f1, f2, f3, f4, f5⟩, f6, f7, f8, f9, f10⟩ := hfx
        have HBx := hide (HB0.out.trans ((B0.out).mono (Nat.le_succ _)))
        go_wp2
        exact bodyPost_ret (res_two rfl _ _ w.heap.size _ _ _ _ _ _ rfl rfl (put5_five HFx.out (.int .i64 7) (.slice none 0 0) (.int .i64 0) (.int .i64 0) (.slice none 0 0))) rfl ⟨_, by rw [HEn.out, Ho.out]; rfl, by rw [HEn.out]; exact put5_rxv R0.out (Nat.lt_succ_self _) _ (Nat.le_succ _), put5_below HBx.out (Nat.le_refl _)⟩
      · rw [if_neg h98] at hE
        rw [decide_eq_false h98] at d98
        clear h98
        cases hx : escapeS d with
        | none =>
          rw [hx] at hE
          have HEn := hide hE.symm
          have HX := hide (escape105 d none hx)
          clear hE hx
          go_enter Tryz.func91, Tryz.ntmps91
          go_wp2_with fail
          with_reducible refine (HX.out _).mono ?_
          rintro e w3 ⟨v3, rfl, ho3, hb3⟩
          have B3 := hide (hb3.mono hs1)
          obtain ⟨A3, q3, cap3, rfl, -, -⟩ := ho3.s
          have R3 := hide (ho3.mono (B' := w.heap.size + 1) hs1).rxv
          clear ho3 hb3
          have hfx := HF0.out.at_ B3.out (Nat.lt_succ_self _)
          have HFx := hide hfx
          obtain ⟨⟨-, f1, f2, f3, f4, f5⟩, f6, f7, f8, f9, f10⟩ := hfx
          have HBx := hide (HB0.out.trans ((B3.out).mono (Nat.le_succ _)))
          go_wp2
          exact bodyPost_ret (res_two rfl _ _ w.heap.size _ _ _ _ _ _ rfl rfl (put5_five HFx.out (.int .i64 0) (.slice none 0 0) (.int .i64 0) (.int .i64 0) (.slice none 0 0))) rfl ⟨_, by rw [HEn.out]; rfl, by rw [HEn.out]; exact rxv_zero, put5_below HBx.out (Nat.le_refl _)⟩
        | some x =>
          rw [hx] at hE
          have HEn := hide hE.symm
          have HX := hide (escape105 d (some x) hx)
          have Ho := hide (offO_at s (k + 1 + 1) (by omega) (setR x))
          clear hE hx
          go_enter Tryz.func91, Tryz.ntmps91
          go_wp2_with fail
          with_reducible refine (HX.out _).mono ?_
          rintro e w3 ⟨v3, rfl, ho3, hb3⟩
          have B3 := hide (hb3.mono hs1)
          obtain ⟨A3, q3, cap3, rfl, -, -⟩ := ho3.s
          have R3 := hide (ho3.mono (B' := w.heap.size + 1) hs1).rxv
          clear ho3 hb3
          have hfx := HF0.out.at_ B3.out (Nat.lt_succ_self _)
          have HFx := hide hfx
          obtain ⟨⟨-, f1, f2, f3, f4, f5⟩, f6, f7, f8, f9, f10⟩ := hfx
          have HBx := hide (HB0.out.trans ((B3.out).mono (Nat.le_succ _)))
          go_wp2
          exact bodyPost_ret (res_two rfl _ _ w.heap.size _ _ _ _ _ _ rfl rfl (put5_five HFx.out (.int .i64 1) (.slice A3 q3 cap3) (.int .i64 0) (.int .i64 0) (.slice none 0 0))) rfl ⟨_, by rw [HEn.out, Ho.out]; rfl, by rw [HEn.out]; exact put5_rxv R3.out (Nat.lt_succ_self _) _ (Nat.le_succ _), put5_below HBx.out (Nat.le_refl _)⟩
    · rw [drop_end (s := s) (k := k + 1) (by omega)] at hE
      have HEn := hide hE.symm
      have hki1 : ¬ (k : Int) + 1 < (s.size : Int) := by omega
      have hki2 : decide ((k : Int) + 1 < (s.size : Int)) = false := decide_eq_false hki1
      clear hE
      go_enter Tryz.func91, Tryz.ntmps91
      have hfx := HF0.out.at_ B0.out (Nat.lt_succ_self _)
      have HFx := hide hfx
      obtain ⟨⟨-, f1, f2, f3, f4, f5⟩, f6, f7, f8, f9, f10⟩ := hfx
      have HBx := hide (HB0.out.trans ((B0.out).mono (Nat.le_succ _)))
      go_wp2
      exact bodyPost_ret (res_two rfl _ _ w.heap.size _ _ _ _ _ _ rfl rfl (put5_five HFx.out (.int .i64 0) (.slice none 0 0) (.int .i64 0) (.int .i64 0) (.slice none 0 0))) rfl ⟨_, by rw [HEn.out]; rfl, by rw [HEn.out]; exact rxv_zero, put5_below HBx.out (Nat.le_refl _)⟩
  rw [if_neg h92] at hE
  rw [decide_eq_false h92] at e92
  clear h92
  have hlo : (c < 32) ↔ c.toNat < 32 := by rw [UInt8.lt_iff_toNat_lt]; exact Iff.rfl
  have hhi : (126 < c) ↔ 126 < c.toNat := by rw [UInt8.lt_iff_toNat_lt]; exact Iff.rfl
  by_cases h1 : c < 32
  · rw [if_pos (Or.inl h1)] at hE
    have HEn := hide hE.symm
    have d1 : decide ((c.toNat : Int) < 32) = true := decide_eq_true (by have := hlo.1 h1; omega)
    clear hE hlo hhi
    go_enter Tryz.func91, Tryz.ntmps91
    have hfx := HF0.out.at_ B0.out (Nat.lt_succ_self _)
    have HFx := hide hfx
    obtain ⟨⟨-, f1, f2, f3, f4, f5⟩, f6, f7, f8, f9, f10⟩ := hfx
    have HBx := hide (HB0.out.trans ((B0.out).mono (Nat.le_succ _)))
    go_wp2
    exact bodyPost_ret (res_two rfl _ _ w.heap.size _ _ _ _ _ _ rfl rfl (put5_five HFx.out (.int .i64 0) (.slice none 0 0) (.int .i64 0) (.int .i64 0) (.slice none 0 0))) rfl ⟨_, by rw [HEn.out]; rfl, by rw [HEn.out]; exact rxv_zero, put5_below HBx.out (Nat.le_refl _)⟩
  have d1 : decide ((c.toNat : Int) < 32) = false := decide_eq_false (by have : ¬ c.toNat < 32 := fun h => h1 (hlo.2 h); omega)
  by_cases h2 : 126 < c
  · rw [if_pos (Or.inr (Or.inl h2))] at hE
    have HEn := hide hE.symm
    have d2 : decide ((126 : Int) < (c.toNat : Int)) = true := decide_eq_true (by have := hhi.1 h2; omega)
    clear hE hlo hhi
    go_enter Tryz.func91, Tryz.ntmps91
    have hfx := HF0.out.at_ B0.out (Nat.lt_succ_self _)
    have HFx := hide hfx
    obtain ⟨⟨-, f1, f2, f3, f4, f5⟩, f6, f7, f8, f9, f10⟩ := hfx
    have HBx := hide (HB0.out.trans ((B0.out).mono (Nat.le_succ _)))
    go_wp2
    exact bodyPost_ret (res_two rfl _ _ w.heap.size _ _ _ _ _ _ rfl rfl (put5_five HFx.out (.int .i64 0) (.slice none 0 0) (.int .i64 0) (.int .i64 0) (.slice none 0 0))) rfl ⟨_, by rw [HEn.out]; rfl, by rw [HEn.out]; exact rxv_zero, put5_below HBx.out (Nat.le_refl _)⟩
  have d2 : decide ((126 : Int) < (c.toNat : Int)) = false := decide_eq_false (by have : ¬ 126 < c.toNat := fun h => h2 (hhi.2 h); omega)
  clear hlo hhi
  by_cases h3 : c ∈ special
  · rw [if_pos (Or.inr (Or.inr h3))] at hE
    have HEn := hide hE.symm
    have HT := hide (intext99 ⟨#[92, 46, 42, 43, 63, 40, 41, 91, 93, 123, 125, 124, 94, 36]⟩ c true (by rw [special_bs]; exact decide_eq_true h3))
    clear hE h3
    go_enter Tryz.func91, Tryz.ntmps91
    go_wp2_with fail
    with_reducible refine (HT.out _ (by decide)).mono ?_
    rintro e w3 ⟨rfl, rfl⟩
    have hfx := HF0.out.at_ B0.out (Nat.lt_succ_self _)
    have HFx := hide hfx
    obtain ⟨⟨-, f1, f2, f3, f4, f5⟩, f6, f7, f8, f9, f10⟩ := hfx
    have HBx := hide (HB0.out.trans ((B0.out).mono (Nat.le_succ _)))
    go_wp2
    exact bodyPost_ret (res_two rfl _ _ w.heap.size _ _ _ _ _ _ rfl rfl (put5_five HFx.out (.int .i64 0) (.slice none 0 0) (.int .i64 0) (.int .i64 0) (.slice none 0 0))) rfl ⟨_, by rw [HEn.out]; rfl, by rw [HEn.out]; exact rxv_zero, put5_below HBx.out (Nat.le_refl _)⟩
  rw [if_neg (by simp [h1, h2, h3])] at hE
  have HEn := hide hE.symm
  have HT := hide (intext99 ⟨#[92, 46, 42, 43, 63, 40, 41, 91, 93, 123, 125, 124, 94, 36]⟩ c false (by rw [special_bs]; exact decide_eq_false h3))
  have HY := hide (byteof106 c w0)
  have Ho := hide (offO_at s (k + 1) (by omega) (setR [(c, c)]))
  clear hE h3
  go_enter Tryz.func91, Tryz.ntmps91
  go_wp2_with fail
  with_reducible refine (HT.out _ (by decide)).mono ?_
  rintro e w3 ⟨rfl, rfl⟩
  go_wp2_with fail
  with_reducible refine HY.out.mono ?_
  rintro e w3 ⟨v3, rfl, hr3, hb3⟩
  obtain ⟨q0, qA, qn, qc, q1, q2, qB, qm, qd, rfl⟩ := hr3.agg9
  have B3 := hide (hb3.mono hs1)
  have R3 := hide (hr3.map (fun _ _ _ => rfl) fun g hg _ => Nat.le_trans hs1 hg : RxV w3 (fun g => w.heap.size + 1 ≤ g) (.agg #[.int .i64 q0, .slice qA qn qc, .int .i64 q1, .int .i64 q2, .slice qB qm qd]) _)
  clear hr3 hb3
  have hfx := HF0.out.at_ B3.out (Nat.lt_succ_self _)
  have HFx := hide hfx
  obtain ⟨⟨-, f1, f2, f3, f4, f5⟩, f6, f7, f8, f9, f10⟩ := hfx
  have HBx := hide (HB0.out.trans ((B3.out).mono (Nat.le_succ _)))
  go_wp2
  exact bodyPost_ret (res_two rfl _ _ w.heap.size _ _ _ _ _ _ rfl rfl (put5_five HFx.out (.int .i64 q0) (.slice qA qn qc) (.int .i64 q1) (.int .i64 q2) (.slice qB qm qd))) rfl ⟨_, by rw [HEn.out, Ho.out]; rfl, by rw [HEn.out]; exact put5_rxv R3.out (Nat.lt_succ_self _) _ (Nat.le_succ _), put5_below HBx.out (Nat.le_refl _)⟩

end Go.Proofs.YtmiegjefmebpdaaGreatDoor
