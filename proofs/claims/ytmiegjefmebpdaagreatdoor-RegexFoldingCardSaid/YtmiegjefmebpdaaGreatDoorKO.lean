/- Walks of layer 8's reference: items, sequences, alternatives, Parse. -/
import Derived.Test.YtmiegjefmebpdaaGreatDoorKN
namespace Go.Proofs.YtmiegjefmebpdaaGreatDoor
open Go.RowKit

theorem suffixP_none {x : Rx} {s : ByteArray} {k : Nat} (h : s.size ≤ k) : suffixP x (s.data.toList.drop k) = some (x, s.data.toList.drop k) := by
  rw [drop_end h]
  rfl

set_option maxRecDepth 100000 in
set_option maxHeartbeats 12800000 in
theorem item73 (s : ByteArray) (hs : s.size ≤ 20000) (n : Nat) (hA : AtomC s n) : ItemC s (n + 1) := by
  intro k w hk hn
  have HA := hide (fun W => hA k W hk (by omega))
  clear hA
  obtain ⟨w0, hw0⟩ : ∃ w0, w.alloc (.cells #[.int .i64 0, .slice none 0 0, .int .i64 0, .int .i64 0, .slice none 0 0] 25) = w0 := ⟨_, rfl⟩
  have HF0 := hide (show FiveF w0 w.heap.size (.int .i64 0) (.slice none 0 0) (.int .i64 0) (.int .i64 0) (.slice none 0 0) by rw [← hw0]; exact fiveF_new w _ _ _ _ _ 25)
  have HB0 := hide (show Below w.heap.size w w0 by rw [← hw0]; exact bnew (Below.refl _ w) _)
  have hs0 : w.heap.size + 1 ≤ w0.heap.size ∧ w0.heap.size ≤ w.heap.size + 1 := by rw [← hw0]; simp
  obtain ⟨hs1, hs2⟩ := hs0
  obtain ⟨E, hE⟩ : ∃ E, itemP (n + 1) (s.data.toList.drop k) = E := ⟨_, rfl⟩
  rw [hE]
  unfold itemP at hE
  cases hal : atomP n (s.data.toList.drop k) with
  | none =>
    rw [hal] at hE HA
    have HEn := hide hE.symm
    have HA' := HA
    clear hE hal
    go_enter Tryz.func73, Tryz.ntmps73
    go_wp2_with fail
    with_reducible refine (HA'.out _).mono ?_
    rintro e w3 ⟨v3, rfl, hr3, hb3⟩
    obtain ⟨q0, qA, qn, qc, q1, q2, qB, qm, qd, rfl⟩ := hr3.agg9
    have hbA : Below w3.heap.size w3 (w3.alloc (.cells #[.int .i64 q0, .slice qA qn qc, .int .i64 q1, .int .i64 q2, .slice qB qm qd] 25)) := bnew (Below.refl _ w3) _
    have hsz3 := hb3.size
    have B4 := hide ((hb3.mono hs1).trans (hbA.mono (by omega)))
    have hfv := five_new w3 (.int .i64 q0) (.slice qA qn qc) (.int .i64 q1) (.int .i64 q2) (.slice qB qm qd) 25
    have R4 := hide ((hr3.kept hbA).map (fun _ _ _ => rfl) fun g hg _ => Nat.le_trans hs1 hg : RxV (w3.alloc (.cells #[.int .i64 q0, .slice qA qn qc, .int .i64 q1, .int .i64 q2, .slice qB qm qd] 25)) (fun g => w.heap.size + 1 ≤ g) (.agg #[.int .i64 q0, .slice qA qn qc, .int .i64 q1, .int .i64 q2, .slice qB qm qd]) _)
    obtain ⟨-, b0, b1, b2, b3, b4⟩ := hfv
    clear hr3 hb3 hbA
    have hm1 : decide ((-1 : Int) < 0) = true := rfl
    have hfx := HF0.out.at_ B4.out (Nat.lt_succ_self _)
    have HFx := hide hfx
    obtain ⟨⟨-, f1, f2, f3, f4, f5⟩, f6, f7, f8, f9, f10⟩ := hfx
    have HBx := hide (HB0.out.trans ((B4.out).mono (Nat.le_succ _)))
    go_wp2
    exact bodyPost_ret (res_two rfl _ _ w.heap.size _ _ _ _ _ _ rfl rfl (put5_five HFx.out (.int .i64 q0) (.slice qA qn qc) (.int .i64 q1) (.int .i64 q2) (.slice qB qm qd))) rfl ⟨_, by rw [HEn.out]; rfl, by rw [HEn.out]; exact put5_rxv R4.out (Nat.lt_succ_self _) _ (Nat.le_succ _), put5_below HBx.out (Nat.le_refl _)⟩
  | some p =>
    obtain ⟨x, r⟩ := p
    rw [hal] at hE HA
    dsimp only at hE
    obtain ⟨k1, hk1, hk2, rfl⟩ := off_of (by omega) ((parse_end n).1 _ _ _ hal)
    have HA' := hide (fun W => (HA.out W).mono fun _ _ h => gotP_some hk2 h)
    have l0 : decide ((k1 : Int) < 0) = false := decide_eq_false (by omega)
    have l0' : ¬ (k1 : Int) < 0 := by omega
    clear hal HA
    by_cases hk3 : k1 < s.size
    · have hd := drop_cons hk3
      have hg : decide ((k1 : Int) ≥ (s.size : Int)) = false := decide_eq_false (by omega)
      have hg' : (k1 : Int) < (s.size : Int) := by omega
      obtain ⟨c, hc⟩ : ∃ c, s[k1] = c := ⟨_, rfl⟩
      rw [hc] at hd
      have e42 : ((c.toNat : Int) == 42) = decide (c = 42) := u8_eq rfl
      have e43 : ((c.toNat : Int) == 43) = decide (c = 43) := u8_eq rfl
      have e63 : ((c.toNat : Int) == 63) = decide (c = 63) := u8_eq rfl
      have e123 : ((c.toNat : Int) == 123) = decide (c = 123) := u8_eq rfl
      have nx : ((k1 : Int) + 1 == (k1 : Int)) = false := beq_eq_false_iff_ne.2 (by omega)
      have ne1 : decide ((k1 : Int) + 1 < 0) = false := decide_eq_false (by omega)
      have ne1' : ¬ (k1 : Int) + 1 < 0 := by omega
      have Hd := hide hd
      rw [hd] at hE
      unfold suffixP at hE
      dsimp only at hE
      clear hd
      by_cases h42 : c = 42
      · rw [if_pos h42] at hE
        rw [decide_eq_true h42] at e42
        have HEn := hide hE.symm
        have Ho := hide (offO_at s (k1 + 1) (by omega) (repS x 0 (-1)))
        clear hE h42 e43 e63 e123
        go_enter Tryz.func73, Tryz.ntmps73
        go_wp2_with fail
        with_reducible refine (HA'.out _).mono ?_
        rintro e w3 ⟨v3, rfl, hr3, hb3⟩
        obtain ⟨q0, qA, qn, qc, q1, q2, qB, qm, qd, rfl⟩ := hr3.agg9
        have hbA : Below w3.heap.size w3 (w3.alloc (.cells #[.int .i64 q0, .slice qA qn qc, .int .i64 q1, .int .i64 q2, .slice qB qm qd] 25)) := bnew (Below.refl _ w3) _
        have hsz3 := hb3.size
        have B4 := hide ((hb3.mono hs1).trans (hbA.mono (by omega)))
        have hfv := five_new w3 (.int .i64 q0) (.slice qA qn qc) (.int .i64 q1) (.int .i64 q2) (.slice qB qm qd) 25
        have R4 := hide ((hr3.kept hbA).map (fun _ _ _ => rfl) fun g hg _ => Nat.le_trans hs1 hg : RxV (w3.alloc (.cells #[.int .i64 q0, .slice qA qn qc, .int .i64 q1, .int .i64 q2, .slice qB qm qd] 25)) (fun g => w.heap.size + 1 ≤ g) (.agg #[.int .i64 q0, .slice qA qn qc, .int .i64 q1, .int .i64 q2, .slice qB qm qd]) _)
        obtain ⟨-, b0, b1, b2, b3, b4⟩ := hfv
        clear hr3 hb3 hbA
        have hs4 : (w3.alloc (.cells #[.int .i64 q0, .slice qA qn qc, .int .i64 q1, .int .i64 q2, .slice qB qm qd] 25)).heap.size = w3.heap.size + 1 := by simp
        have hX := ownX_lit (w3.alloc (.cells #[.int .i64 q0, .slice qA qn qc, .int .i64 q1, .int .i64 q2, .slice qB qm qd] 25)) _ _ _ _ _ _ (w.heap.size + 1) (by omega) R4.out
        rw [hs4] at hX
        have R5 := hide (hX.rep 0 (-1) (by omega) (by omega))
        have B5 := hide (B4.out.trans ((Below.refl _ (w3.alloc (.cells #[.int .i64 q0, .slice qA qn qc, .int .i64 q1, .int .i64 q2, .slice qB qm qd] 25))).alloc (by omega) (.cells #[.int .i64 q0, .slice qA qn qc, .int .i64 q1, .int .i64 q2, .slice qB qm qd] 25)))
        clear hX hs4
        have hfx := HF0.out.at_ B5.out (Nat.lt_succ_self _)
        have HFx := hide hfx
        obtain ⟨⟨-, f1, f2, f3, f4, f5⟩, f6, f7, f8, f9, f10⟩ := hfx
        have HBx := hide (HB0.out.trans ((B5.out).mono (Nat.le_succ _)))
        go_wp2
        exact bodyPost_ret (res_two rfl _ _ w.heap.size _ _ _ _ _ _ rfl rfl (put5_five HFx.out (.int .i64 4) (.slice none 0 0) (.int .i64 0) (.int .i64 (-1)) (.slice (some ⟨w3.heap.size + 1, 0, none⟩) 1 1))) rfl ⟨_, by rw [HEn.out, Ho.out]; rfl, by rw [HEn.out]; exact put5_rxv R5.out (Nat.lt_succ_self _) _ (Nat.le_succ _), put5_below HBx.out (Nat.le_refl _)⟩
      rw [if_neg h42] at hE
      rw [decide_eq_false h42] at e42
      clear h42
      by_cases h43 : c = 43
      · rw [if_pos h43] at hE
        rw [decide_eq_true h43] at e43
        have HEn := hide hE.symm
        have Ho := hide (offO_at s (k1 + 1) (by omega) (repS x 1 (-1)))
        clear hE h43 e63 e123
        go_enter Tryz.func73, Tryz.ntmps73
        go_wp2_with fail
        with_reducible refine (HA'.out _).mono ?_
        rintro e w3 ⟨v3, rfl, hr3, hb3⟩
        obtain ⟨q0, qA, qn, qc, q1, q2, qB, qm, qd, rfl⟩ := hr3.agg9
        have hbA : Below w3.heap.size w3 (w3.alloc (.cells #[.int .i64 q0, .slice qA qn qc, .int .i64 q1, .int .i64 q2, .slice qB qm qd] 25)) := bnew (Below.refl _ w3) _
        have hsz3 := hb3.size
        have B4 := hide ((hb3.mono hs1).trans (hbA.mono (by omega)))
        have hfv := five_new w3 (.int .i64 q0) (.slice qA qn qc) (.int .i64 q1) (.int .i64 q2) (.slice qB qm qd) 25
        have R4 := hide ((hr3.kept hbA).map (fun _ _ _ => rfl) fun g hg _ => Nat.le_trans hs1 hg : RxV (w3.alloc (.cells #[.int .i64 q0, .slice qA qn qc, .int .i64 q1, .int .i64 q2, .slice qB qm qd] 25)) (fun g => w.heap.size + 1 ≤ g) (.agg #[.int .i64 q0, .slice qA qn qc, .int .i64 q1, .int .i64 q2, .slice qB qm qd]) _)
        obtain ⟨-, b0, b1, b2, b3, b4⟩ := hfv
        clear hr3 hb3 hbA
        have hs4 : (w3.alloc (.cells #[.int .i64 q0, .slice qA qn qc, .int .i64 q1, .int .i64 q2, .slice qB qm qd] 25)).heap.size = w3.heap.size + 1 := by simp
        have hX := ownX_lit (w3.alloc (.cells #[.int .i64 q0, .slice qA qn qc, .int .i64 q1, .int .i64 q2, .slice qB qm qd] 25)) _ _ _ _ _ _ (w.heap.size + 1) (by omega) R4.out
        rw [hs4] at hX
        have R5 := hide (hX.rep 1 (-1) (by omega) (by omega))
        have B5 := hide (B4.out.trans ((Below.refl _ (w3.alloc (.cells #[.int .i64 q0, .slice qA qn qc, .int .i64 q1, .int .i64 q2, .slice qB qm qd] 25))).alloc (by omega) (.cells #[.int .i64 q0, .slice qA qn qc, .int .i64 q1, .int .i64 q2, .slice qB qm qd] 25)))
        clear hX hs4
        have hfx := HF0.out.at_ B5.out (Nat.lt_succ_self _)
        have HFx := hide hfx
        obtain ⟨⟨-, f1, f2, f3, f4, f5⟩, f6, f7, f8, f9, f10⟩ := hfx
        have HBx := hide (HB0.out.trans ((B5.out).mono (Nat.le_succ _)))
        go_wp2
        exact bodyPost_ret (res_two rfl _ _ w.heap.size _ _ _ _ _ _ rfl rfl (put5_five HFx.out (.int .i64 4) (.slice none 0 0) (.int .i64 1) (.int .i64 (-1)) (.slice (some ⟨w3.heap.size + 1, 0, none⟩) 1 1))) rfl ⟨_, by rw [HEn.out, Ho.out]; rfl, by rw [HEn.out]; exact put5_rxv R5.out (Nat.lt_succ_self _) _ (Nat.le_succ _), put5_below HBx.out (Nat.le_refl _)⟩
      rw [if_neg h43] at hE
      rw [decide_eq_false h43] at e43
      clear h43
      by_cases h63 : c = 63
      · rw [if_pos h63] at hE
        rw [decide_eq_true h63] at e63
        have HEn := hide hE.symm
        have Ho := hide (offO_at s (k1 + 1) (by omega) (repS x 0 1))
        clear hE h63 e123
        go_enter Tryz.func73, Tryz.ntmps73
        go_wp2_with fail
        with_reducible refine (HA'.out _).mono ?_
        rintro e w3 ⟨v3, rfl, hr3, hb3⟩
        obtain ⟨q0, qA, qn, qc, q1, q2, qB, qm, qd, rfl⟩ := hr3.agg9
        have hbA : Below w3.heap.size w3 (w3.alloc (.cells #[.int .i64 q0, .slice qA qn qc, .int .i64 q1, .int .i64 q2, .slice qB qm qd] 25)) := bnew (Below.refl _ w3) _
        have hsz3 := hb3.size
        have B4 := hide ((hb3.mono hs1).trans (hbA.mono (by omega)))
        have hfv := five_new w3 (.int .i64 q0) (.slice qA qn qc) (.int .i64 q1) (.int .i64 q2) (.slice qB qm qd) 25
        have R4 := hide ((hr3.kept hbA).map (fun _ _ _ => rfl) fun g hg _ => Nat.le_trans hs1 hg : RxV (w3.alloc (.cells #[.int .i64 q0, .slice qA qn qc, .int .i64 q1, .int .i64 q2, .slice qB qm qd] 25)) (fun g => w.heap.size + 1 ≤ g) (.agg #[.int .i64 q0, .slice qA qn qc, .int .i64 q1, .int .i64 q2, .slice qB qm qd]) _)
        obtain ⟨-, b0, b1, b2, b3, b4⟩ := hfv
        clear hr3 hb3 hbA
        have hs4 : (w3.alloc (.cells #[.int .i64 q0, .slice qA qn qc, .int .i64 q1, .int .i64 q2, .slice qB qm qd] 25)).heap.size = w3.heap.size + 1 := by simp
        have hX := ownX_lit (w3.alloc (.cells #[.int .i64 q0, .slice qA qn qc, .int .i64 q1, .int .i64 q2, .slice qB qm qd] 25)) _ _ _ _ _ _ (w.heap.size + 1) (by omega) R4.out
        rw [hs4] at hX
        have R5 := hide (hX.rep 0 1 (by omega) (by omega))
        have B5 := hide (B4.out.trans ((Below.refl _ (w3.alloc (.cells #[.int .i64 q0, .slice qA qn qc, .int .i64 q1, .int .i64 q2, .slice qB qm qd] 25))).alloc (by omega) (.cells #[.int .i64 q0, .slice qA qn qc, .int .i64 q1, .int .i64 q2, .slice qB qm qd] 25)))
        clear hX hs4
        have hfx := HF0.out.at_ B5.out (Nat.lt_succ_self _)
        have HFx := hide hfx
        obtain ⟨⟨-, f1, f2, f3, f4, f5⟩, f6, f7, f8, f9, f10⟩ := hfx
        have HBx := hide (HB0.out.trans ((B5.out).mono (Nat.le_succ _)))
        go_wp2
        exact bodyPost_ret (res_two rfl _ _ w.heap.size _ _ _ _ _ _ rfl rfl (put5_five HFx.out (.int .i64 4) (.slice none 0 0) (.int .i64 0) (.int .i64 1) (.slice (some ⟨w3.heap.size + 1, 0, none⟩) 1 1))) rfl ⟨_, by rw [HEn.out, Ho.out]; rfl, by rw [HEn.out]; exact put5_rxv R5.out (Nat.lt_succ_self _) _ (Nat.le_succ _), put5_below HBx.out (Nat.le_refl _)⟩
      rw [if_neg h63] at hE
      rw [decide_eq_false h63] at e63
      clear h63
      by_cases h123 : c = 123
      · rw [if_pos h123] at hE
        rw [decide_eq_true h123] at e123
        clear h123
        cases hbd : boundsS (s.data.toList.drop (k1 + 1)) with
        | none =>
          rw [hbd] at hE
          have HEn := hide hE.symm
          have HBd := hide (bounds92 s k1 hk3 (by omega) 0 0 (-1) (by rw [hbd]; rfl))
          have nx1 : ((-1 : Int) == (k1 : Int)) = false := beq_eq_false_iff_ne.2 (by omega)
          have hm1 : decide ((-1 : Int) < 0) = true := rfl
          clear hE hbd
          go_enter Tryz.func73, Tryz.ntmps73
          go_wp2_with fail
          with_reducible refine (HA'.out _).mono ?_
          rintro e w3 ⟨v3, rfl, hr3, hb3⟩
          obtain ⟨q0, qA, qn, qc, q1, q2, qB, qm, qd, rfl⟩ := hr3.agg9
          have hbA : Below w3.heap.size w3 (w3.alloc (.cells #[.int .i64 q0, .slice qA qn qc, .int .i64 q1, .int .i64 q2, .slice qB qm qd] 25)) := bnew (Below.refl _ w3) _
          have hsz3 := hb3.size
          have B4 := hide ((hb3.mono hs1).trans (hbA.mono (by omega)))
          have hfv := five_new w3 (.int .i64 q0) (.slice qA qn qc) (.int .i64 q1) (.int .i64 q2) (.slice qB qm qd) 25
          have R4 := hide ((hr3.kept hbA).map (fun _ _ _ => rfl) fun g hg _ => Nat.le_trans hs1 hg : RxV (w3.alloc (.cells #[.int .i64 q0, .slice qA qn qc, .int .i64 q1, .int .i64 q2, .slice qB qm qd] 25)) (fun g => w.heap.size + 1 ≤ g) (.agg #[.int .i64 q0, .slice qA qn qc, .int .i64 q1, .int .i64 q2, .slice qB qm qd]) _)
          obtain ⟨-, b0, b1, b2, b3, b4⟩ := hfv
          clear hr3 hb3 hbA
          go_wp2_with fail
          with_reducible refine (HBd.out _).mono ?_
          rintro e w9 ⟨rfl, rfl⟩
          have hfx := HF0.out.at_ B4.out (Nat.lt_succ_self _)
          have HFx := hide hfx
          obtain ⟨⟨-, f1, f2, f3, f4, f5⟩, f6, f7, f8, f9, f10⟩ := hfx
          have HBx := hide (HB0.out.trans ((B4.out).mono (Nat.le_succ _)))
          go_wp2
          exact bodyPost_ret (res_two rfl _ _ w.heap.size _ _ _ _ _ _ rfl rfl (put5_five HFx.out (.int .i64 0) (.slice none 0 0) (.int .i64 0) (.int .i64 0) (.slice none 0 0))) rfl ⟨_, by rw [HEn.out]; rfl, by rw [HEn.out]; exact rxv_zero, put5_below HBx.out (Nat.le_refl _)⟩
        | some p =>
          obtain ⟨m, m', r⟩ := p
          rw [hbd] at hE
          dsimp only at hE
          obtain ⟨k2, g1, g2, rfl, g3, g4, g5, g6⟩ := bounds_at (by omega) hbd
          have HEn := hide hE.symm
          have HBd := hide (bounds92 s k1 hk3 (by omega) m m' k2 (by rw [hbd]; exact bnd_some s m m' k2 g2))
          have Ho := hide (offO_at s k2 g2 (repS x m m'))
          have nx1 : ((k2 : Int) == (k1 : Int)) = false := beq_eq_false_iff_ne.2 (by omega)
          have ne2 : decide ((k2 : Int) < 0) = false := decide_eq_false (by omega)
          have ne2' : ¬ (k2 : Int) < 0 := by omega
          clear hE hbd
          go_enter Tryz.func73, Tryz.ntmps73
          go_wp2_with fail
          with_reducible refine (HA'.out _).mono ?_
          rintro e w3 ⟨v3, rfl, hr3, hb3⟩
          obtain ⟨q0, qA, qn, qc, q1, q2, qB, qm, qd, rfl⟩ := hr3.agg9
          have hbA : Below w3.heap.size w3 (w3.alloc (.cells #[.int .i64 q0, .slice qA qn qc, .int .i64 q1, .int .i64 q2, .slice qB qm qd] 25)) := bnew (Below.refl _ w3) _
          have hsz3 := hb3.size
          have B4 := hide ((hb3.mono hs1).trans (hbA.mono (by omega)))
          have hfv := five_new w3 (.int .i64 q0) (.slice qA qn qc) (.int .i64 q1) (.int .i64 q2) (.slice qB qm qd) 25
          have R4 := hide ((hr3.kept hbA).map (fun _ _ _ => rfl) fun g hg _ => Nat.le_trans hs1 hg : RxV (w3.alloc (.cells #[.int .i64 q0, .slice qA qn qc, .int .i64 q1, .int .i64 q2, .slice qB qm qd] 25)) (fun g => w.heap.size + 1 ≤ g) (.agg #[.int .i64 q0, .slice qA qn qc, .int .i64 q1, .int .i64 q2, .slice qB qm qd]) _)
          obtain ⟨-, b0, b1, b2, b3, b4⟩ := hfv
          clear hr3 hb3 hbA
          go_wp2_with fail
          with_reducible refine (HBd.out _).mono ?_
          rintro e w9 ⟨rfl, rfl⟩
          have hs4 : (w3.alloc (.cells #[.int .i64 q0, .slice qA qn qc, .int .i64 q1, .int .i64 q2, .slice qB qm qd] 25)).heap.size = w3.heap.size + 1 := by simp
          have hX := ownX_lit (w3.alloc (.cells #[.int .i64 q0, .slice qA qn qc, .int .i64 q1, .int .i64 q2, .slice qB qm qd] 25)) _ _ _ _ _ _ (w.heap.size + 1) (by omega) R4.out
          rw [hs4] at hX
          have R5 := hide (hX.rep m m' (by omega) (by omega))
          have B5 := hide (B4.out.trans ((Below.refl _ (w3.alloc (.cells #[.int .i64 q0, .slice qA qn qc, .int .i64 q1, .int .i64 q2, .slice qB qm qd] 25))).alloc (by omega) (.cells #[.int .i64 q0, .slice qA qn qc, .int .i64 q1, .int .i64 q2, .slice qB qm qd] 25)))
          clear hX hs4
          have hfx := HF0.out.at_ B5.out (Nat.lt_succ_self _)
          have HFx := hide hfx
          obtain ⟨⟨-, f1, f2, f3, f4, f5⟩, f6, f7, f8, f9, f10⟩ := hfx
          have HBx := hide (HB0.out.trans ((B5.out).mono (Nat.le_succ _)))
          go_wp2
          exact bodyPost_ret (res_two rfl _ _ w.heap.size _ _ _ _ _ _ rfl rfl (put5_five HFx.out (.int .i64 4) (.slice none 0 0) (.int .i64 m) (.int .i64 m') (.slice (some ⟨w3.heap.size + 1, 0, none⟩) 1 1))) rfl ⟨_, by rw [HEn.out, Ho.out]; rfl, by rw [HEn.out]; exact put5_rxv R5.out (Nat.lt_succ_self _) _ (Nat.le_succ _), put5_below HBx.out (Nat.le_refl _)⟩
      · rw [if_neg h123, ← Hd.out] at hE
        rw [decide_eq_false h123] at e123
        have HEn := hide hE.symm
        have Ho := hide (offO_at s k1 hk2 x)
        have nx1 : ((k1 : Int) == (k1 : Int)) = true := by simp
        clear hE h123
        go_enter Tryz.func73, Tryz.ntmps73
        go_wp2_with fail
        with_reducible refine (HA'.out _).mono ?_
        rintro e w3 ⟨v3, rfl, hr3, hb3⟩
        obtain ⟨q0, qA, qn, qc, q1, q2, qB, qm, qd, rfl⟩ := hr3.agg9
        have hbA : Below w3.heap.size w3 (w3.alloc (.cells #[.int .i64 q0, .slice qA qn qc, .int .i64 q1, .int .i64 q2, .slice qB qm qd] 25)) := bnew (Below.refl _ w3) _
        have hsz3 := hb3.size
        have B4 := hide ((hb3.mono hs1).trans (hbA.mono (by omega)))
        have hfv := five_new w3 (.int .i64 q0) (.slice qA qn qc) (.int .i64 q1) (.int .i64 q2) (.slice qB qm qd) 25
        have R4 := hide ((hr3.kept hbA).map (fun _ _ _ => rfl) fun g hg _ => Nat.le_trans hs1 hg : RxV (w3.alloc (.cells #[.int .i64 q0, .slice qA qn qc, .int .i64 q1, .int .i64 q2, .slice qB qm qd] 25)) (fun g => w.heap.size + 1 ≤ g) (.agg #[.int .i64 q0, .slice qA qn qc, .int .i64 q1, .int .i64 q2, .slice qB qm qd]) _)
        obtain ⟨-, b0, b1, b2, b3, b4⟩ := hfv
        clear hr3 hb3 hbA
        have hfx := HF0.out.at_ B4.out (Nat.lt_succ_self _)
        have HFx := hide hfx
        obtain ⟨⟨-, f1, f2, f3, f4, f5⟩, f6, f7, f8, f9, f10⟩ := hfx
        have HBx := hide (HB0.out.trans ((B4.out).mono (Nat.le_succ _)))
        go_wp2
        exact bodyPost_ret (res_two rfl _ _ w.heap.size _ _ _ _ _ _ rfl rfl (put5_five HFx.out (.int .i64 q0) (.slice qA qn qc) (.int .i64 q1) (.int .i64 q2) (.slice qB qm qd))) rfl ⟨_, by rw [HEn.out, Ho.out]; rfl, by rw [HEn.out]; exact put5_rxv R4.out (Nat.lt_succ_self _) _ (Nat.le_succ _), put5_below HBx.out (Nat.le_refl _)⟩
    · rw [suffixP_none (by omega)] at hE
      have HEn := hide hE.symm
      have Ho := hide (offO_at s k1 hk2 x)
      have hg : decide ((k1 : Int) ≥ (s.size : Int)) = true := decide_eq_true (by omega)
      clear hE
      go_enter Tryz.func73, Tryz.ntmps73
      go_wp2_with fail
      with_reducible refine (HA'.out _).mono ?_
      rintro e w3 ⟨v3, rfl, hr3, hb3⟩
      obtain ⟨q0, qA, qn, qc, q1, q2, qB, qm, qd, rfl⟩ := hr3.agg9
      have hbA : Below w3.heap.size w3 (w3.alloc (.cells #[.int .i64 q0, .slice qA qn qc, .int .i64 q1, .int .i64 q2, .slice qB qm qd] 25)) := bnew (Below.refl _ w3) _
      have hsz3 := hb3.size
      have B4 := hide ((hb3.mono hs1).trans (hbA.mono (by omega)))
      have hfv := five_new w3 (.int .i64 q0) (.slice qA qn qc) (.int .i64 q1) (.int .i64 q2) (.slice qB qm qd) 25
      have R4 := hide ((hr3.kept hbA).map (fun _ _ _ => rfl) fun g hg _ => Nat.le_trans hs1 hg : RxV (w3.alloc (.cells #[.int .i64 q0, .slice qA qn qc, .int .i64 q1, .int .i64 q2, .slice qB qm qd] 25)) (fun g => w.heap.size + 1 ≤ g) (.agg #[.int .i64 q0, .slice qA qn qc, .int .i64 q1, .int .i64 q2, .slice qB qm qd]) _)
      obtain ⟨-, b0, b1, b2, b3, b4⟩ := hfv
      clear hr3 hb3 hbA
      have hfx := HF0.out.at_ B4.out (Nat.lt_succ_self _)
      have HFx := hide hfx
      obtain ⟨⟨-, f1, f2, f3, f4, f5⟩, f6, f7, f8, f9, f10⟩ := hfx
      have HBx := hide (HB0.out.trans ((B4.out).mono (Nat.le_succ _)))
      go_wp2
      exact bodyPost_ret (res_two rfl _ _ w.heap.size _ _ _ _ _ _ rfl rfl (put5_five HFx.out (.int .i64 q0) (.slice qA qn qc) (.int .i64 q1) (.int .i64 q2) (.slice qB qm qd))) rfl ⟨_, by rw [HEn.out, Ho.out]; rfl, by rw [HEn.out]; exact put5_rxv R4.out (Nat.lt_succ_self _) _ (Nat.le_succ _), put5_below HBx.out (Nat.le_refl _)⟩

end Go.Proofs.YtmiegjefmebpdaaGreatDoor
