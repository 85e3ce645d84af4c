/- Walk of layer 8's reference: the bounds of a repetition. -/
import Derived.Test.YtmiegjefmebpdaaGreatDoorKK
namespace Go.Proofs.YtmiegjefmebpdaaGreatDoor
open Go.RowKit

theorem val_bound (l : List UInt8) : ∀ j, j ≤ digN l → 0 ≤ valN (l.take j) ∧ valN (l.take j) < 10 ^ j
  | 0, _ => by simp [valN]
  | j + 1, h => by
    obtain ⟨h1, h2⟩ := val_bound l j (by omega)
    obtain ⟨_, c, hc, hd⟩ := (dig_next (l := l) (j := j) (by omega)).1 (by omega)
    have hdig : 48 ≤ c.toNat ∧ c.toNat ≤ 57 := by
      unfold isDig at hd
      simp only [Bool.and_eq_true, decide_eq_true_eq, UInt8.le_iff_toNat_le] at hd
      exact hd
    rw [val_take hc, Int.pow_succ]
    omega
theorem dig_len (l : List UInt8) : digN l ≤ l.length := by
  unfold digN
  have h1 : (List.takeWhile isDig (List.take 4 l)).length ≤ (List.take 4 l).length := (List.takeWhile_sublist _).length_le
  rw [List.length_take] at h1
  omega
theorem number_at {s : ByteArray} {k : Nat} {n : Int} {r : List UInt8} (hk : k ≤ s.size) (h : numberS (s.data.toList.drop k) = some (n, r)) : ∃ k', k < k' ∧ k' ≤ s.size ∧ r = s.data.toList.drop k' ∧ numO s (s.data.toList.drop k) = (n, (k' : Int)) ∧ 0 ≤ n ∧ n ≤ 999 := by
  have hn : numO s (s.data.toList.drop k) = (n, (s.size : Int) - r.length) := by unfold numO; rw [h]
  rw [hn]
  unfold numberS at h
  split at h
  · cases h
  · rename_i hc
    have hdl := dig_len (s.data.toList.drop k)
    have hdd := drop_len s k
    obtain ⟨h1, h2⟩ := val_bound (s.data.toList.drop k) (digN (s.data.toList.drop k)) (Nat.le_refl _)
    obtain ⟨D, hD⟩ : ∃ D, digN (s.data.toList.drop k) = D := ⟨_, rfl⟩
    rw [hD] at h h1 h2 hc hdl
    cases h
    have hd : D ≠ 0 ∧ ¬ 3 < D := ⟨fun e => hc (Or.inl e), fun e => hc (Or.inr (Or.inl e))⟩
    have hp : (10 : Int) ^ D ≤ 1000 := by
      have : D = 1 ∨ D = 2 ∨ D = 3 := by omega
      rcases this with rfl | rfl | rfl <;> decide
    refine ⟨k + D, by omega, by omega, by rw [List.drop_drop], ?_, h1, by omega⟩
    rw [List.drop_drop, drop_len]
    congr 1
    omega
theorem number_none {s : ByteArray} {k : Nat} (h : numberS (s.data.toList.drop k) = none) : numO s (s.data.toList.drop k) = (0, -1) := by unfold numO; rw [h]
theorem number54n (s : ByteArray) (k : Nat) (hk : k + 1 ≤ s.size) (hs : s.size ≤ 100000) (a b : Int) (h : numO s (s.data.toList.drop (k + 1)) = (a, b)) (w : World) :
    Calls Tryz.prog 107 #[.string s, .int .i64 ((k : Int) + 1)] w fun e w' => e = .returned (.tuple #[.int .i64 a, .int .i64 b]) ∧ w = w' := by
  have := number107 s (k + 1) hk hs w
  rw [h] at this
  exact this
/-- What bounds returns. -/
def bndO (s : ByteArray) (o : Option (Int × Int × List UInt8)) : Int × Int × Int := match o with | none => (0, 0, -1) | some p => (p.1, p.2.1, (s.size : Int) - p.2.2.length)
theorem bnd_some (s : ByteArray) (a b : Int) (k : Nat) (h : k ≤ s.size) : bndO s (some (a, b, s.data.toList.drop k)) = (a, b, (k : Int)) := by
  show (a, b, (s.size : Int) - ((s.data.toList.drop k).length : Nat)) = _
  rw [drop_len]
  congr 2
  omega
theorem bounds_at {s : ByteArray} {k : Nat} {a b : Int} {r : List UInt8} (hk : k ≤ s.size) (h : boundsS (s.data.toList.drop k) = some (a, b, r)) : ∃ k', k < k' ∧ k' ≤ s.size ∧ r = s.data.toList.drop k' ∧ 0 ≤ a ∧ a ≤ 999 ∧ -1 ≤ b ∧ b ≤ 999 := by
  unfold boundsS at h
  cases hn : numberS (s.data.toList.drop k) with
  | none => rw [hn] at h; cases h
  | some p =>
    obtain ⟨m, q⟩ := p
    rw [hn] at h
    obtain ⟨k1, h1, h2, rfl, -, h3, h4⟩ := number_at hk hn
    dsimp only at h
    by_cases hk1 : k1 < s.size
    · rw [drop_cons hk1] at h
      dsimp only at h
      split at h
      · cases h
        exact ⟨k1 + 1, by omega, by omega, rfl, h3, h4, by omega, h4⟩
      · split at h
        · by_cases hk2 : k1 + 1 < s.size
          · rw [drop_cons hk2] at h
            dsimp only at h
            split at h
            · cases h
              exact ⟨k1 + 1 + 1, by omega, by omega, rfl, h3, h4, by omega, by omega⟩
            · rw [← drop_cons hk2] at h
              cases hn2 : numberS (s.data.toList.drop (k1 + 1)) with
              | none => rw [hn2] at h; cases h
              | some p =>
                obtain ⟨n, q2⟩ := p
                rw [hn2] at h
                obtain ⟨k2, g1, g2, rfl, -, g3, g4⟩ := number_at (by omega) hn2
                dsimp only at h
                by_cases hk3 : k2 < s.size
                · rw [drop_cons hk3] at h
                  dsimp only at h
                  split at h
                  · cases h
                    exact ⟨k2 + 1, by omega, by omega, rfl, h3, h4, by omega, g4⟩
                  · cases h
                · rw [drop_end (by omega)] at h
                  cases h
          · rw [drop_end (by omega)] at h
            cases h
        · cases h
    · rw [drop_end (by omega)] at h
      cases h
theorem u8_ne {x n : UInt8} {z : Int} (hz : (n.toNat : Int) = z) : ((x.toNat : Int) != z) = !decide (x = n) := by rw [bne, u8_eq hz]

set_option maxRecDepth 20000 in
set_option maxHeartbeats 3200000 in
theorem bounds92 (s : ByteArray) (k : Nat) (hk : k < s.size) (hs : s.size ≤ 100000) (a b z : Int) (hR : bndO s (boundsS (s.data.toList.drop (k + 1))) = (a, b, z)) (w : World) :
    Calls Tryz.prog 92 #[.string s, .int .i64 (k : Int)] w fun e w' => e = .returned (.tuple #[.int .i64 a, .int .i64 b, .int .i64 z]) ∧ w = w' := by
  unfold boundsS at hR
  cases hn : numberS (s.data.toList.drop (k + 1)) with
  | none =>
    rw [hn] at hR
    have hN := number54n s k (by omega) hs 0 (-1) (number_none hn)
    have HN := hide hN
    cases hR
    clear hn hN
    go_enter Tryz.func92, Tryz.ntmps92
    go_wp2_with fail
    with_reducible refine (HN.out _).mono ?_
    rintro e w1 ⟨rfl, rfl⟩
    go_wp2
    go_ret3
    exact ⟨rfl, rfl⟩
  | some p =>
    obtain ⟨m, q⟩ := p
    rw [hn] at hR
    obtain ⟨k1, h1, h2, rfl, hno, h3, h4⟩ := number_at (by omega) hn
    have HN := hide (number54n s k (by omega) hs m k1 hno)
    have l0 : decide ((k1 : Int) < 0) = false := decide_eq_false (by omega)
    have l0' : ¬ (k1 : Int) < 0 := by omega
    dsimp only at hR
    by_cases hk1 : k1 < s.size
    · have hd1 := drop_cons hk1
      have hg1 : decide ((k1 : Int) ≥ (s.size : Int)) = false := decide_eq_false (by omega)
      have hg1' : (k1 : Int) < (s.size : Int) := by omega
      rw [hd1] at hR
      dsimp only at hR
      obtain ⟨c, hc⟩ : ∃ c, s[k1] = c := ⟨_, rfl⟩
      rw [hc] at hR
      have e125 : ((c.toNat : Int) == 125) = decide (c = 125) := u8_eq rfl
      have e44 : ((c.toNat : Int) != 44) = !decide (c = 44) := u8_ne rfl
      by_cases h125 : c = 125
      · rw [if_pos h125, bnd_some s m m (k1 + 1) (by omega)] at hR
        rw [decide_eq_true h125] at e125
        have ha : a = m ∧ b = m ∧ z = (k1 : Int) + 1 := by injection hR with e1 e2; injection e2 with e2 e3; exact ⟨e1.symm, e2.symm, by omega⟩
        obtain ⟨rfl, rfl, rfl⟩ := ha
        clear hR hn hno hd1 h125 e44
        go_enter Tryz.func92, Tryz.ntmps92
        go_wp2_with fail
        with_reducible refine (HN.out _).mono ?_
        rintro e w1 ⟨rfl, rfl⟩
        go_wp2
        go_ret3
        exact ⟨rfl, rfl⟩
      · rw [if_neg h125] at hR
        rw [decide_eq_false h125] at e125
        by_cases h44 : c = 44
        · rw [if_pos h44] at hR
          rw [decide_eq_true h44] at e44
          by_cases hk2 : k1 + 1 < s.size
          · have hd2 := drop_cons hk2
            have hg2 : decide ((k1 : Int) + 1 ≥ (s.size : Int)) = false := decide_eq_false (by omega)
            have hg2' : (k1 : Int) + 1 < (s.size : Int) := by omega
            rw [hd2] at hR
            dsimp only at hR
            rw [← hd2] at hR
            obtain ⟨d, hdd⟩ : ∃ d, s[k1 + 1] = d := ⟨_, rfl⟩
            rw [hdd] at hR
            have d125 : ((d.toNat : Int) == 125) = decide (d = 125) := u8_eq rfl
            by_cases hd125 : d = 125
            · rw [if_pos hd125, bnd_some s m (-1) (k1 + 1 + 1) (by omega)] at hR
              rw [decide_eq_true hd125] at d125
              have ha : a = m ∧ b = -1 ∧ z = (k1 : Int) + 2 := by injection hR with e1 e2; injection e2 with e2 e3; exact ⟨e1.symm, e2.symm, by omega⟩
              obtain ⟨rfl, rfl, rfl⟩ := ha
              clear hR hn hno hd1 hd2 h125 h44 hd125
              go_enter Tryz.func92, Tryz.ntmps92
              go_wp2_with fail
              with_reducible refine (HN.out _).mono ?_
              rintro e w1 ⟨rfl, rfl⟩
              go_wp2
              go_ret3
              exact ⟨rfl, rfl⟩
            · rw [if_neg hd125] at hR
              rw [decide_eq_false hd125] at d125
              cases hn2 : numberS (s.data.toList.drop (k1 + 1)) with
              | none =>
                rw [hn2] at hR
                have HN2 := hide (number54n s k1 (by omega) hs 0 (-1) (number_none hn2))
                cases hR
                clear hn hno hd1 hd2 h125 h44 hd125 hn2
                go_enter Tryz.func92, Tryz.ntmps92
                go_wp2_with fail
                with_reducible refine (HN.out _).mono ?_
                rintro e w1 ⟨rfl, rfl⟩
                go_wp2_with fail
                with_reducible refine (HN2.out _).mono ?_
                rintro e w1 ⟨rfl, rfl⟩
                go_wp2
                go_ret3
                exact ⟨rfl, rfl⟩
              | some p =>
                obtain ⟨n, q2⟩ := p
                rw [hn2] at hR
                obtain ⟨k2, g1, g2, rfl, gno, g3, g4⟩ := number_at (by omega) hn2
                have HN2 := hide (number54n s k1 (by omega) hs n k2 gno)
                have l2 : decide ((k2 : Int) < 0) = false := decide_eq_false (by omega)
                have l2' : ¬ (k2 : Int) < 0 := by omega
                dsimp only at hR
                by_cases hk3 : k2 < s.size
                · have hd3 := drop_cons hk3
                  have hg3 : decide ((k2 : Int) ≥ (s.size : Int)) = false := decide_eq_false (by omega)
                  have hg3' : (k2 : Int) < (s.size : Int) := by omega
                  rw [hd3] at hR
                  dsimp only at hR
                  obtain ⟨f, hff⟩ : ∃ f, s[k2] = f := ⟨_, rfl⟩
                  rw [hff] at hR
                  have f125 : ((f.toNat : Int) != 125) = !decide (f = 125) := u8_ne rfl
                  by_cases hf125 : f = 125
                  · rw [if_pos hf125, bnd_some s m n (k2 + 1) (by omega)] at hR
                    rw [decide_eq_true hf125] at f125
                    have ha : a = m ∧ b = n ∧ z = (k2 : Int) + 1 := by injection hR with e1 e2; injection e2 with e2 e3; exact ⟨e1.symm, e2.symm, by omega⟩
                    obtain ⟨rfl, rfl, rfl⟩ := ha
                    clear hR hn hno hd1 hd2 h125 h44 hd125 hn2 gno hd3 hf125
                    go_enter Tryz.func92, Tryz.ntmps92
                    go_wp2_with fail
                    with_reducible refine (HN.out _).mono ?_
                    rintro e w1 ⟨rfl, rfl⟩
                    go_wp2_with fail
                    with_reducible refine (HN2.out _).mono ?_
                    rintro e w1 ⟨rfl, rfl⟩
                    go_wp2
                    go_ret3
                    exact ⟨rfl, rfl⟩
                  · rw [if_neg hf125] at hR
                    rw [decide_eq_false hf125] at f125
                    cases hR
                    clear hn hno hd1 hd2 h125 h44 hd125 hn2 gno hd3 hf125
                    go_enter Tryz.func92, Tryz.ntmps92
                    go_wp2_with fail
                    with_reducible refine (HN.out _).mono ?_
                    rintro e w1 ⟨rfl, rfl⟩
                    go_wp2_with fail
                    with_reducible refine (HN2.out _).mono ?_
                    rintro e w1 ⟨rfl, rfl⟩
                    go_wp2
                    go_ret3
                    exact ⟨rfl, rfl⟩
                · rw [drop_end (s := s) (k := k2) (by omega)] at hR
                  have hg3 : decide ((k2 : Int) ≥ (s.size : Int)) = true := decide_eq_true (by omega)
                  cases hR
                  clear hn hno hd1 hd2 h125 h44 hd125 hn2 gno
                  go_enter Tryz.func92, Tryz.ntmps92
                  go_wp2_with fail
                  with_reducible refine (HN.out _).mono ?_
                  rintro e w1 ⟨rfl, rfl⟩
                  go_wp2_with fail
                  with_reducible refine (HN2.out _).mono ?_
                  rintro e w1 ⟨rfl, rfl⟩
                  go_wp2
                  go_ret3
                  exact ⟨rfl, rfl⟩
          · rw [drop_end (s := s) (k := k1 + 1) (by omega)] at hR
            have hg2 : decide ((k1 : Int) + 1 ≥ (s.size : Int)) = true := decide_eq_true (by omega)
            cases hR
            clear hn hno hd1 h125 h44
            go_enter Tryz.func92, Tryz.ntmps92
            go_wp2_with fail
            with_reducible refine (HN.out _).mono ?_
            rintro e w1 ⟨rfl, rfl⟩
            go_wp2
            go_ret3
            exact ⟨rfl, rfl⟩
        · rw [if_neg h44] at hR
          rw [decide_eq_false h44] at e44
          cases hR
          clear hn hno hd1 h125 h44
          go_enter Tryz.func92, Tryz.ntmps92
          go_wp2_with fail
          with_reducible refine (HN.out _).mono ?_
          rintro e w1 ⟨rfl, rfl⟩
          go_wp2
          go_ret3
          exact ⟨rfl, rfl⟩
    · rw [drop_end (s := s) (k := k1) (by omega)] at hR
      have hg1 : decide ((k1 : Int) ≥ (s.size : Int)) = true := decide_eq_true (by omega)
      cases hR
      clear hn hno
      go_enter Tryz.func92, Tryz.ntmps92
      go_wp2_with fail
      with_reducible refine (HN.out _).mono ?_
      rintro e w1 ⟨rfl, rfl⟩
      go_wp2
      go_ret3
      exact ⟨rfl, rfl⟩

end Go.Proofs.YtmiegjefmebpdaaGreatDoor
