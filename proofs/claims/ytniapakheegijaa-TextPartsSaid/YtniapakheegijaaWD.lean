/- Excerpt of the reference. -/
import Derived.Test.YtniapakheegijaaWC
namespace Go.Proofs.Ytniapakheegijaa
open Go.RowKit

theorem line40' (s : ByteArray) (oi : Int) (off a : Nat) (w : World) (hs : s.size ≤ 100000) (ho : off ≤ s.size) (hi : oi = off) (ha : lineNo s.data.toList off = a) :
    Calls Try.prog 40 #[.string s, .int .i64 oi] w fun e w' => e = .returned (.int .i64 (a : Nat)) ∧ w = w' := by
  subst hi ha
  exact line40 s off w hs ho

theorem lines18' (s : ByteArray) (L : Nat) (hL : (starts s.data.toList s.size).length = L) (w : World) (hs : s.size ≤ 100000) :
    Calls Try.prog 18 #[.string s] w fun e w' => (∃ ao cap, e = .returned (.slice ao L cap) ∧ RdS w' ao L cap 1 (strs s s.size)) ∧ Below w.heap.size w w' := by
  subst hL
  refine (lines18 s w hs).mono ?_
  rintro e w1 ⟨⟨v, rfl, hown⟩, hb⟩
  obtain ⟨ao, cap, rfl, h⟩ := (Rd.of_owns hown).s
  exact ⟨⟨ao, cap, rfl, h⟩, hb⟩

theorem strs_get (s : ByteArray) (k : Nat) (x : Value) (h : (strs s s.size)[k]? = some x) : ∃ t : ByteArray, x = .string t ∧ t.data.toList = lb s k := by
  unfold strs at h
  rw [List.getElem?_map] at h
  cases hl : (starts s.data.toList s.size)[k]? with
  | none => rw [hl] at h; simp at h
  | some a =>
    rw [hl] at h
    simp at h
    refine ⟨lineStr s a, h.symm, ?_⟩
    unfold lb
    rw [List.getD_eq_getElem?_getD, hl]
    rfl

theorem add_mk (l : List UInt8) (t : ByteArray) (m : List UInt8) (h : t.data.toList = m) : mk l ++ t ++ ⟨#[10]⟩ = mk (l ++ m ++ [10]) := by
  subst h
  apply ByteArray.ext
  simp [mk]

set_option maxHeartbeats 1600000 in
theorem exc30 (s : ByteArray) (p q a b : Nat) (ar : Int) (w : World) (hs : s.size ≤ 2100) (h0 : 0 < s.size) (hpq : p ≤ q) (hq : q ≤ s.size) (har : 0 ≤ ar) (L : Nat) (hL : (starts s.data.toList s.size).length = L)
    (ha : lineNo s.data.toList (min p (s.size - 1)) = a) (hb : lineNo s.data.toList (min (max p (q - 1)) (s.size - 1)) = b) (hab : a ≤ b) (hbL : b < L) :
    Calls Try.prog 30 #[.string s, .agg #[.int .i64 p, .int .i64 q], .int .i64 ar] w fun e w' => e = .returned (.string (mk (outN s a b ar L))) ∧ Below w.heap.size w w' := by
  have hL2 : L ≤ 2100 := by rw [← hL]; exact Nat.le_trans (upto_len _ _) hs
  have HL := hide hL
  have Ha := hide ha
  have Hb := hide hb
  clear hL ha hb
  have hz : ((s.size : Int) == 0) = false := beq_eq_false_iff_ne.2 (by omega)
  rcases (show p < q ∨ (p = q ∧ p < s.size) ∨ (p = q ∧ s.size ≤ p) by omega) with h1 | ⟨rfl, h1⟩ | ⟨rfl, h1⟩
  · have hne : ((p : Int) == (q : Int)) = false := by simp; omega
    go_enter Try.func30, Try.ntmps30
    go_wp2_with fail
    refine (line40' s _ (p) a _ (by omega) (by omega) (by omega) (by have := Ha.out; rwa [show min p (s.size - 1) = p by omega] at this)).mono ?_
    rintro e w' ⟨rfl, rfl⟩
    go_wp2_with fail
    refine (line40' s _ (q - 1) b _ (by omega) (by omega) (by omega) (by have := Hb.out; rwa [show min (max p (q - 1)) (s.size - 1) = q - 1 by omega] at this)).mono ?_
    rintro e w' ⟨rfl, rfl⟩
    have hL3 := HL.out
    go_wp2_with fail
    refine (lines18' s L HL.out _ (by omega)).mono ?_
    rintro e w1 ⟨⟨ao, cap, rfl, hrd⟩, hb1⟩
    have hbw : Below w.heap.size w w1 := ((Below.refl _ _).alloc (Nat.le_refl _) _).trans (hb1.mono (by simp))
    have Hbw := hide hbw
    clear hb1 hbw hL3
    go_wp2
    go_loopw [12, 13] (fun o i wr => ∃ k : Nat, k ≤ L ∧ i = .int .i64 k ∧ o = .string (mk (outN s a b ar k)) ∧ wr = w1) (fun _ i _ => L - (intOf i).toNat)
    case atStart => exact ⟨0, Nat.zero_le _, rfl, by rw [outN_zero]; rfl, rfl⟩
    case round =>
      obtain ⟨k, hk, rfl, rfl, rfl⟩ := hrel
      have hsm := outN_small s a b ar k hs (by omega)
      by_cases hlt : k < L
      · obtain ⟨g, rfl, x, hx, hcx⟩ := hrd.at hlt
        obtain ⟨t, rfl, ht⟩ := strs_get s k x hx
        have hts : t.size ≤ 2100 := by
          have h1 := congrArg List.length ht
          have h2 := lb_len s k
          rw [size_list] at h1
          omega
        have Ht := hide ht
        have hms : (mk (outN s a b ar k)).size ≤ 4412100 := hsm
        generalize hog : mk (outN s a b ar k) = og at hms
        have Hog := hide hog
        clear hx ht hsm hog
        rcases (show (k < a ∧ ar < (a : Int) - k) ∨ (k < a ∧ (a : Int) - k ≤ ar) ∨ (a ≤ k ∧ k ≤ b) ∨ (b < k ∧ ar < (k : Int) - b) ∨ (b < k ∧ (k : Int) - b ≤ ar) by omega) with ⟨g1, g2⟩ | ⟨g1, g2⟩ | ⟨g1, g2⟩ | ⟨g1, g2⟩ | ⟨g1, g2⟩
        · have d0 : decide (k < a) = true := by simp; omega
          have d1 : decide (ar < (a : Int) - k) = true := by simp; omega
          have d2 : decide (b < k) = false := by simp; omega
          have hkp : keep a b ar k = false := by simp [keep]; omega
          have hnx := outN_no s a b ar k hkp
          have Hnx := hide hnx
          clear hkp hnx
          go_wp2
          go_roundw
          case rel => exact ⟨k + 1, by omega, by go_num, by rw [Hnx.out, Hog.out], trivial⟩
          case measure => simp [intOf]; omega
        · have d0 : decide (k < a) = true := by simp; omega
          have d1 : decide (ar < (a : Int) - k) = false := by simp; omega
          have d2 : decide (b < k) = false := by simp; omega
          have hkp : keep a b ar k = true := by simp [keep]; omega
          have hnx := outN_yes s a b ar k hkp
          have Hnx := hide hnx
          clear hkp hnx
          go_wp2
          go_roundw
          case rel => exact ⟨k + 1, by omega, by go_num, by rw [Hnx.out, ← Hog.out]; exact congrArg Value.string (add_mk _ _ _ Ht.out), trivial⟩
          case measure => simp [intOf]; omega
        · have d0 : decide (k < a) = false := by simp; omega
          have d2 : decide (b < k) = false := by simp; omega
          have hkp : keep a b ar k = true := by simp [keep]; omega
          have hnx := outN_yes s a b ar k hkp
          have Hnx := hide hnx
          clear hkp hnx
          go_wp2
          go_roundw
          case rel => exact ⟨k + 1, by omega, by go_num, by rw [Hnx.out, ← Hog.out]; exact congrArg Value.string (add_mk _ _ _ Ht.out), trivial⟩
          case measure => simp [intOf]; omega
        · have d0 : decide (k < a) = false := by simp; omega
          have d2 : decide (b < k) = true := by simp; omega
          have d3 : decide (ar < (k : Int) - b) = true := by simp; omega
          have hkp : keep a b ar k = false := by simp [keep]; omega
          have hnx := outN_no s a b ar k hkp
          have Hnx := hide hnx
          clear hkp hnx
          go_wp2
          go_roundw
          case rel => exact ⟨k + 1, by omega, by go_num, by rw [Hnx.out, Hog.out], trivial⟩
          case measure => simp [intOf]; omega
        · have d0 : decide (k < a) = false := by simp; omega
          have d2 : decide (b < k) = true := by simp; omega
          have d3 : decide (ar < (k : Int) - b) = false := by simp; omega
          have hkp : keep a b ar k = true := by simp [keep]; omega
          have hnx := outN_yes s a b ar k hkp
          have Hnx := hide hnx
          clear hkp hnx
          go_wp2
          go_roundw
          case rel => exact ⟨k + 1, by omega, by go_num, by rw [Hnx.out, ← Hog.out]; exact congrArg Value.string (add_mk _ _ _ Ht.out), trivial⟩
          case measure => simp [intOf]; omega
      · obtain rfl : k = L := by omega
        go_wp2
        go_ret
        exact ⟨rfl, Hbw.out⟩
  · go_enter Try.func30, Try.ntmps30
    go_wp2_with fail
    refine (line40' s _ (p) a _ (by omega) (by omega) (by omega) (by have := Ha.out; rwa [show min p (s.size - 1) = p by omega] at this)).mono ?_
    rintro e w' ⟨rfl, rfl⟩
    go_wp2_with fail
    refine (line40' s _ (p) b _ (by omega) (by omega) (by omega) (by have := Hb.out; rwa [show min (max p (p - 1)) (s.size - 1) = p by omega] at this)).mono ?_
    rintro e w' ⟨rfl, rfl⟩
    have hL3 := HL.out
    go_wp2_with fail
    refine (lines18' s L HL.out _ (by omega)).mono ?_
    rintro e w1 ⟨⟨ao, cap, rfl, hrd⟩, hb1⟩
    have hbw : Below w.heap.size w w1 := ((Below.refl _ _).alloc (Nat.le_refl _) _).trans (hb1.mono (by simp))
    have Hbw := hide hbw
    clear hb1 hbw hL3
    go_wp2
    go_loopw [12, 13] (fun o i wr => ∃ k : Nat, k ≤ L ∧ i = .int .i64 k ∧ o = .string (mk (outN s a b ar k)) ∧ wr = w1) (fun _ i _ => L - (intOf i).toNat)
    case atStart => exact ⟨0, Nat.zero_le _, rfl, by rw [outN_zero]; rfl, rfl⟩
    case round =>
      obtain ⟨k, hk, rfl, rfl, rfl⟩ := hrel
      have hsm := outN_small s a b ar k hs (by omega)
      by_cases hlt : k < L
      · obtain ⟨g, rfl, x, hx, hcx⟩ := hrd.at hlt
        obtain ⟨t, rfl, ht⟩ := strs_get s k x hx
        have hts : t.size ≤ 2100 := by
          have h1 := congrArg List.length ht
          have h2 := lb_len s k
          rw [size_list] at h1
          omega
        have Ht := hide ht
        have hms : (mk (outN s a b ar k)).size ≤ 4412100 := hsm
        generalize hog : mk (outN s a b ar k) = og at hms
        have Hog := hide hog
        clear hx ht hsm hog
        rcases (show (k < a ∧ ar < (a : Int) - k) ∨ (k < a ∧ (a : Int) - k ≤ ar) ∨ (a ≤ k ∧ k ≤ b) ∨ (b < k ∧ ar < (k : Int) - b) ∨ (b < k ∧ (k : Int) - b ≤ ar) by omega) with ⟨g1, g2⟩ | ⟨g1, g2⟩ | ⟨g1, g2⟩ | ⟨g1, g2⟩ | ⟨g1, g2⟩
        · have d0 : decide (k < a) = true := by simp; omega
          have d1 : decide (ar < (a : Int) - k) = true := by simp; omega
          have d2 : decide (b < k) = false := by simp; omega
          have hkp : keep a b ar k = false := by simp [keep]; omega
          have hnx := outN_no s a b ar k hkp
          have Hnx := hide hnx
          clear hkp hnx
          go_wp2
          go_roundw
          case rel => exact ⟨k + 1, by omega, by go_num, by rw [Hnx.out, Hog.out], trivial⟩
          case measure => simp [intOf]; omega
        · have d0 : decide (k < a) = true := by simp; omega
          have d1 : decide (ar < (a : Int) - k) = false := by simp; omega
          have d2 : decide (b < k) = false := by simp; omega
          have hkp : keep a b ar k = true := by simp [keep]; omega
          have hnx := outN_yes s a b ar k hkp
          have Hnx := hide hnx
          clear hkp hnx
          go_wp2
          go_roundw
          case rel => exact ⟨k + 1, by omega, by go_num, by rw [Hnx.out, ← Hog.out]; exact congrArg Value.string (add_mk _ _ _ Ht.out), trivial⟩
          case measure => simp [intOf]; omega
        · have d0 : decide (k < a) = false := by simp; omega
          have d2 : decide (b < k) = false := by simp; omega
          have hkp : keep a b ar k = true := by simp [keep]; omega
          have hnx := outN_yes s a b ar k hkp
          have Hnx := hide hnx
          clear hkp hnx
          go_wp2
          go_roundw
          case rel => exact ⟨k + 1, by omega, by go_num, by rw [Hnx.out, ← Hog.out]; exact congrArg Value.string (add_mk _ _ _ Ht.out), trivial⟩
          case measure => simp [intOf]; omega
        · have d0 : decide (k < a) = false := by simp; omega
          have d2 : decide (b < k) = true := by simp; omega
          have d3 : decide (ar < (k : Int) - b) = true := by simp; omega
          have hkp : keep a b ar k = false := by simp [keep]; omega
          have hnx := outN_no s a b ar k hkp
          have Hnx := hide hnx
          clear hkp hnx
          go_wp2
          go_roundw
          case rel => exact ⟨k + 1, by omega, by go_num, by rw [Hnx.out, Hog.out], trivial⟩
          case measure => simp [intOf]; omega
        · have d0 : decide (k < a) = false := by simp; omega
          have d2 : decide (b < k) = true := by simp; omega
          have d3 : decide (ar < (k : Int) - b) = false := by simp; omega
          have hkp : keep a b ar k = true := by simp [keep]; omega
          have hnx := outN_yes s a b ar k hkp
          have Hnx := hide hnx
          clear hkp hnx
          go_wp2
          go_roundw
          case rel => exact ⟨k + 1, by omega, by go_num, by rw [Hnx.out, ← Hog.out]; exact congrArg Value.string (add_mk _ _ _ Ht.out), trivial⟩
          case measure => simp [intOf]; omega
      · obtain rfl : k = L := by omega
        go_wp2
        go_ret
        exact ⟨rfl, Hbw.out⟩
  · go_enter Try.func30, Try.ntmps30
    go_wp2_with fail
    refine (line40' s _ (s.size - 1) a _ (by omega) (by omega) (by omega) (by have := Ha.out; rwa [show min p (s.size - 1) = s.size - 1 by omega] at this)).mono ?_
    rintro e w' ⟨rfl, rfl⟩
    go_wp2_with fail
    refine (line40' s _ (s.size - 1) b _ (by omega) (by omega) (by omega) (by have := Hb.out; rwa [show min (max p (p - 1)) (s.size - 1) = s.size - 1 by omega] at this)).mono ?_
    rintro e w' ⟨rfl, rfl⟩
    have hL3 := HL.out
    go_wp2_with fail
    refine (lines18' s L HL.out _ (by omega)).mono ?_
    rintro e w1 ⟨⟨ao, cap, rfl, hrd⟩, hb1⟩
    have hbw : Below w.heap.size w w1 := ((Below.refl _ _).alloc (Nat.le_refl _) _).trans (hb1.mono (by simp))
    have Hbw := hide hbw
    clear hb1 hbw hL3
    go_wp2
    go_loopw [12, 13] (fun o i wr => ∃ k : Nat, k ≤ L ∧ i = .int .i64 k ∧ o = .string (mk (outN s a b ar k)) ∧ wr = w1) (fun _ i _ => L - (intOf i).toNat)
    case atStart => exact ⟨0, Nat.zero_le _, rfl, by rw [outN_zero]; rfl, rfl⟩
    case round =>
      obtain ⟨k, hk, rfl, rfl, rfl⟩ := hrel
      have hsm := outN_small s a b ar k hs (by omega)
      by_cases hlt : k < L
      · obtain ⟨g, rfl, x, hx, hcx⟩ := hrd.at hlt
        obtain ⟨t, rfl, ht⟩ := strs_get s k x hx
        have hts : t.size ≤ 2100 := by
          have h1 := congrArg List.length ht
          have h2 := lb_len s k
          rw [size_list] at h1
          omega
        have Ht := hide ht
        have hms : (mk (outN s a b ar k)).size ≤ 4412100 := hsm
        generalize hog : mk (outN s a b ar k) = og at hms
        have Hog := hide hog
        clear hx ht hsm hog
        rcases (show (k < a ∧ ar < (a : Int) - k) ∨ (k < a ∧ (a : Int) - k ≤ ar) ∨ (a ≤ k ∧ k ≤ b) ∨ (b < k ∧ ar < (k : Int) - b) ∨ (b < k ∧ (k : Int) - b ≤ ar) by omega) with ⟨g1, g2⟩ | ⟨g1, g2⟩ | ⟨g1, g2⟩ | ⟨g1, g2⟩ | ⟨g1, g2⟩
        · have d0 : decide (k < a) = true := by simp; omega
          have d1 : decide (ar < (a : Int) - k) = true := by simp; omega
          have d2 : decide (b < k) = false := by simp; omega
          have hkp : keep a b ar k = false := by simp [keep]; omega
          have hnx := outN_no s a b ar k hkp
          have Hnx := hide hnx
          clear hkp hnx
          go_wp2
          go_roundw
          case rel => exact ⟨k + 1, by omega, by go_num, by rw [Hnx.out, Hog.out], trivial⟩
          case measure => simp [intOf]; omega
        · have d0 : decide (k < a) = true := by simp; omega
          have d1 : decide (ar < (a : Int) - k) = false := by simp; omega
          have d2 : decide (b < k) = false := by simp; omega
          have hkp : keep a b ar k = true := by simp [keep]; omega
          have hnx := outN_yes s a b ar k hkp
          have Hnx := hide hnx
          clear hkp hnx
          go_wp2
          go_roundw
          case rel => exact ⟨k + 1, by omega, by go_num, by rw [Hnx.out, ← Hog.out]; exact congrArg Value.string (add_mk _ _ _ Ht.out), trivial⟩
          case measure => simp [intOf]; omega
        · have d0 : decide (k < a) = false := by simp; omega
          have d2 : decide (b < k) = false := by simp; omega
          have hkp : keep a b ar k = true := by simp [keep]; omega
          have hnx := outN_yes s a b ar k hkp
          have Hnx := hide hnx
          clear hkp hnx
          go_wp2
          go_roundw
          case rel => exact ⟨k + 1, by omega, by go_num, by rw [Hnx.out, ← Hog.out]; exact congrArg Value.string (add_mk _ _ _ Ht.out), trivial⟩
          case measure => simp [intOf]; omega
        · have d0 : decide (k < a) = false := by simp; omega
          have d2 : decide (b < k) = true := by simp; omega
          have d3 : decide (ar < (k : Int) - b) = true := by simp; omega
          have hkp : keep a b ar k = false := by simp [keep]; omega
          have hnx := outN_no s a b ar k hkp
          have Hnx := hide hnx
          clear hkp hnx
          go_wp2
          go_roundw
          case rel => exact ⟨k + 1, by omega, by go_num, by rw [Hnx.out, Hog.out], trivial⟩
          case measure => simp [intOf]; omega
        · have d0 : decide (k < a) = false := by simp; omega
          have d2 : decide (b < k) = true := by simp; omega
          have d3 : decide (ar < (k : Int) - b) = false := by simp; omega
          have hkp : keep a b ar k = true := by simp [keep]; omega
          have hnx := outN_yes s a b ar k hkp
          have Hnx := hide hnx
          clear hkp hnx
          go_wp2
          go_roundw
          case rel => exact ⟨k + 1, by omega, by go_num, by rw [Hnx.out, ← Hog.out]; exact congrArg Value.string (add_mk _ _ _ Ht.out), trivial⟩
          case measure => simp [intOf]; omega
      · obtain rfl : k = L := by omega
        go_wp2
        go_ret
        exact ⟨rfl, Hbw.out⟩

end Go.Proofs.Ytniapakheegijaa
