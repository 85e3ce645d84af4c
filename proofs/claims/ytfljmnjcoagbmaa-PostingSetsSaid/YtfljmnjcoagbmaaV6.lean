/- Walks of layer 3's functions: V6. -/
import Derived.Test.YtfljmnjcoagbmaaV5
import Derived.StillTailTactics
import Derived.IntWalk
namespace Go.Proofs.Ytfljmnjcoagbmaa
open Go.RowKit
open Go.Lib (byteCells strCells)

theorem incr_false (p z : Int) (l : List Int) (h : ¬ p < z) : incr p (z :: l) = false := by rw [incr_cons, decide_eq_false h]; rfl
theorem incr_true (p z : Int) (l : List Int) (h : p < z) : incr p (z :: l) = incr z l := by rw [incr_cons, decide_eq_true h]; rfl

set_option maxRecDepth 20000 in
set_option maxHeartbeats 3200000 in
theorem rputl43 (A A' : Option Addr) (n c n' c' : Nat) (b : List UInt8) (xs : List Int) (w : World) (hb : Sl w A n c (byteCells b)) (h : Sl w A' n' c' (numCells xs)) (hn : n ≤ 100000000) (hn' : n' ≤ 10000000) (hw : ∀ z ∈ xs, z ≤ 9223372036854775807) :
    Calls Try.prog 43 #[.slice A n c, .slice A' n' c'] w (PutL w (putL b xs)) := by
  have hc' := h.2.1
  have hnc' := h.1
  have hlen := h.nlen
  have Hlen := hide hlen
  have hblen := hb.len
  have Hblen := hide hblen
  have Hw := hide hw
  have H := hide h
  have HB := hide hb
  clear h hlen hblen hw hb
  obtain ⟨r, hr⟩ : ∃ r, incr (-1) xs = r := ⟨_, rfl⟩
  obtain ⟨R, hR⟩ : ∃ R, putL b xs = R := ⟨_, rfl⟩
  rw [hR]
  have Hr := hide hr
  have HR := hide hR
  clear hr hR
  go_enter Try.func43, Try.ntmps43
  go_wp2
  go_loopw [6] (fun y wr => ∃ (k : Nat) (p : Int), k ≤ n' ∧ y = .int .i64 k ∧ -1 ≤ p ∧ (k = 0 → p = -1) ∧ (0 < k → 0 ≤ p ∧ xs[k - 1]? = some p) ∧ incr p (xs.drop k) = r ∧ Drawn w wr) (fun y _ => n' - (intOf y).toNat)
  case atStart => exact ⟨0, -1, by omega, rfl, by omega, fun _ => rfl, fun h => absurd h (by omega), Hr.out, Drawn.refl _⟩
  case round =>
    obtain ⟨k, p, hk, rfl, hp, hp0, hpk, hi, hd⟩ := hrel
    have Hd := hide hd
    have Hp0 := hide hp0
    have Hpk := hide hpk
    have hbel := hd.below w.heap.size
    have Hb := hide hbel
    clear hd hp0 hpk hbel
    by_cases hlt : k < n'
    · obtain ⟨ad, z, rfl, hz, hcell⟩ := num_cell (H.out.below Hb.out).reads hlt
      have hdr := num_drop xs k z hz
      rw [hdr] at hi
      have Hi := hide hi
      have Hz := hide hz
      clear hi hz hdr
      by_cases hz0 : z < 0
      · have hd1 : decide (z < 0) = true := decide_eq_true hz0
        have hrf : incr p (z :: xs.drop (k + 1)) = false := incr_false _ _ _ (by omega)
        rw [Hi.out] at hrf
        have Hrf := hide hrf
        clear hrf
        go_wp2
        go_quiet (fail)
        go_wp2
        go_ret2
        rw [← HR.out, putL_no b xs (by rw [Hr.out]; exact Hrf.out)]
        exact ⟨_, rfl, World.ownsRow_nil _ _ _ _, (Hd.out.more _).below _⟩
      · have hd1 : decide (z < 0) = false := decide_eq_false hz0
        have hz1 : 0 ≤ z := by omega
        rcases Nat.eq_zero_or_pos k with hk0 | hk0
        · have hpe := Hp0.out hk0
          have hd2 : decide (0 < k) = false := decide_eq_false (by omega)
          have hk00 : k ≤ 0 := by omega
          have hit := incr_true p z (xs.drop (k + 1)) (by omega)
          rw [Hi.out] at hit
          have Hit := hide hit
          clear hit hz0 hk0 hpe
          go_wp2
          go_quiet (fail)
          go_wp2
          go_roundw
          case rel => exact ⟨k + 1, z, by omega, by go_num, by omega, fun h => absurd h (by omega), fun _ => ⟨hz1, Hz.out⟩, Hit.out.symm, Hd.out.more _⟩
          case measure => simp [intOf]; omega
        · obtain ⟨hp1, hpp⟩ := Hpk.out hk0
          obtain ⟨ad', z', hA', hz', hcell'⟩ := num_cell (k := k - 1) (H.out.below Hb.out).reads (by omega)
          rw [hpp] at hz'
          cases hz'
          cases hA'
          have Hpp := hide hpp
          have hidx : (k : Int) - 1 = ((k - 1 : Nat) : Int) := by omega
          have hk1 : 1 ≤ k := by omega
          have hkk : k - 1 < n' := by omega
          have hd2 : decide (0 < k) = true := decide_eq_true (by omega)
          clear hpp
          by_cases hle : z ≤ p
          · have hrf : incr p (z :: xs.drop (k + 1)) = false := incr_false _ _ _ (by omega)
            rw [Hi.out] at hrf
            have Hrf := hide hrf
            clear hrf hz0
            go_wp2
            go_quiet (fail)
            go_wp2
            go_ret2
            rw [← HR.out, putL_no b xs (by rw [Hr.out]; exact Hrf.out)]
            exact ⟨_, rfl, World.ownsRow_nil _ _ _ _, (Hd.out.more _).below _⟩
          · have hit := incr_true p z (xs.drop (k + 1)) (by omega)
            rw [Hi.out] at hit
            have Hit := hide hit
            have hle' : p < z := by omega
            clear hit hz0 hle
            go_wp2
            go_quiet (fail)
            go_wp2
            go_roundw
            case rel => exact ⟨k + 1, z, by omega, by go_num, by omega, fun h => absurd h (by omega), fun _ => ⟨hz1, Hz.out⟩, Hit.out.symm, Hd.out.more _⟩
            case measure => simp [intOf]; omega
    · rw [List.drop_of_length_le (by rw [Hlen.out]; omega)] at hi
      have hrt : incr (-1) xs = true := by rw [Hr.out, ← hi]; rfl
      obtain ⟨T, hT⟩ : ∃ T, b ++ (enc n' ++ dif 0 xs) = T := ⟨_, rfl⟩
      have hRT : (T, 0) = R := by rw [← HR.out, putL_yes b xs hrt, Hlen.out, hT]
      subst hRT
      have HT := hide hT
      have Hrt := hide hrt
      have hge : n' ≤ k := by omega
      clear hT hrt hi hlt Hp0 Hpk
      go_wp2_with fail
      with_reducible refine (rput42 A n c b (n' : Int) _ (HB.out.below Hb.out) (by omega) (by omega)).mono ?_
      rintro e w1 ⟨v, rfl, hown, hbel⟩
      rw [Int.toNat_natCast] at hown
      have Hb1 := hide (Hb.out.trans (hbel.mono Hb.out.size))
      obtain ⟨A1, c1, rfl, hs1⟩ := hown.sl
      rw [bytes_size] at hown hs1 ⊢
      have Hown := hide (hown.mono Hb.out.size)
      have H9 := enc_len9 n' (by omega)
      have hbl : (b ++ enc n').length ≤ n + 9 := by rw [List.length_append, Hblen.out]; omega
      clear hown hbel hs1
      go_wp2
      go_loopw [7, 8] (fun u y wr => ∃ (k : Nat) (last : Int) (done : List UInt8) (A1 : Option Addr) (c1 : Nat), k ≤ n' ∧ y = .int .i64 k ∧ (k = 0 → last = 0) ∧ (0 < k → xs[k - 1]? = some last) ∧ 0 ≤ last ∧ last ≤ 9223372036854775807 ∧ done.length ≤ n + 9 + 9 * k ∧ incr (if k = 0 then -1 else last) (xs.drop k) = true ∧ done ++ dif last (xs.drop k) = T ∧ u = .slice A1 done.length c1 ∧ Own wr w.heap.size 5 (.slice A1 done.length c1) (byteCells done) ∧ Below w.heap.size w wr) (fun _ y _ => n' - (intOf y).toNat)
      case atStart => exact ⟨0, 0, b ++ enc n', A1, c1, by omega, rfl, fun _ => rfl, fun h => absurd h (by omega), by omega, by omega, by omega, by rw [if_pos rfl]; exact Hrt.out, by rw [List.append_assoc]; exact HT.out, by rw [List.length_append], Hown.out, Hb1.out⟩
      case round =>
        clear Hown Hb1 Hb hbl
        obtain ⟨j, last, done, A1, c1, hj, rfl, hj0, hjp, hl0, hl1, hdl, hi, hT, rfl, hown, hbel⟩ := hrel
        have hsz := hbel.size
        have Hown := hide hown
        have Hb := hide hbel
        have HT2 := hide hT
        have Hj0 := hide hj0
        have Hjp := hide hjp
        obtain ⟨A2, c2, hA2, hs2⟩ := hown.sl
        rw [bytes_size] at hA2 hs2
        cases hA2
        have Hs2 := hide hs2
        clear hown hbel hT hj0 hjp hs2
        by_cases hlt : j < n'
        · obtain ⟨ad, z, rfl, hz, hcell⟩ := num_cell (H.out.below Hb.out).reads hlt
          have hdr := num_drop xs j z hz
          rw [hdr, incr_cons, Bool.and_eq_true, decide_eq_true_iff] at hi
          have hT2 := HT2.out
          rw [hdr, dif_cons, ← List.append_assoc] at hT2
          have HT3 := hide hT2
          have hzm := Hw.out z (List.mem_of_getElem? hz)
          have Hz := hide hz
          obtain ⟨hpz, hi2⟩ := hi
          have Hi2 := hide hi2
          have H9z := enc_len9 (z - last).toNat (by omega)
          clear hdr hT2 hz hi2 HT2
          rcases Nat.eq_zero_or_pos j with hj0 | hj0
          · have hl := Hj0.out hj0
            subst hl
            rw [if_pos hj0] at hpz
            have hje : ((j : Int) == 0) = true := beq_iff_eq.2 (by omega)
            have hj00 : j ≤ 0 := by omega
            clear hj0
            rw [Int.sub_zero] at H9z
            go_wp2_with fail
            with_reducible refine (rput42 _ _ _ done z _ Hs2.out (by omega) (by omega)).mono ?_
            rintro e w2 ⟨v2, rfl, hown2, hb2⟩
            obtain ⟨A3, c3, rfl, hs3⟩ := hown2.sl
            rw [bytes_size] at hown2 hs3 ⊢
            have Hown2 := hide (hown2.mono hsz)
            have Hb2 := hide (Hb.out.trans (hb2.mono hsz))
            clear hown2 hb2 hs3
            go_wp2
            go_roundw
            case rel => exact ⟨j + 1, z, _, A3, c3, by omega, by go_num, fun h => absurd h (by omega), fun _ => Hz.out, by omega, by omega, by rw [List.length_append]; omega, by rw [if_neg (by omega)]; exact Hi2.out, by have := HT3.out; rw [Int.sub_zero] at this; exact this, by rw [List.length_append], Hown2.out, Hb2.out⟩
            case measure => simp [intOf]; omega
          · rw [if_neg (by omega)] at hpz
            have hpp := Hjp.out hj0
            obtain ⟨ad', z', hA', hz', hcell'⟩ := num_cell (k := j - 1) (H.out.below Hb.out).reads (by omega)
            rw [hpp] at hz'
            cases hz'
            cases hA'
            have hidx : (j : Int) - 1 = ((j - 1 : Nat) : Int) := by omega
            have hj1 : 1 ≤ j := by omega
            have hjj : j - 1 < n' := by omega
            have hje : ((j : Int) == 0) = false := beq_eq_false_iff_ne.2 (by omega)
            clear hpp
            go_wp2
            have hw1 : IntKind.i64.wrap ((j - 1 : Nat) : Int) = ((j - 1 : Nat) : Int) := IntWalk.i64_in _ (by omega)
            have hw2 : IntKind.i64.wrap (z - last) = z - last := IntWalk.i64_in _ (by omega)
            go_still_tail 11, (by kernel_rfl)
            change wpList _ _ _ _ _ wr.drew
            go_wp2_with fail
            have hdr : Below wr.heap.size wr wr.drew := ⟨rfl, rfl, rfl, Nat.le_refl _, fun _ _ => rfl⟩
            refine (rput42 _ _ _ done (z - last) wr.drew (Hs2.out.below hdr) (by omega) (by omega)).mono ?_
            rintro e w2 ⟨v2, rfl, hown2, hb2⟩
            obtain ⟨A3, c3, rfl, hs3⟩ := hown2.sl
            rw [bytes_size] at hown2 hs3 ⊢
            have Hown2 := hide (hown2.mono (show w.heap.size ≤ wr.drew.heap.size from hsz))
            have Hb2 := hide (Hb.out.trans ((hdr.trans hb2).mono hsz))
            clear hown2 hb2 hs3 hdr
            go_wp2
            go_roundw
            case rel => exact ⟨j + 1, z, _, A3, c3, by omega, by go_num, fun h => absurd h (by omega), fun _ => Hz.out, by omega, by omega, by rw [List.length_append]; omega, by rw [if_neg (by omega)]; exact Hi2.out, HT3.out, by rw [List.length_append], Hown2.out, Hb2.out⟩
            case measure => simp [intOf]; omega
        · have hT2 := HT2.out
          rw [List.drop_of_length_le (by rw [Hlen.out]; omega), show dif last [] = [] from rfl, List.append_nil] at hT2
          subst hT2
          clear HT2 hi
          go_wp2
          go_ret2
          exact ⟨_, rfl, Hown.out, Hb.out⟩

end Go.Proofs.Ytfljmnjcoagbmaa
