/- The law of layer 5 on seeking, over the contracts of what they call. -/
import Derived.Test.YtfljmnjcoagbmaaRC
namespace Go.Proofs.Ytfljmnjcoagbmaa
open Go.RowKit
open Go.Lib (byteCells)

theorem in_next (l : List Int) (i : Nat) (z x : Int) (h : l[i]? = some z) : decide (x ∈ l.take (i + 1)) = (decide (x ∈ l.take i) || (z == x)) := by
  rw [take_at l i z h]
  by_cases h1 : x ∈ l.take i
  · simp [h1]
  · by_cases h2 : z = x
    · subst h2; simp
    · have h3 : ¬ x = z := fun e => h2 e.symm
      simp [h1, h2, h3]

set_option maxRecDepth 20000 in
set_option maxHeartbeats 3200000 in
theorem law9 (C : Cs) (A : Option Addr) (n c : Nat) (l : List Int) (m : Int) (w : World) (h : Sl w A n c (numCells l)) :
    Calls Try.prog 9 #[.slice A n c, .int .i64 m] w fun e w' => e = .returned (.bool true) ∧ Below w.heap.size w w' := by
  have hnc := h.1
  have hcc := h.2.1
  have Hlen := hide h.nlen
  have H := hide h
  have CC := hide C
  clear h C
  by_cases hb1 : 200 < n
  · go_enter Try.func9, Try.ntmps9
    go_wp2_with fail
    refine (CC.out.alive w).mono ?_
    rintro e w1 ⟨rfl, hb⟩
    have B1 := hide hb
    clear hb
    go_wp2
    go_ret
    exact ⟨rfl, B1.out⟩
  cases hv : valP l with
  | false =>
    have hpk : packR l = ([], 1) := by unfold packR; rw [hv]; rfl
    have Hpk := hide hpk
    clear hpk hv
    go_enter Try.func9, Try.ntmps9
    go_wp2_with fail
    refine (CC.out.alive w).mono ?_
    rintro e w1 ⟨rfl, hb⟩
    have B1 := hide hb
    clear hb
    go_wp2_with fail
    with_reducible refine (CC.out.pack A n c l _ (H.out.below B1.out) (by omega)).mono ?_
    rw [Hpk.out]
    intro e w2 hg
    obtain ⟨A2, m2, c2, rfl, -, -, hb2⟩ := hg.sl
    have B2 := hide (bgo B1.out hb2)
    clear hg hb2
    go_wp2
    go_ret
    exact ⟨rfl, B2.out⟩
  | true =>
    have hpk : packR l = (packP l, 0) := by unfold packR; rw [hv]; rfl
    have hsv : seekV (unpackP (packP l)) m = seekO (seekS l m) := by rw [unpack_pack l hv]; rfl
    have hpl := pack_len l hv
    have hup := ((val_iff l).1 hv).1
    have Hpk := hide hpk
    have Hup := hide hup
    clear hpk hv hup
    cases hs : seekS l m with
    | none =>
      have hno := seek_none l m hs
      rw [hs] at hsv
      have Hno := hide hno
      have Hsv := hide hsv
      clear hs hno hsv
      go_enter Try.func9, Try.ntmps9
      go_wp2_with fail
      refine (CC.out.alive w).mono ?_
      rintro e w1 ⟨rfl, hb⟩
      have B1 := hide hb
      clear hb
      go_wp2_with fail
      with_reducible refine (CC.out.pack A n c l _ (H.out.below B1.out) (by omega)).mono ?_
      rw [Hpk.out]
      intro e w2 hg
      obtain ⟨A2, m2, c2, rfl, hm2, hs2, hb2⟩ := hg.sl
      have hm2' : m2 = (packP l).length := hm2
      have hm2b : m2 ≤ 1000000 := by omega
      have S2 := hide hs2
      have B2 := hide (bgo B1.out hb2)
      clear hg hb2 hs2 hm2 hm2'
      go_wp2_with fail
      refine (CC.out.seek A2 m2 c2 (packP l) m _ S2.out (by omega)).mono ?_
      rw [Hsv.out]
      rintro e w3 ⟨rfl, hb⟩
      have B3 := hide (bgo B2.out hb)
      have K := hide (H.out.below B3.out)
      clear hb S2
      show _
      rw [show (seekO none).1 = 0 from rfl, show (seekO none).2 = false from rfl]
      go_wp2
      go_loop [9, 10] (fun u v => ∃ i : Nat, i ≤ n ∧ v = .int .i64 i ∧ u = .bool false) (fun _ v => n - (intOf v).toNat)
      case atStart => exact ⟨0, Nat.zero_le _, rfl, rfl⟩
      case round =>
        obtain ⟨i, hin, rfl, rfl⟩ := hrel
        by_cases hlt : i < n
        · obtain ⟨ad, z, rfl, hz, hcell⟩ := num_cell K.out.reads hlt
          have hzm : z < m := Hno.out z (List.mem_of_getElem? hz)
          clear hz
          go_wp2
          go_round
          case rel => exact ⟨i + 1, by omega, by go_num, rfl⟩
          case measure => simp [intOf]; omega
        · go_wp2
          go_ret
          exact ⟨rfl, B3.out⟩
    | some x =>
      obtain ⟨hx1, hx2, hx3⟩ := seek_some l m x Hup.out hs
      rw [hs] at hsv
      have Hx1 := hide hx1
      have Hx3 := hide hx3
      have Hsv := hide hsv
      clear hs hx1 hx3 hsv
      go_enter Try.func9, Try.ntmps9
      go_wp2_with fail
      refine (CC.out.alive w).mono ?_
      rintro e w1 ⟨rfl, hb⟩
      have B1 := hide hb
      clear hb
      go_wp2_with fail
      with_reducible refine (CC.out.pack A n c l _ (H.out.below B1.out) (by omega)).mono ?_
      rw [Hpk.out]
      intro e w2 hg
      obtain ⟨A2, m2, c2, rfl, hm2, hs2, hb2⟩ := hg.sl
      have hm2' : m2 = (packP l).length := hm2
      have hm2b : m2 ≤ 1000000 := by omega
      have S2 := hide hs2
      have B2 := hide (bgo B1.out hb2)
      clear hg hb2 hs2 hm2 hm2'
      go_wp2_with fail
      refine (CC.out.seek A2 m2 c2 (packP l) m _ S2.out (by omega)).mono ?_
      rw [Hsv.out]
      rintro e w3 ⟨rfl, hb⟩
      have B3 := hide (bgo B2.out hb)
      have K := hide (H.out.below B3.out)
      clear hb S2
      rw [show (seekO (some x)).1 = x from rfl, show (seekO (some x)).2 = true from rfl]
      go_wp2
      go_loop [9, 10] (fun u v => ∃ (i : Nat) (f : Bool), i ≤ n ∧ v = .int .i64 i ∧ u = .bool f ∧ decide (x ∈ l.take i) = f) (fun _ v => n - (intOf v).toNat)
      case atStart => exact ⟨0, false, Nat.zero_le _, rfl, rfl, by simp⟩
      case round =>
        obtain ⟨i, f, hin, rfl, rfl, hf⟩ := hrel
        by_cases hlt : i < n
        · obtain ⟨ad, z, rfl, hz, hcell⟩ := num_cell K.out.reads hlt
          have hnx := in_next l i z x hz
          rw [hf] at hnx
          by_cases hzm : m ≤ z
          · have hxz := Hx3.out z (List.mem_of_getElem? hz) hzm
            have Hnx := hide hnx
            clear hz hnx hf
            cases f with
            | true =>
              go_wp2
              go_round
              case rel => exact ⟨i + 1, true, by omega, by go_num, rfl, by rw [Hnx.out]; rfl⟩
              case measure => simp [intOf]; omega
            | false =>
              go_wp2
              go_round
              case rel => exact ⟨i + 1, z == x, by omega, by go_num, rfl, by rw [Hnx.out]; rfl⟩
              case measure => simp [intOf]; omega
          · have hzm' : z < m := by omega
            have hzx : (z == x) = false := beq_eq_false_iff_ne.2 (by omega)
            rw [hzx, Bool.or_false] at hnx
            have Hnx := hide hnx
            clear hz hnx hf hzx
            go_wp2
            go_round
            case rel => exact ⟨i + 1, f, by omega, by go_num, rfl, Hnx.out⟩
            case measure => simp [intOf]; omega
        · rw [List.take_of_length_le (by rw [Hlen.out]; omega), decide_eq_true Hx1.out] at hf
          subst hf
          go_wp2
          go_ret
          exact ⟨rfl, B3.out⟩

end Go.Proofs.Ytfljmnjcoagbmaa
