/- Walks of layer 11's reference: Same, Equal. -/
import Derived.Test.YteokeljmggdecaaDoorHs
namespace Go.Proofs.YteokeljmggdecaaDoor
open Go.RowKit

set_option maxRecDepth 100000 in
set_option maxHeartbeats 6400000 in
theorem rsame (A B : Option Addr) (n c m d : Nat) (a b : List Tk) (w : World) (ha : TkS w A n c a) (hb : TkS w B m d b) (P : Bool) (hP : sameT a b = P) :
    Calls Tryd.prog 19 #[.slice A n c, .slice B m d] w fun e w' => e = .returned (.bool P) ∧ Below w.heap.size w w' := by
  have HP := hide hP
  have hnc := ha.1
  have hcc := ha.2.1
  have hmd := hb.1
  have hdd := hb.2.1
  have Hn := hide ha.2.2.1
  have Hm := hide hb.2.2.1
  have HA := hide ha
  have HB := hide hb
  clear ha hb hP
  by_cases hnm : n = m
  · subst hnm
    have hni : ((n : Int) != (n : Int)) = false := by simp
    go_enter Tryd.func19, Tryd.ntmps19
    go_wp2_with fail
    go_loopw [5] (fun y wr => ∃ k : Nat, k ≤ n ∧ y = .int .i64 (k : Int) ∧ ktS (a.take k) = ktS (b.take k) ∧ Below w.heap.size w wr) (fun y _ => n - (intOf y).toNat)
    case atStart => exact ⟨0, Nat.zero_le _, rfl, rfl, Below.refl _ _⟩
    case round =>
      obtain ⟨k, hk, rfl, heq, hbl⟩ := hrel
      obtain ⟨w2, hw2⟩ : ∃ w2, w2 = wr := ⟨wr, rfl⟩
      subst hw2
      have HBl := hide hbl
      by_cases hlt : k < n
      · have hki : (k : Int) < (n : Int) := by omega
        obtain ⟨g, o, t, rfl, ht, c0, c1, -, -⟩ := (HA.out.below hbl).at_ hlt
        obtain ⟨g', o', u, rfl, hu, d0, d1, -, -⟩ := (HB.out.below hbl).at_ hlt
        have hs2 := str_beq2 t.text u.text
        obtain ⟨b1, hb1⟩ : ∃ b, (t.kind == u.kind) = b := ⟨_, rfl⟩
        obtain ⟨b2, hb2⟩ : ∃ b, (t.text == u.text) = b := ⟨_, rfl⟩
        rw [hb2] at hs2
        have hk1 : kt1 t u = (b1 && b2) := by unfold kt1; rw [hb1, hb2]
        have n1 : (t.kind != u.kind) = !b1 := by unfold bne; rw [hb1]
        have n2 : ((bs t.text).toList != (bs u.text).toList) = !b2 := by unfold bne; rw [hs2]
        cases b1 with
        | true =>
          cases b2 with
          | true =>
            have Hs := hide (kt_snoc heq ht hu hk1)
            have n1 : (t.kind != u.kind) = false := n1
            have n2 : ((bs t.text).toList != (bs u.text).toList) = false := n2
            clear heq ht hu hk1 hbl hb2
            go_wp2
            go_quiet (fail)
            go_wp2
            go_roundw
            case rel => exact ⟨k + 1, by omega, by go_num, Hs.out, HBl.out.trans (Drawn.below ⟨nq, rfl⟩ _)⟩
            case measure => simp [intOf]; omega
          | false =>
            have Hs := hide (show false = P by rw [← HP.out]; exact (kt_part ht hu hk1).symm)
            have n1 : (t.kind != u.kind) = false := n1
            have n2 : ((bs t.text).toList != (bs u.text).toList) = true := n2
            clear heq ht hu hk1 hbl hb2
            go_wp2
            go_quiet (fail)
            go_wp2
            go_ret
            exact ⟨ret_bool Hs.out, HBl.out.trans (Drawn.below ⟨nq, rfl⟩ _)⟩
        | false =>
          have Hs := hide (show false = P by rw [← HP.out]; exact (kt_part ht hu hk1).symm)
          have n1 : (t.kind != u.kind) = true := n1
          clear heq ht hu hk1 hbl hb2 n2 hs2
          go_wp2
          go_quiet (fail)
          go_wp2
          go_ret
          exact ⟨ret_bool Hs.out, HBl.out.trans (Drawn.below ⟨nq, rfl⟩ _)⟩
      · have hki : ¬ (k : Int) < (n : Int) := by omega
        have Hs := hide (show true = P by
          rw [List.take_of_length_le (by rw [Hn.out]; omega), List.take_of_length_le (by rw [Hm.out]; omega)] at heq
          rw [← HP.out]
          unfold sameT
          rw [decide_eq_true heq])
        clear heq hbl
        go_wp2
        go_ret
        exact ⟨ret_bool Hs.out, HBl.out⟩
  · have hni : ((n : Int) != (m : Int)) = true := by
      unfold bne
      rw [beq_eq_false_iff_ne.2 (by omega)]
      rfl
    have Hs := hide (show false = P by rw [← HP.out]; exact (kt_len (by rw [Hn.out, Hm.out]; exact hnm)).symm)
    clear hnm
    go_enter Tryd.func19, Tryd.ntmps19
    go_wp2
    go_ret
    exact ⟨ret_bool Hs.out, Below.refl _ _⟩
/-- Equal lists are Equal. -/
theorem requal (A B : Option Addr) (n c m d : Nat) (a : List Tk) (w : World) (ha : TkS w A n c a) (hb : TkS w B m d a) :
    Calls Tryd.prog 12 #[.slice A n c, .slice B m d] w fun e w' => e = .returned (.bool true) ∧ Below w.heap.size w w' := by
  have hnm : n = m := ha.2.2.1.symm.trans hb.2.2.1
  subst hnm
  have hnc := ha.1
  have hcc := ha.2.1
  have hmd := hb.1
  have hdd := hb.2.1
  have HA := hide ha
  have HB := hide hb
  have HC := hide (rsame A B n c n d a a w ha hb true (decide_eq_true rfl))
  clear ha hb
  go_enter Tryd.func12, Tryd.ntmps12
  go_wp2_with fail
  with_reducible refine HC.out.mono ?_
  rintro e w1 ⟨rfl, hb1⟩
  have HA1 := hide (HA.out.below hb1)
  have HB1 := hide (HB.out.below hb1)
  have HBw := hide hb1
  clear hb1
  go_wp2_with fail
  go_loopw [5] (fun y wr => ∃ k : Nat, k ≤ n ∧ y = .int .i64 (k : Int) ∧ Below w1.heap.size w1 wr) (fun y _ => n - (intOf y).toNat)
  case atStart => exact ⟨0, Nat.zero_le _, rfl, Below.refl _ _⟩
  case round =>
    obtain ⟨k, hk, rfl, hbl⟩ := hrel
    obtain ⟨w2, hw2⟩ : ∃ w2, w2 = wr := ⟨wr, rfl⟩
    subst hw2
    have HBl := hide hbl
    by_cases hlt : k < n
    · have hki : (k : Int) < (n : Int) := by omega
      obtain ⟨g, o, t, rfl, ht, -, -, c2, c3⟩ := (HA1.out.below hbl).at_ hlt
      obtain ⟨g', o', u, rfl, hu, -, -, d2, d3⟩ := (HB1.out.below hbl).at_ hlt
      rw [ht] at hu
      injection hu with hu
      subst hu
      have n1 : (t.at_ != t.at_) = false := by simp
      have n2 : (t.en != t.en) = false := by simp
      clear ht hbl
      go_wp2
      go_quiet (fail)
      go_wp2
      go_roundw
      case rel => exact ⟨k + 1, by omega, by go_num, HBl.out.trans (Drawn.below ⟨nq, rfl⟩ _)⟩
      case measure => simp [intOf]; omega
    · have hki : ¬ (k : Int) < (n : Int) := by omega
      have HBf := hide (HBw.out.trans (hbl.mono HBw.out.size))
      clear hbl
      go_wp2
      go_ret
      exact ⟨rfl, HBf.out⟩
end Go.Proofs.YteokeljmggdecaaDoor
