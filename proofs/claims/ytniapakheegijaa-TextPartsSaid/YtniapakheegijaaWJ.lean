/- The walks of the laws on Valid and Fold, Lines and Starts, Words. -/
import Derived.Test.YtniapakheegijaaWI
namespace Go.Proofs.Ytniapakheegijaa
open Go.RowKit

set_option maxHeartbeats 800000 in
theorem law3 (s : ByteArray) (w : World) (hreach : s.size ≤ 9223372036854775807) : Calls Try.prog 3 #[.string s] w fun e w' => e = .returned (.bool true) ∧ Below w.heap.size w w' := by
  by_cases hbig : 2100 < s.size
  · go_enter Try.func3, Try.ntmps3
    go_wp2_with (go_at_call 11; refine (alive11 _).mono ?_; rintro e w1 ⟨rfl, hb1⟩)
    go_ret
    exact ⟨rfl, hb1⟩
  · go_enter Try.func3, Try.ntmps3
    go_wp2_with (first | (go_at_call 11; refine (alive11 _).mono ?_; rintro e w1 ⟨rfl, hb1⟩) | (go_at_call 12; refine (valid12 _ _ (by omega)).mono ?_; rintro e w' ⟨rfl, rfl⟩) | (go_at_call 13; refine (valid13 _ _ (by omega)).mono ?_; rintro e w' ⟨rfl, rfl⟩) | (go_at_call 14; refine (fold14 _ _ (by omega)).mono ?_; rintro e w2 ⟨rfl, hb2⟩) | (go_at_call 15; refine (fold15 _ _ (by omega)).mono ?_; rintro e w3 ⟨rfl, hb3⟩))
    go_ret
    exact ⟨rfl, bgo (bgo hb1 hb2) hb3⟩

theorem strs_map (s : ByteArray) (k : Nat) : strs s k = ((starts s.data.toList k).map (lineStr s)).map Value.string := by
  unfold strs
  rw [List.map_map]
  rfl

set_option maxHeartbeats 800000 in
theorem law4 (s : ByteArray) (w : World) (hreach : s.size ≤ 9223372036854775807) : Calls Try.prog 4 #[.string s] w fun e w' => e = .returned (.bool true) ∧ Below w.heap.size w w' := by
  by_cases hbig : 2100 < s.size
  · go_enter Try.func4, Try.ntmps4
    go_wp2_with (go_at_call 11; refine (alive11 _).mono ?_; rintro e w1 ⟨rfl, hb1⟩)
    go_ret
    exact ⟨rfl, hb1⟩
  · obtain ⟨L, hLe⟩ : ∃ L, (starts s.data.toList s.size).length = L := ⟨_, rfl⟩
    have hL : L ≤ 100000 := by rw [← hLe]; exact Nat.le_trans (upto_len _ _) (by omega)
    have HL := hide hLe
    clear hLe
    go_enter Try.func4, Try.ntmps4
    go_wp2_with fail
    refine (alive11 _).mono ?_
    rintro e w1 ⟨rfl, hb1⟩
    go_wp2_with fail
    refine (lines17' s L HL.out _ (by omega)).mono ?_
    rintro e w2 ⟨⟨ao2, cap2, rfl, hr2⟩, hb2⟩
    go_wp2_with fail
    refine (lines18' s L HL.out _ (by omega)).mono ?_
    rintro e w3 ⟨⟨ao3, cap3, rfl, hr3⟩, hb3⟩
    go_wp2_with fail
    refine (same16 _ _ L ((starts s.data.toList s.size).map (lineStr s)) _ hL (by rw [← strs_map]; exact hr2.rd.below hb3) (by rw [← strs_map]; exact hr3.rd)).mono ?_
    rintro e w4 ⟨rfl, m4, rfl⟩
    go_wp2_with fail
    refine (starts20' s L HL.out _ (by omega)).mono ?_
    rintro e w5 ⟨⟨ao5, cap5, rfl, hr5⟩, hb5⟩
    go_wp2_with fail
    refine (starts21' s L HL.out _ (by omega)).mono ?_
    rintro e w6 ⟨⟨ao6, cap6, rfl, hr6⟩, hb6⟩
    go_wp2_with fail
    refine (same19 _ _ L (starts s.data.toList s.size) _ hL (hr5.rd.below hb6) hr6.rd).mono ?_
    rintro e w7 ⟨rfl, m7, rfl⟩
    go_wp2
    go_ret
    exact ⟨rfl, bdr (bgo (bgo (bdr (bgo (bgo hb1 hb2) hb3) m4) hb5) hb6) m7⟩

theorem words27' (s : ByteArray) (n : Nat) (hn : (words s.data.toList s.size).length = n) (w : World) (hs : s.size ≤ 100000) :
    Calls Try.prog 27 #[.string s] w fun e w' => (∃ ao cap, e = .returned (.slice ao n cap) ∧ RdS w' ao n cap 2 (spans (words s.data.toList s.size))) ∧ Below w.heap.size w w' := by
  subst hn
  refine (words27 s w hs).mono ?_
  rintro e w1 ⟨⟨v, rfl, hown⟩, hb⟩
  obtain ⟨ao, cap, rfl, h⟩ := (Rd.of_owns hown).s
  exact ⟨⟨ao, cap, rfl, h⟩, hb⟩
theorem words28' (s : ByteArray) (n : Nat) (hn : (words s.data.toList s.size).length = n) (w : World) (hs : s.size ≤ 100000) :
    Calls Try.prog 28 #[.string s] w fun e w' => (∃ ao cap, e = .returned (.slice ao n cap) ∧ RdS w' ao n cap 2 (spans (words s.data.toList s.size))) ∧ Below w.heap.size w w' := by
  subst hn
  refine (words28 s w hs).mono ?_
  rintro e w1 ⟨⟨v, rfl, hown⟩, hb⟩
  obtain ⟨ao, cap, rfl, h⟩ := (Rd.of_owns hown).s
  exact ⟨⟨ao, cap, rfl, h⟩, hb⟩

set_option maxHeartbeats 800000 in
theorem law6 (s : ByteArray) (w : World) (hreach : s.size ≤ 9223372036854775807) : Calls Try.prog 6 #[.string s] w fun e w' => e = .returned (.bool true) ∧ Below w.heap.size w w' := by
  by_cases hbig : 2100 < s.size
  · go_enter Try.func6, Try.ntmps6
    go_wp2_with (go_at_call 11; refine (alive11 _).mono ?_; rintro e w1 ⟨rfl, hb1⟩)
    go_ret
    exact ⟨rfl, hb1⟩
  · obtain ⟨L, hLe⟩ : ∃ L, (words s.data.toList s.size).length = L := ⟨_, rfl⟩
    have hL : L ≤ 100000 := by rw [← hLe]; exact Nat.le_trans (words_len _ _) (by omega)
    have HL := hide hLe
    clear hLe
    go_enter Try.func6, Try.ntmps6
    go_wp2_with fail
    refine (alive11 _).mono ?_
    rintro e w1 ⟨rfl, hb1⟩
    go_wp2_with fail
    refine (words27' s L HL.out _ (by omega)).mono ?_
    rintro e w2 ⟨⟨ao2, cap2, rfl, hr2⟩, hb2⟩
    go_wp2_with fail
    refine (words28' s L HL.out _ (by omega)).mono ?_
    rintro e w3 ⟨⟨ao3, cap3, rfl, hr3⟩, hb3⟩
    go_wp2_with fail
    refine (same26 _ _ L (words s.data.toList s.size) _ hL (hr2.rd.below hb3) hr3.rd).mono ?_
    rintro e w4 ⟨rfl, m4, rfl⟩
    go_wp2
    go_ret
    exact ⟨rfl, bdr (bgo (bgo hb1 hb2) hb3) m4⟩

end Go.Proofs.Ytniapakheegijaa
