/- Walks of layer 8's reference: class. -/
import Derived.Test.YtmiegjefmebpdaaGreatDoorKF
namespace Go.Proofs.YtmiegjefmebpdaaGreatDoor
open Go.RowKit

theorem drop_two {s : ByteArray} {k : Nat} (h : k + 1 < s.size) : s.data.toList.drop k = s[k] :: s[k + 1] :: s.data.toList.drop (k + 2) := by
  have hl := size_list s
  rw [List.drop_eq_getElem_cons (by omega), List.drop_eq_getElem_cons (by omega)]
  rfl
theorem u8_eq {x : UInt8} {n : UInt8} {z : Int} (hz : (n.toNat : Int) = z) : ((x.toNat : Int) == z) = decide (x = n) := by
  subst hz
  by_cases h : x = n
  · rw [h]; simp
  · rw [decide_eq_false h, beq_eq_false_iff_ne]
    intro e
    exact h (UInt8.toNat_inj.1 (by omega))

set_option maxRecDepth 100000 in
set_option maxHeartbeats 6400000 in
theorem class119 (s : ByteArray) (k : Nat) (hk : k ≤ s.size) (hs : s.size ≤ 100000) (q : Bool) (hq : classS (s.data.toList.drop k) = q) (w : World) :
    Calls Tryz.prog 119 #[.string s, .int .i64 (k : Int)] w fun e w' => e = .returned (.bool q) ∧ w = w' := by
  by_cases h1 : k + 1 < s.size
  · have hd := drop_two h1
    have hk1 : k < s.size := by omega
    rw [hd] at hq
    obtain ⟨x, hx⟩ : ∃ x, s[k] = x := ⟨_, rfl⟩
    obtain ⟨y, hy⟩ : ∃ y, s[k + 1] = y := ⟨_, rfl⟩
    rw [hx, hy] at hq
    clear hd
    have hi : (k : Int) + 1 < (s.size : Int) := by omega
    by_cases hx92 : x = 92
    · have e1 : ((x.toNat : Int) == 92) = true := by rw [hx92]; rfl
      by_cases hy1 : y = 100
      · have e2 : ((y.toNat : Int) == 100) = true := by rw [hy1]; rfl
        have Hq := hide (show q = true by rw [← hq, hx92, hy1]; rfl)
        clear hq hx92 hy1
        go_enter Tryz.func119, Tryz.ntmps119
        go_wp2
        go_ret
        exact ⟨ret_bool Hq.out.symm, rfl⟩
      · have e2 : ((y.toNat : Int) == 100) = false := (u8_eq (n := 100) (z := 100) rfl).trans (decide_eq_false hy1)
        by_cases hy2 : y = 119
        · have e3 : ((y.toNat : Int) == 119) = true := by rw [hy2]; rfl
          have Hq := hide (show q = true by rw [← hq, hx92, hy2]; rfl)
          clear hq hx92 hy1 hy2
          go_enter Tryz.func119, Tryz.ntmps119
          go_wp2
          go_ret
          exact ⟨ret_bool Hq.out.symm, rfl⟩
        · have e3 : ((y.toNat : Int) == 119) = false := (u8_eq (n := 119) (z := 119) rfl).trans (decide_eq_false hy2)
          have Hq := hide (show q = false by rw [← hq]; simp [classS, hy1, hy2])
          clear hq hx92 hy1 hy2
          go_enter Tryz.func119, Tryz.ntmps119
          go_wp2
          go_ret
          exact ⟨ret_bool Hq.out.symm, rfl⟩
    · have e1 : ((x.toNat : Int) == 92) = false := (u8_eq (n := 92) (z := 92) rfl).trans (decide_eq_false hx92)
      have Hq := hide (show q = false by rw [← hq]; simp [classS, hx92])
      clear hq hx92
      go_enter Tryz.func119, Tryz.ntmps119
      go_wp2
      go_ret
      exact ⟨ret_bool Hq.out.symm, rfl⟩
  · have hi : ¬ (k : Int) + 1 < (s.size : Int) := by omega
    have Hq := hide (show q = false by
      have hl := size_list s
      rw [← hq]
      have hlen : (s.data.toList.drop k).length ≤ 1 := by rw [List.length_drop]; omega
      match hdd : s.data.toList.drop k with
      | [] => rfl
      | [x] => simp [classS]
      | _ :: _ :: _ => rw [hdd] at hlen; simp at hlen)
    clear hq h1
    go_enter Tryz.func119, Tryz.ntmps119
    go_wp2
    go_ret
    exact ⟨ret_bool Hq.out.symm, rfl⟩

end Go.Proofs.YtmiegjefmebpdaaGreatDoor
