/- Walks of the byte tests, of names and of the small functions on strings. -/
import Derived.Test.YtlabdaomgogflaaDoorProg
import Derived.Test.YtlabdaomgogflaaDoorPl
import Derived.Test.YtlabdaomgogflaaDoorBs
import Derived.Test.YtlabdaomgogflaaDoorShelf
namespace Go.Proofs.YtlabdaomgogflaaDoor
open Go.RowKit

def nmI (c : Int) : Bool := decide ((97 ≤ c ∧ c ≤ 122) ∨ (65 ≤ c ∧ c ≤ 90) ∨ (48 ≤ c ∧ c ≤ 57) ∨ c = 46 ∨ c = 95 ∨ c = 45)
theorem nmI_byte (c : UInt8) : nmI (c.toNat : Int) = nmByte c := by
  unfold nmI nmByte
  rw [Bool.eq_iff_iff, decide_eq_true_iff, decide_eq_true_iff]
  omega

set_option maxHeartbeats 400000 in
theorem byte43 (c : Int) (w : World) (_h0 : 0 ≤ c) (_h1 : c ≤ 255) : Calls Tryd.prog 43 #[.int .u8 c] w fun e w' => e = .returned (.bool (nmI c)) ∧ w = w' := by
  go_enter Tryd.func43, Tryd.ntmps43
  go_wp2
  all_goals (go_ret; exact ⟨ret_bool (by (rw [Bool.eq_iff_iff]) <;> simp [nmI] <;> omega), rfl⟩)

set_option maxHeartbeats 400000 in
theorem letter44 (c : Int) (w : World) (_h0 : 0 ≤ c) (_h1 : c ≤ 255) : Calls Tryd.prog 44 #[.int .u8 c] w fun e w' => e = .returned (.bool (decide ((97 ≤ c ∧ c ≤ 122) ∨ (65 ≤ c ∧ c ≤ 90)))) ∧ w = w' := by
  go_enter Tryd.func44, Tryd.ntmps44
  go_wp2
  all_goals (go_ret; exact ⟨ret_bool (by (rw [Bool.eq_iff_iff]) <;> simp <;> omega), rfl⟩)
set_option maxHeartbeats 400000 in
theorem digit45 (c : Int) (w : World) (_h0 : 0 ≤ c) (_h1 : c ≤ 255) : Calls Tryd.prog 45 #[.int .u8 c] w fun e w' => e = .returned (.bool (decide (48 ≤ c ∧ c ≤ 57))) ∧ w = w' := by
  go_enter Tryd.func45, Tryd.ntmps45
  go_wp2
  all_goals (go_ret; exact ⟨ret_bool (by (rw [Bool.eq_iff_iff]) <;> simp <;> omega), rfl⟩)

theorem name_bad (s : ByteArray) (h : s.toList.isEmpty = true ∨ 24 < s.size ∨ (s.toList == [46]) = true ∨ (s.toList == [46, 46]) = true) : false = nameOk s.data.toList := by
  rw [Lib.toList_data] at h
  symm
  rw [Bool.eq_false_iff]
  intro hn
  unfold nameOk at hn
  simp only [Bool.and_eq_true, decide_eq_true_eq, Bool.not_eq_true'] at hn
  obtain ⟨⟨⟨⟨h1, h2⟩, h3⟩, h4⟩, _⟩ := hn
  rcases h with h | h | h | h
  · rw [List.isEmpty_iff] at h
    rw [h] at h1
    simp at h1
  · rw [size_list] at h2
    omega
  · rw [h] at h3; cases h3
  · rw [h] at h4; cases h4
theorem name_byte_bad (s : ByteArray) (k : Nat) (h : k < s.size) (hb : nmByte s[k] = false) : false = nameOk s.data.toList := by
  unfold nameOk
  rw [show s.data.toList.all nmByte = false from ?_, Bool.and_false]
  rw [List.all_eq_false]
  refine ⟨s[k], ?_, by simp [hb]⟩
  have : s[k] = s.data.toList[k]'(by simpa using h) := rfl
  rw [this]; exact List.getElem_mem _
theorem name_good (s : ByteArray) (k : Nat) (hk : k = s.size) (h1 : s.toList.isEmpty = false) (h2 : s.size ≤ 24) (h3 : (s.toList == [46]) = false) (h4 : (s.toList == [46, 46]) = false) (h : (s.data.toList.take k).all nmByte = true) : true = nameOk s.data.toList := by
  rw [Lib.toList_data] at h1 h3 h4
  rw [List.take_of_length_le (by simp [hk])] at h
  unfold nameOk
  have h5 : 1 ≤ s.data.toList.length := by
    cases hl : s.data.toList with
    | nil => rw [hl] at h1; simp at h1
    | cons a l => simp
  have h6 : s.data.toList.length ≤ 24 := by rw [size_list]; omega
  rw [h, decide_eq_true h5, decide_eq_true h6, h3, h4]
  rfl
theorem take_all_snoc (s : ByteArray) (k : Nat) (h : k < s.size) (p : UInt8 → Bool) : (s.data.toList.take (k + 1)).all p = ((s.data.toList.take k).all p && p s[k]) := by
  have : s.data.toList.take (k + 1) = s.data.toList.take k ++ [s[k]] := by
    rw [List.take_succ_eq_append_getElem (by simpa using h)]; rfl
  rw [this, List.all_append]; simp

set_option maxHeartbeats 400000 in
theorem name30 (s : ByteArray) (w : World) (hs : s.size ≤ 100000) : Calls Tryd.prog 30 #[.string s] w fun e w' => e = .returned (.bool (nameOk s.data.toList)) ∧ w = w' := by
  have hbad := name_bad s
  have Hbad := hide hbad
  clear hbad
  by_cases e0 : s.toList.isEmpty = true
  · go_enter Tryd.func30, Tryd.ntmps30
    go_wp2
    go_ret; exact ⟨ret_bool (Hbad.out (Or.inl e0)), rfl⟩
  replace e0 : s.toList.isEmpty = false := by simpa using e0
  by_cases e1 : 24 < s.size
  · go_enter Tryd.func30, Tryd.ntmps30
    go_wp2
    go_ret; exact ⟨ret_bool (Hbad.out (Or.inr (Or.inl e1))), rfl⟩
  by_cases e2 : (s.toList == [46]) = true
  · go_enter Tryd.func30, Tryd.ntmps30
    go_wp2
    go_ret; exact ⟨ret_bool (Hbad.out (Or.inr (Or.inr (Or.inl e2)))), rfl⟩
  replace e2 : (s.toList == [46]) = false := by simpa using e2
  by_cases e3 : (s.toList == [46, 46]) = true
  · go_enter Tryd.func30, Tryd.ntmps30
    go_wp2
    go_ret; exact ⟨ret_bool (Hbad.out (Or.inr (Or.inr (Or.inr e3)))), rfl⟩
  replace e3 : (s.toList == [46, 46]) = false := by simpa using e3
  have hgood := fun k hk h => name_good s k hk e0 (by omega) e2 e3 h
  have Hgood := hide hgood
  clear hgood
  go_enter Tryd.func30, Tryd.ntmps30
  go_wp2
  clear e0 e2 e3
  go_loop [21] (fun i => ∃ k : Nat, k ≤ s.size ∧ i = .int .i64 k ∧ (s.data.toList.take k).all nmByte = true) (fun i => s.size - (intOf i).toNat)
  case atStart => exact ⟨0, Nat.zero_le _, rfl, rfl⟩
  case round =>
    obtain ⟨k, hk, rfl, hall⟩ := hrel
    have Hall := hide hall
    clear hall
    by_cases hlt : k < s.size
    · have hbb : s[k].toNat < 256 := UInt8.toNat_lt _
      cases hx : nmI (s[k].toNat : Int)
      · go_wp2_with (go_at_call 43; refine (byte43 _ _ (by omega) (by omega)).mono ?_; rintro e w' ⟨rfl, rfl⟩)
        go_ret
        exact ⟨ret_bool (name_byte_bad s k hlt (by rw [← nmI_byte]; exact hx)), rfl⟩
      · go_wp2_with (go_at_call 43; refine (byte43 _ _ (by omega) (by omega)).mono ?_; rintro e w' ⟨rfl, rfl⟩)
        go_round
        case rel => exact ⟨k + 1, by omega, by go_num, by rw [take_all_snoc s k hlt, Hall.out, ← nmI_byte, hx]; rfl⟩
        case measure => simp [intOf]; omega
    · have hke : k = s.size := by omega
      have Hke := hide hke
      clear hke
      go_wp2
      go_ret
      exact ⟨ret_bool (Hgood.out k Hke.out Hall.out), rfl⟩

set_option maxHeartbeats 400000 in
theorem name31 (s : ByteArray) (w : World) (hs : s.size ≤ 100000) : Calls Tryd.prog 31 #[.string s] w fun e w' => e = .returned (.bool (nameOk s.data.toList)) ∧ w = w' := by
  have hbad := name_bad s
  have Hbad := hide hbad
  clear hbad
  by_cases e0 : s.size < 1
  · go_enter Tryd.func31, Tryd.ntmps31
    go_wp2
    go_ret; exact ⟨ret_bool (Hbad.out (Or.inl (by rw [Lib.toList_data, List.isEmpty_iff, ← List.length_eq_zero_iff, size_list]; omega))), rfl⟩
  by_cases e1 : 24 < s.size
  · go_enter Tryd.func31, Tryd.ntmps31
    go_wp2
    go_ret; exact ⟨ret_bool (Hbad.out (Or.inr (Or.inl e1))), rfl⟩
  by_cases e2 : (s.toList == [46]) = true
  · go_enter Tryd.func31, Tryd.ntmps31
    go_wp2
    go_ret; exact ⟨ret_bool (Hbad.out (Or.inr (Or.inr (Or.inl e2)))), rfl⟩
  replace e2 : (s.toList == [46]) = false := by simpa using e2
  by_cases e3 : (s.toList == [46, 46]) = true
  · go_enter Tryd.func31, Tryd.ntmps31
    go_wp2
    go_ret; exact ⟨ret_bool (Hbad.out (Or.inr (Or.inr (Or.inr e3)))), rfl⟩
  replace e3 : (s.toList == [46, 46]) = false := by simpa using e3
  have hgood := fun k hk h => name_good s k hk (not_empty s (by omega)) (by omega) e2 e3 h
  have Hgood := hide hgood
  clear hgood
  go_enter Tryd.func31, Tryd.ntmps31
  go_wp2
  clear e2 e3
  go_loop [3] (fun i => ∃ k : Nat, k ≤ s.size ∧ i = .int .i64 k ∧ (s.data.toList.take k).all nmByte = true) (fun i => s.size - (intOf i).toNat)
  case atStart => exact ⟨0, Nat.zero_le _, rfl, rfl⟩
  case round =>
    obtain ⟨k, hk, rfl, hall⟩ := hrel
    have Hall := hide hall
    clear hall
    by_cases hlt : k < s.size
    · have hbb : s[k].toNat < 256 := UInt8.toNat_lt _
      have hyes : nmI (s[k].toNat : Int) = true → (s.data.toList.take (k + 1)).all nmByte = true := fun h => by rw [take_all_snoc s k hlt, Hall.out, ← nmI_byte, h]; rfl
      have hno : nmI (s[k].toNat : Int) = false → false = nameOk s.data.toList := fun h => name_byte_bad s k hlt (by rw [← nmI_byte]; exact h)
      have Hyes := hide hyes
      have Hno := hide hno
      clear hyes hno
      cases d1 : decide ((97 ≤ (s[k].toNat : Int) ∧ (s[k].toNat : Int) ≤ 122) ∨ (65 ≤ (s[k].toNat : Int) ∧ (s[k].toNat : Int) ≤ 90))
      · cases d2 : decide (48 ≤ (s[k].toNat : Int) ∧ (s[k].toNat : Int) ≤ 57)
        · cases b1 : ((s[k].toNat : Int) != 46)
          · go_wp2_with (first | (go_at_call 44; refine (letter44 _ _ (by omega) (by omega)).mono ?_; rintro e w' ⟨rfl, rfl⟩) | (go_at_call 45; refine (digit45 _ _ (by omega) (by omega)).mono ?_; rintro e w' ⟨rfl, rfl⟩))
            go_round
            case rel => exact ⟨k + 1, by omega, by go_num, Hyes.out (by simp at b1; simp [nmI]; omega)⟩
            case measure => simp [intOf]; omega
          · cases b2 : ((s[k].toNat : Int) != 95)
            · go_wp2_with (first | (go_at_call 44; refine (letter44 _ _ (by omega) (by omega)).mono ?_; rintro e w' ⟨rfl, rfl⟩) | (go_at_call 45; refine (digit45 _ _ (by omega) (by omega)).mono ?_; rintro e w' ⟨rfl, rfl⟩))
              go_round
              case rel => exact ⟨k + 1, by omega, by go_num, Hyes.out (by simp at b2; simp [nmI]; omega)⟩
              case measure => simp [intOf]; omega
            · cases b3 : ((s[k].toNat : Int) != 45)
              · go_wp2_with (first | (go_at_call 44; refine (letter44 _ _ (by omega) (by omega)).mono ?_; rintro e w' ⟨rfl, rfl⟩) | (go_at_call 45; refine (digit45 _ _ (by omega) (by omega)).mono ?_; rintro e w' ⟨rfl, rfl⟩))
                go_round
                case rel => exact ⟨k + 1, by omega, by go_num, Hyes.out (by simp at b3; simp [nmI]; omega)⟩
                case measure => simp [intOf]; omega
              · go_wp2_with (first | (go_at_call 44; refine (letter44 _ _ (by omega) (by omega)).mono ?_; rintro e w' ⟨rfl, rfl⟩) | (go_at_call 45; refine (digit45 _ _ (by omega) (by omega)).mono ?_; rintro e w' ⟨rfl, rfl⟩))
                go_ret
                exact ⟨ret_bool (Hno.out (by simp at d1 d2 b1 b2 b3; simp [nmI]; omega)), rfl⟩
        · go_wp2_with (first | (go_at_call 44; refine (letter44 _ _ (by omega) (by omega)).mono ?_; rintro e w' ⟨rfl, rfl⟩) | (go_at_call 45; refine (digit45 _ _ (by omega) (by omega)).mono ?_; rintro e w' ⟨rfl, rfl⟩))
          go_round
          case rel => exact ⟨k + 1, by omega, by go_num, Hyes.out (by simp at d2; simp [nmI]; omega)⟩
          case measure => simp [intOf]; omega
      · go_wp2_with (go_at_call 44; refine (letter44 _ _ (by omega) (by omega)).mono ?_; rintro e w' ⟨rfl, rfl⟩)
        go_round
        case rel => exact ⟨k + 1, by omega, by go_num, Hyes.out (by simp at d1; simp [nmI]; omega)⟩
        case measure => simp [intOf]; omega
    · have hke : k = s.size := by omega
      have Hke := hide hke
      clear hke
      go_wp2
      go_ret
      exact ⟨ret_bool (Hgood.out k Hke.out Hall.out), rfl⟩

end Go.Proofs.YtlabdaomgogflaaDoor
