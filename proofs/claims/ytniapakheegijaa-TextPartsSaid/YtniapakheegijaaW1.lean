/- Walks of the byte tests. -/
import Derived.Test.YtniapakheegijaaProg
import Derived.WalkKit
import Derived.WalkSpells
import Derived.WalkLawsBesides
namespace Go.Proofs.Ytniapakheegijaa
open Go.RowKit

theorem hide {p : Prop} (h : p) : Hid p := h
theorem ret_int {k : IntKind} {a b : Int} (h : a = b) : Ending.returned (.int k a) = .returned (.int k b) := by rw [h]
theorem ret_bool {a b : Bool} (h : a = b) : Ending.returned (.bool a) = .returned (.bool b) := by rw [h]

def wordI (c : Int) : Bool := decide ((97 ≤ c ∧ c ≤ 122) ∨ (65 ≤ c ∧ c ≤ 90) ∨ (48 ≤ c ∧ c ≤ 57) ∨ c = 95)
def textI (c : Int) : Bool := decide (c = 9 ∨ c = 10 ∨ (32 ≤ c ∧ c ≤ 126))
def foldI (c : Int) : Int := if 65 ≤ c ∧ c ≤ 90 then c + 32 else c

set_option maxHeartbeats 400000 in
theorem word31 (c : Int) (w : World) (_h0 : 0 ≤ c) (_h1 : c ≤ 255) : Calls Try.prog 31 #[.int .u8 c] w fun e w' => e = .returned (.bool (wordI c)) ∧ w = w' := by
  go_enter Try.func31, Try.ntmps31
  go_wp2
  all_goals (go_ret; exact ⟨ret_bool (by rw [Bool.eq_iff_iff]; simp [wordI]; omega), rfl⟩)

set_option maxHeartbeats 400000 in
theorem word41 (c : Int) (w : World) (_h0 : 0 ≤ c) (_h1 : c ≤ 255) : Calls Try.prog 41 #[.int .u8 c] w fun e w' => e = .returned (.bool (wordI c)) ∧ w = w' := by
  go_enter Try.func41, Try.ntmps41
  go_wp2
  all_goals (go_ret; exact ⟨ret_bool (by rw [Bool.eq_iff_iff]; simp [wordI]; omega), rfl⟩)

set_option maxHeartbeats 400000 in
theorem text32 (c : Int) (w : World) (_h0 : 0 ≤ c) (_h1 : c ≤ 255) : Calls Try.prog 32 #[.int .u8 c] w fun e w' => e = .returned (.bool (textI c)) ∧ w = w' := by
  go_enter Try.func32, Try.ntmps32
  go_wp2
  all_goals (go_ret; exact ⟨ret_bool (by rw [Bool.eq_iff_iff]; simp [textI]; omega), rfl⟩)

set_option maxHeartbeats 400000 in
theorem fold33 (c : Int) (w : World) (_h0 : 0 ≤ c) (_h1 : c ≤ 255) : Calls Try.prog 33 #[.int .u8 c] w fun e w' => e = .returned (.int .u8 (foldI c)) ∧ w = w' := by
  by_cases h : 65 ≤ c ∧ c ≤ 90
  · obtain ⟨h2, h3⟩ := h
    go_enter Try.func33, Try.ntmps33
    go_wp2
    go_ret
    exact ⟨ret_int (by simp [foldI, h2, h3]), rfl⟩
  · by_cases h2 : 65 ≤ c
    · have h3 : ¬ c ≤ 90 := by omega
      clear h
      go_enter Try.func33, Try.ntmps33
      go_wp2
      go_ret
      exact ⟨ret_int (by rw [foldI, if_neg (by omega)]), rfl⟩
    · clear h
      go_enter Try.func33, Try.ntmps33
      go_wp2
      go_ret
      exact ⟨ret_int (by rw [foldI, if_neg (by omega)]), rfl⟩

def validL (l : List UInt8) : Bool := decide (l.length ≤ 2000) && l.all (fun c => textI (c.toNat : Int))

theorem take_all_snoc (s : ByteArray) (k : Nat) (h : k < s.size) (p : UInt8 → Bool) : (s.data.toList.take (k + 1)).all p = ((s.data.toList.take k).all p && p s[k]) := by
  have : s.data.toList.take (k + 1) = s.data.toList.take k ++ [s[k]] := by
    rw [List.take_succ_eq_append_getElem (by simpa using h)]; rfl
  rw [this, List.all_append]; simp

theorem all_false (s : ByteArray) (k : Nat) (h : k < s.size) (p : UInt8 → Bool) (hp : p s[k] = false) : s.data.toList.all p = false := by
  rw [List.all_eq_false]
  refine ⟨s[k], ?_, by simp [hp]⟩
  have : s[k] = s.data.toList[k]'(by simpa using h) := rfl
  rw [this]; exact List.getElem_mem _

theorem valid_big (s : ByteArray) (h : 2000 < s.size) : false = validL s.data.toList := by
  have : ¬ s.size ≤ 2000 := by omega
  simp [validL, this]

theorem valid_end (s : ByteArray) (k : Nat) (hk : k = s.size) (hb : s.size ≤ 2000) (h : (s.data.toList.take k).all (fun c => textI (c.toNat : Int)) = true) : true = validL s.data.toList := by
  rw [List.take_of_length_le (by simp [hk])] at h
  rw [validL, h]; simp [hb]

set_option maxHeartbeats 400000 in
theorem valid12 (s : ByteArray) (w : World) (hs : s.size ≤ 100000) : Calls Try.prog 12 #[.string s] w fun e w' => e = .returned (.bool (validL s.data.toList)) ∧ w = w' := by
  by_cases hb : 2000 < s.size
  · go_enter Try.func12, Try.ntmps12
    go_wp2
    go_ret
    exact ⟨ret_bool (valid_big s hb), rfl⟩
  · go_enter Try.func12, Try.ntmps12
    go_wp2
    go_loop [9] (fun i => ∃ k : Nat, k ≤ s.size ∧ i = .int .i64 k ∧ (s.data.toList.take k).all (fun c => textI (c.toNat : Int)) = true) (fun i => s.size - (intOf i).toNat)
    case atStart => exact ⟨0, Nat.zero_le _, rfl, rfl⟩
    case round =>
      obtain ⟨k, hk, rfl, hall⟩ := hrel
      have Hall := hide hall
      clear hall
      by_cases hlt : k < s.size
      · have hbb : s[k].toNat < 256 := UInt8.toNat_lt _
        cases hx : textI (s[k].toNat : Int)
        · go_wp2_with (go_at_call 32; refine (text32 _ _ (by omega) (by omega)).mono ?_; rintro e w' ⟨rfl, rfl⟩)
          go_ret
          refine ⟨ret_bool ?_, rfl⟩
          exact (by rw [validL, all_false s k hlt _ hx]; simp)
        · go_wp2_with (go_at_call 32; refine (text32 _ _ (by omega) (by omega)).mono ?_; rintro e w' ⟨rfl, rfl⟩)
          go_round
          case rel => exact ⟨k + 1, by omega, by go_num, by rw [take_all_snoc s k hlt, Hall.out, hx]; rfl⟩
          case measure => simp [intOf]; omega
      · have hke : k = s.size := by omega
        have Hke := hide hke
        clear hke
        go_wp2
        go_ret
        exact ⟨ret_bool (valid_end s k Hke.out (by omega) Hall.out), rfl⟩

end Go.Proofs.Ytniapakheegijaa
