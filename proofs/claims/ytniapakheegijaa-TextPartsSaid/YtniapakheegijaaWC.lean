/- The lines of an excerpt, plainly; the closure that finds a line. -/
import Derived.Test.YtniapakheegijaaWB
namespace Go.Proofs.Ytniapakheegijaa
open Go.RowKit

def keep (a b : Nat) (ar : Int) (i : Nat) : Bool := decide ((a : Int) - i ≤ ar ∧ (i : Int) - b ≤ ar)
def lb (s : ByteArray) (i : Nat) : List UInt8 := (lineStr s ((starts s.data.toList s.size).getD i 0)).data.toList
def outN (s : ByteArray) (a b : Nat) (ar : Int) (k : Nat) : List UInt8 := (upto (keep a b ar) k).flatMap fun i => lb s i ++ [10]
def mk (l : List UInt8) : ByteArray := ⟨l.toArray⟩

theorem outN_yes (s : ByteArray) (a b : Nat) (ar : Int) (k : Nat) (h : keep a b ar k = true) : outN s a b ar (k + 1) = outN s a b ar k ++ lb s k ++ [10] := by
  unfold outN
  rw [upto_yes _ _ h, List.flatMap_append]
  simp
theorem outN_no (s : ByteArray) (a b : Nat) (ar : Int) (k : Nat) (h : keep a b ar k = false) : outN s a b ar (k + 1) = outN s a b ar k := by
  unfold outN
  rw [upto_no _ _ h]
theorem outN_skip (s : ByteArray) (a b : Nat) (ar : Int) (k m : Nat) (h : ∀ j, k ≤ j → j < k + m → keep a b ar j = false) : outN s a b ar (k + m) = outN s a b ar k := by
  unfold outN
  rw [upto_skip _ _ _ h]
theorem outN_zero (s : ByteArray) (a b : Nat) (ar : Int) : outN s a b ar 0 = [] := rfl

theorem lb_len (s : ByteArray) (i : Nat) : (lb s i).length ≤ s.size := by
  unfold lb lineStr
  simp
  omega
theorem outN_len (s : ByteArray) (a b : Nat) (ar : Int) : ∀ k, (outN s a b ar k).length ≤ k * (s.size + 1) := by
  intro k
  induction k with
  | zero =>
    rw [outN_zero, List.length_nil]
    exact Nat.zero_le _
  | succ k ih =>
    have h2 := lb_len s k
    rw [Nat.add_mul, Nat.one_mul]
    generalize k * (s.size + 1) = m at ih
    cases h : keep a b ar k
    · rw [outN_no _ _ _ _ _ h]
      omega
    · rw [outN_yes _ _ _ _ _ h, List.length_append, List.length_append]
      have h1 : [(10 : UInt8)].length = 1 := rfl
      omega
/-- An excerpt of a text of at most 2,100 bytes is short. -/
theorem outN_small (s : ByteArray) (a b : Nat) (ar : Int) (k : Nat) (hs : s.size ≤ 2100) (hk : k ≤ 2100) : (outN s a b ar k).length ≤ 4412100 :=
  Nat.le_trans (outN_len s a b ar k) (Nat.le_trans (Nat.mul_le_mul hk (Nat.succ_le_succ hs)) (by decide))

/-- The line of an offset that may be the end. -/
theorem lineNo_min (s : ByteArray) (off : Nat) (h0 : 0 < s.size) (h : off ≤ s.size) : min (lineNo s.data.toList off) ((starts s.data.toList s.size).length - 1) = lineNo s.data.toList (min off (s.size - 1)) := by
  have hl := starts_len s.data.toList (by rw [size_list]; exact h0)
  rw [size_list] at hl
  rw [hl, show lineNo s.data.toList (s.size - 1) + 1 - 1 = lineNo s.data.toList (s.size - 1) by omega]
  by_cases hlt : off < s.size
  · rw [show min off (s.size - 1) = off by omega]
    have := lineNo_mono s.data.toList off (s.size - 1 - off) (by rw [size_list]; omega)
    rw [show off + (s.size - 1 - off) = s.size - 1 by omega] at this
    omega
  · have he : off = s.size - 1 + 1 := by omega
    have h2 := lineNo_succ s.data.toList (s.size - 1) (by rw [size_list]; omega)
    rw [he, h2, show min (s.size - 1 + 1) (s.size - 1) = s.size - 1 by omega]
    omega
theorem lineNo_lt (s : ByteArray) (off : Nat) (h0 : 0 < s.size) (h : off ≤ s.size - 1) : lineNo s.data.toList off < (starts s.data.toList s.size).length := by
  have := starts_at s.data.toList off (by rw [size_list]; omega)
  rw [size_list] at this
  exact (List.getElem?_eq_some_iff.1 this).1
theorem lineNo_le_of (s : ByteArray) (p q : Nat) (h : p ≤ q) (hq : q ≤ s.size) : lineNo s.data.toList p ≤ lineNo s.data.toList q := by
  have := lineNo_mono s.data.toList p (q - p) (by rw [size_list]; omega)
  rwa [show p + (q - p) = q by omega] at this

set_option maxHeartbeats 800000 in
theorem lineOf42 (s : ByteArray) (L off : Nat) (Bs Bl : Nat) (ao : Option Addr) (cap : Nat) (w : World) (hL : (starts s.data.toList s.size).length = L) (hs : s.size ≤ 100000) (h0 : 0 < s.size) (ho : off ≤ s.size)
    (hcs : w.cell? ⟨Bs, 0, none⟩ = some (.string s)) (hcl : w.cell? ⟨Bl, 0, none⟩ = some (.slice ao L cap)) :
    Calls Try.prog 42 #[.int .i64 off, .pointer (some ⟨Bs, 0, none⟩), .pointer (some ⟨Bl, 0, none⟩)] w fun e w' => e = .returned (.int .i64 (lineNo s.data.toList (min off (s.size - 1)) : Nat)) ∧ Drawn w w' := by
  have hmin := lineNo_min s off h0 ho
  have hL2 : L ≤ 100000 := by rw [← hL]; exact Nat.le_trans (upto_len _ _) hs
  have hL1 : 1 ≤ L := by
    have h1 := starts_len s.data.toList (by rw [size_list]; exact h0)
    rw [size_list] at h1
    omega
  rw [hL] at hmin
  have Hmin := hide hmin
  have hle := lineNo_le s.data.toList off
  clear hmin hL
  have ho' : (off : Int) ≤ (s.size : Int) := by omega
  have ho0 : (0 : Int) ≤ (off : Int) := by omega
  go_enter Try.func42, Try.ntmps42
  go_wp2_with fail
  go_quiet ((go_at_call 38; exact quiet_left (count38 _ _ _)))
  go_wp2
  go_ret
  exact ⟨ret_int (by have := Hmin.out; omega), ⟨_, rfl⟩⟩

end Go.Proofs.Ytniapakheegijaa
