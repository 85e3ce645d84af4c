/- Excerpt of the reference at inputs that are no spans; Excerpt. -/
import Derived.Test.YtniapakheegijaaWD
namespace Go.Proofs.Ytniapakheegijaa
open Go.RowKit

def NoExc (s : ByteArray) (p q ar : Int) : Prop :=
  p < 0 ∨ (0 ≤ p ∧ q < p) ∨ (0 ≤ p ∧ p ≤ q ∧ (s.size : Int) < q) ∨ (0 ≤ p ∧ p ≤ q ∧ q ≤ (s.size : Int) ∧ ar < 0) ∨ (0 ≤ p ∧ p ≤ q ∧ q ≤ (s.size : Int) ∧ 0 ≤ ar ∧ s.size = 0)

set_option maxHeartbeats 1600000 in
theorem exc30_no (s : ByteArray) (p q ar : Int) (w : World) (h : NoExc s p q ar) : Calls Try.prog 30 #[.string s, .agg #[.int .i64 p, .int .i64 q], .int .i64 ar] w fun e w' => e = .returned (.string ⟨#[]⟩) ∧ Below w.heap.size w w' := by
  rcases h with h1 | ⟨h1, h2⟩ | ⟨h1, h2, h3⟩ | ⟨h1, h2, h3, h4⟩ | ⟨h1, h2, h3, h4, h5⟩
  · go_enter Try.func30, Try.ntmps30
    go_wp2
    go_ret
    exact ⟨rfl, (Below.refl _ _).alloc (Nat.le_refl _) _⟩
  · go_enter Try.func30, Try.ntmps30
    go_wp2
    go_ret
    exact ⟨rfl, (Below.refl _ _).alloc (Nat.le_refl _) _⟩
  · go_enter Try.func30, Try.ntmps30
    go_wp2
    go_ret
    exact ⟨rfl, (Below.refl _ _).alloc (Nat.le_refl _) _⟩
  · go_enter Try.func30, Try.ntmps30
    go_wp2
    go_ret
    exact ⟨rfl, (Below.refl _ _).alloc (Nat.le_refl _) _⟩
  · have hz : ((s.size : Int) == 0) = true := beq_iff_eq.2 (by omega)
    clear h5
    go_enter Try.func30, Try.ntmps30
    go_wp2
    go_ret
    exact ⟨rfl, (Below.refl _ _).alloc (Nat.le_refl _) _⟩

set_option maxHeartbeats 1600000 in
theorem exc29_no (s : ByteArray) (p q ar : Int) (w : World) (hs : s.size ≤ 2100) (h : NoExc s p q ar) : Calls Try.prog 29 #[.string s, .agg #[.int .i64 p, .int .i64 q], .int .i64 ar] w fun e w' => e = .returned (.string ⟨#[]⟩) ∧ Below w.heap.size w w' := by
  rcases h with h1 | ⟨h1, h2⟩ | ⟨h1, h2, h3⟩ | ⟨h1, h2, h3, h4⟩ | ⟨h1, h2, h3, h4, h5⟩
  · go_enter Try.func29, Try.ntmps29
    go_wp2
    go_ret
    exact ⟨rfl, ((Below.refl _ _).alloc (Nat.le_refl _) _).alloc (by simp) _⟩
  · go_enter Try.func29, Try.ntmps29
    go_wp2
    go_ret
    exact ⟨rfl, ((Below.refl _ _).alloc (Nat.le_refl _) _).alloc (by simp) _⟩
  · go_enter Try.func29, Try.ntmps29
    go_wp2
    go_ret
    exact ⟨rfl, ((Below.refl _ _).alloc (Nat.le_refl _) _).alloc (by simp) _⟩
  · go_enter Try.func29, Try.ntmps29
    go_wp2
    go_ret
    exact ⟨rfl, ((Below.refl _ _).alloc (Nat.le_refl _) _).alloc (by simp) _⟩
  · have hz : s = ByteArray.empty := ByteArray.ext (Array.eq_empty_of_size_eq_zero h5)
    subst hz
    go_enter Try.func29, Try.ntmps29
    go_wp2
    go_ret
    exact ⟨rfl, ((Below.refl _ _).alloc (Nat.le_refl _) _).alloc (by simp) _⟩

end Go.Proofs.Ytniapakheegijaa
