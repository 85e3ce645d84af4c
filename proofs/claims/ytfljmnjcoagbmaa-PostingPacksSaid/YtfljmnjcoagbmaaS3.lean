/- Walks of layer 5's program: the first elements compared, the three tests. -/
import Derived.Test.YtfljmnjcoagbmaaS2
namespace Go.Proofs.Ytfljmnjcoagbmaa
open Go.RowKit

/-- Two lists compared by their first elements; an empty one counts as the greater. -/
def cmpF (a b : List Int) : Int := match a, b with
  | [], _ => 1
  | _ :: _, [] => -1
  | x :: _, y :: _ => if x < y then -1 else if y < x then 1 else 0

theorem comp65 (x y : Int) (w : World) : Calls Try.prog 65 #[.int .i64 x, .int .i64 y] w fun e w' => e = .returned (.int .i64 (Lib.compareInt x y)) ∧ w = w' :=
  (Try.cmp_Compare_int x y w).mono fun _ _ h => ⟨h.1, h.2.symm⟩
theorem cmp_is (x y : Int) (a b : List Int) (hx : a[0]? = some x) (hy : b[0]? = some y) : cmpF a b = Lib.compareInt x y := by
  cases a with
  | nil => simp at hx
  | cons x' a =>
    cases b with
    | nil => simp at hy
    | cons y' b =>
      simp at hx hy
      subst hx hy
      show (if _ then _ else _) = _
      unfold Lib.compareInt
      repeat' split
      all_goals first | rfl | omega

set_option maxRecDepth 20000 in
set_option maxHeartbeats 1600000 in
theorem first51 (A A' : Option Addr) (n c n' c' : Nat) (a b : List Int) (w : World) (h : Sl w A n c (numCells a)) (h' : Sl w A' n' c' (numCells b)) :
    Calls Try.prog 51 #[.slice A n c, .slice A' n' c'] w fun e w' => e = .returned (.int .i64 (cmpF a b)) ∧ Drawn w w' := by
  have hnc := h.1
  have hc := h.2.1
  have hnc' := h'.1
  have hc' := h'.2.1
  have hl := h.nlen
  have hl' := h'.nlen
  have H := hide h
  have H' := hide h'
  clear h h'
  by_cases h0 : n = 0
  · subst h0
    obtain rfl : a = [] := List.eq_nil_of_length_eq_zero hl
    clear hl hl'
    go_enter Try.func51, Try.ntmps51
    go_wp2
    go_ret
    exact ⟨rfl, Drawn.refl _⟩
  have e0 : ((n : Int) == 0) = false := beq_eq_false_iff_ne.2 (by omega)
  by_cases h1 : n' = 0
  · subst h1
    obtain rfl : b = [] := List.eq_nil_of_length_eq_zero hl'
    obtain ⟨x, a', rfl⟩ : ∃ x a', a = x :: a' := by
      cases a with
      | nil => simp at hl; omega
      | cons x a' => exact ⟨x, a', rfl⟩
    clear hl hl'
    go_enter Try.func51, Try.ntmps51
    go_wp2
    go_ret
    exact ⟨rfl, Drawn.refl _⟩
  have e1 : ((n' : Int) == 0) = false := beq_eq_false_iff_ne.2 (by omega)
  have hn0 : 0 < n := by omega
  have hn1 : 0 < n' := by omega
  obtain ⟨ad, x, rfl, hx, cx⟩ := num_cell H.out.reads hn0
  obtain ⟨bd, y, rfl, hy, cy⟩ := num_cell H'.out.reads hn1
  have R := hide (cmp_is x y a b hx hy)
  have cx' : w.cell? ad = some (.int .i64 x) := cx
  have cy' : w.cell? bd = some (.int .i64 y) := cy
  have k0 : (0 : Int) < (n : Int) := by omega
  have k1 : (0 : Int) < (n' : Int) := by omega
  clear hx hy hl hl'
  go_enter Try.func51, Try.ntmps51
  go_wp2
  go_quiet ((go_at_call 65; exact quiet_left (comp65 x y _)))
  go_wp2
  go_ret
  exact ⟨ret_int R.out.symm, (Drawn.refl w).more _⟩

set_option maxRecDepth 20000 in
theorem both33 (p q : Bool) (w : World) : Calls Try.prog 33 #[.bool p, .bool q] w fun e w' => e = .returned (.bool (p && q)) ∧ w = w' := by
  cases p <;> cases q
  all_goals
    go_enter Try.func33, Try.ntmps33
    go_wp2
    go_ret
    exact ⟨rfl, rfl⟩
set_option maxRecDepth 20000 in
theorem any35 (p q : Bool) (w : World) : Calls Try.prog 35 #[.bool p, .bool q] w fun e w' => e = .returned (.bool (p || q)) ∧ w = w' := by
  cases p <;> cases q
  all_goals
    go_enter Try.func35, Try.ntmps35
    go_wp2
    go_ret
    exact ⟨rfl, rfl⟩
set_option maxRecDepth 20000 in
theorem rest36 (p q : Bool) (w : World) : Calls Try.prog 36 #[.bool p, .bool q] w fun e w' => e = .returned (.bool (p && !q)) ∧ w = w' := by
  cases p <;> cases q
  all_goals
    go_enter Try.func36, Try.ntmps36
    go_wp2
    go_ret
    exact ⟨rfl, rfl⟩

end Go.Proofs.Ytfljmnjcoagbmaa
