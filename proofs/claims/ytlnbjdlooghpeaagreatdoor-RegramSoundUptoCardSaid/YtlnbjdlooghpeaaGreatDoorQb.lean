/- Layer 10: walks of the reference: right, Right, holds, Eval. -/
import Derived.Test.YtlnbjdlooghpeaaGreatDoorQa
namespace Go.Proofs.YtlnbjdlooghpeaaGreatDoor
open Go.RowKit

theorem right_mk (lv : Nat) (k g : Int) (l : List Nd) : rightN lv (.mk k g l) = if 40 < lv ∨ k < 1 ∨ 5 < k then false else if k = 3 then decide (0 ≤ g) && decide (g < 16777216) && decide (l.length = 0) else if g ≠ 0 then false else if k = 1 ∨ k = 2 then decide (l.length = 0) else rightNL (lv + 1) l && decide (2 ≤ l.length) := by rw [rightN]
theorem holds_mk (c : List Int) (k g : Int) (l : List Nd) : holdsN c (.mk k g l) = if k = 3 then decide (g ∈ c) else if k = 5 then anyN c l else allN' c l && (decide (k = 1) || decide (k = 4)) := by rw [holdsN]
theorem int_beq {a b : Int} (h : a = b) : (a == b) = true := by rw [h]; simp
theorem int_nbeq {a b : Int} (h : a ≠ b) : (a == b) = false := beq_eq_false_iff_ne.2 h

end Go.Proofs.YtlnbjdlooghpeaaGreatDoor
