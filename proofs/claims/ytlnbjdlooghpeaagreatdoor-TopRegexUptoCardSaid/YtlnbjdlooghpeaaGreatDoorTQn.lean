/- TopRegex: Qn. -/
import Derived.Test.YtlnbjdlooghpeaaGreatDoorTQk
import Derived.Test.YtlnbjdlooghpeaaGreatDoorTN3
import Derived.Deep.RegionWith
namespace Go.Proofs.YtlnbjdlooghpeaaGreatDoor
open Go.RowKit
def GotA (W : World) (n : Nd) (e : Ending) (w' : World) : Prop := ∃ v, e = .returned v ∧ NdV w' (fun _ => True) v n ∧ Below W.heap.size W w'
theorem GotN.a {W w' : World} {n : Nd} {e : Ending} (h : GotN W n e w') : GotA W n e w' := by
  obtain ⟨v, rfl, h1, h2⟩ := h
  exact ⟨v, rfl, h1.weak fun _ _ => trivial, h2⟩
def WfL (cs : List Int) : Prop := ∀ z ∈ cs, (Lit.int .i64 z).wf = true
structure Cs : Prop where
  lit : ∀ {W : World} {ok : Nat → Prop} {v : Value} {r : Rx}, RxV W ok v r → sizeR r ≤ 1000000 → depthR r ≤ 1000000 → Calls Tryz.prog 12 #[v] W (GotL W (literalsS r))
  of_ : ∀ {W : World} {ok : Nat → Prop} {v : Value} {r : Rx}, RxV W ok v r → sizeR r ≤ 1000000 → depthR r ≤ 1000000 → Calls Tryz.prog 10 #[v] W (GotA W (needS r))
  right : ∀ {W : World} {ok : Nat → Prop} {v : Value} {r : Nd}, NdV W ok v r → sizeN r ≤ 1000000 → ∀ q, rightN 1 r = q → Calls Tryz.prog 27 #[v] W fun e w' => e = .returned (.bool q) ∧ Below W.heap.size W w'
  eval : ∀ {W : World} {ok : Nat → Prop} {v : Value} {r : Nd} {A : Option Addr} {n c : Nat} {cs : List Int}, NdV W ok v r → sizeN r ≤ 1000000 → cs.length ≤ 2000000 → WfL cs → Sl W A n c (numCells cs) → ∀ q, evalS r cs = q → Calls Tryz.prog 9 #[v, .slice A n c] W fun e w' => e = .returned (.bool q) ∧ Below W.heap.size W w'
  simp : ∀ {W : World} {ok : Nat → Prop} {v : Value} {r : Nd}, NdV W ok v r → sizeN r ≤ 1000000 → Calls Tryz.prog 28 #[v] W (GotA W (simplifyS r))
  same : ∀ {W : World} {ok ok' : Nat → Prop} {v v' : Value} {r r' : Nd}, NdV W ok v r → NdV W ok' v' r' → sizeN r ≤ 1000000 → ∀ q : Bool, (q = true ↔ r = r') → Calls Tryz.prog 25 #[v, v'] W fun e w' => e = .returned (.bool q) ∧ Below W.heap.size W w'
  fold : ∀ {W : World} {ok : Nat → Prop} {v : Value} {r : Rx}, RxV W ok v r → rightR r = 0 → Calls Tryz.prog 17 #[v] W fun e w' => ∃ v', e = .returned v' ∧ RxV w' (fun _ => True) v' (foldR r) ∧ Below W.heap.size W w'
end Go.Proofs.YtlnbjdlooghpeaaGreatDoor
