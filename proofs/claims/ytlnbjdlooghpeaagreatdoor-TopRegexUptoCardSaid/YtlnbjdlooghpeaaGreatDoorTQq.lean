/- TopRegex: Qq. -/
import Derived.Test.YtlnbjdlooghpeaaGreatDoorTQn
import Derived.Deep.Cut
namespace Go.Proofs.YtlnbjdlooghpeaaGreatDoor
open Go.RowKit
theorem RgS.nil (W : World) (ok : Nat → Prop) : RgS W ok none 0 0 [] := ⟨Nat.le_refl _, by omega, rfl, fun i r h => by simp at h⟩
theorem two_cell {w : World} {b : Nat} {x y : Value} {T : TypeId} (h : w.heap[b]? = some (.cells #[x, y] T (0, 0))) : w.cell? ⟨b, 0, none⟩ = some x ∧ w.cell? ⟨b, 1, none⟩ = some y ∧ w.frozen? ⟨b, 0, none⟩ = false ∧ w.frozen? ⟨b, 1, none⟩ = false := by
  refine ⟨?_, ?_, ?_, ?_⟩ <;> simp [World.cell?, World.frozen?, h]
theorem load_fiveR {W : World} {b : Nat} {c0 c1 c2 c3 c4 : Value} (h : Five W b c0 c1 c2 c3 c4) : (loadVar 25 ⟨b, 0, none⟩).run Tryz.prog W = .ok (.agg #[c0, c1, c2, c3, c4]) W := by
  obtain ⟨h0, h1, h2, h3, h4, h5⟩ := h
  go_simp
theorem res_boxR {fn : Func} {p : Tmp} (h : fn.results = #[.cell p 25]) (tmps : Array Value) (W : World) (b : Nat) (c0 c1 c2 c3 c4 : Value) (hp : tmps.getD p undef = .pointer (some ⟨b, 0, none⟩)) (hf : Five W b c0 c1 c2 c3 c4) :
    (results fn tmps).run Tryz.prog W = .ok (.agg #[c0, c1, c2, c3, c4]) W := by
  have hp' : tmps[p]?.getD undef = .pointer (some ⟨b, 0, none⟩) := by simpa using hp
  simp [results, h, hp', asAddr, load_fiveR hf]
end Go.Proofs.YtlnbjdlooghpeaaGreatDoor
