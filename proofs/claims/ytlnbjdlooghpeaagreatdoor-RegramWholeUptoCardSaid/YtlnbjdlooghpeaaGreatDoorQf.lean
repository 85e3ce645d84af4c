/- Layer 10: walks of the reference: repeated, literals, Literals. -/
import Derived.Test.YtlnbjdlooghpeaaGreatDoorQe
namespace Go.Proofs.YtlnbjdlooghpeaaGreatDoor
open Go.RowKit

theorem gotO_none {W w' : World} {e : Ending} (h : GotO W none e w') : ∃ A n c, e = .returned (.tuple #[.slice A n c, .bool false]) ∧ Below W.heap.size W w' := by
  obtain ⟨A, n, c, rfl, -, -, hb⟩ := h
  exact ⟨A, n, c, rfl, hb⟩
theorem gotO_some {W w' : World} {p : List (List UInt8)} {e : Ending} (h : GotO W (some p) e w') : ∃ A n c, e = .returned (.tuple #[.slice A n c, .bool true]) ∧ n = p.length ∧ Sl w' A n c (strCells p) ∧ Below W.heap.size W w' := by
  obtain ⟨A, n, c, rfl, hp, -, hb⟩ := h
  exact ⟨A, n, c, rfl, (hp p rfl).1, (hp p rfl).2, hb⟩
theorem bel_alloc (w : World) (o : Obj) : Below w.heap.size w (w.alloc o) := bnew (Below.refl _ _) o
theorem bs_nil : (⟨#[]⟩ : ByteArray) = bsx [] := rfl

theorem lit_mk (fold : Bool) (k : Int) (set : List (UInt8 × UInt8)) (a b : Int) (l : List Rx) : litR fold (.mk k set a b l) = if k = 1 then bytesS set fold else if k = 2 then litCat fold [[]] l else if k = 3 then litAlt fold [] l else if k = 4 ∧ 0 ≤ b then (litOne fold l).bind fun x => repA x a (b.toNat + 1) else none := by rw [litR]
theorem GotO.tup {W w' : World} {o : Option (List (List UInt8))} {e : Ending} (h : GotO W o e w') : ∃ A n c q, e = .returned (.tuple #[.slice A n c, .bool q]) ∧ GotO W o (.returned (.tuple #[.slice A n c, .bool q])) w' ∧ Below W.heap.size W w' := by
  obtain ⟨A, n, c, rfl, h1, h2, hb⟩ := h
  exact ⟨A, n, c, _, rfl, ⟨A, n, c, rfl, h1, h2, hb⟩, hb⟩
theorem GotO.up {W W1 w' : World} {o : Option (List (List UInt8))} {e : Ending} (h : GotO W1 o e w') (hb : Below W.heap.size W W1) : GotO W o e w' := by
  obtain ⟨A, n, c, rfl, h1, h2, hb'⟩ := h
  exact ⟨A, n, c, rfl, h1, h2, bgo hb hb'⟩

theorem rxv_shape {W : World} {ok : Nat → Prop} {v : Value} {r : Rx} (h : RxV W ok v r) : ∃ (k a b : Int) (A B : Option Addr) (n c m d : Nat), v = .agg #[.int .i64 k, .slice A n c, .int .i64 a, .int .i64 b, .slice B m d] := by
  cases h
  exact ⟨_, _, _, _, _, _, _, _, _, rfl⟩
/-- What Literals returns. -/
def GotL (W : World) (o : Option (List (List UInt8))) (e : Ending) (w' : World) : Prop := ∃ A n c, e = .returned (.tuple #[.slice A n c, .bool o.isSome]) ∧ n = (o.getD []).length ∧ Sl w' A n c (strCells (o.getD [])) ∧ Below W.heap.size W w'

end Go.Proofs.YtlnbjdlooghpeaaGreatDoor
