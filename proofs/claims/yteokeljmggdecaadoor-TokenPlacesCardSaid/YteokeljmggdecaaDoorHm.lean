/- Maps that hold true alone: m[k] = true, and whether m[k]; no function of a program. -/
import Derived.Test.YteokeljmggdecaaDoorHg
import Derived.Maps.OwnOps
import Derived.Maps.OwnSet
import Derived.Maps.Ext
namespace Go.Proofs.YteokeljmggdecaaDoor
open Go.RowKit Go.Maps

def trueElem (v : Value) : Option (DataW Unit × List MemPlace) := match v with
  | .bool true => some (.lit (.bool true), [])
  | _ => none
theorem trueElem_mk : trueElem (.bool true) = some (.lit (.bool true), []) := rfl
theorem trueElem_inv {v : Value} {z : DataW Unit × List MemPlace} (h : trueElem v = some z) : v = .bool true := by
  unfold trueElem at h
  split at h
  · rfl
  · cases h
section
variable {P : Program} {k : TypeId} {w w' : World} {b n : Nat} {D : DataW Unit}
theorem look_true {t e : TypeId} (h : w.ownsMap P k trueElem b n D) (K : Keyed P k) (ht : P.underlying t = some (.map k e)) (hz : (zeroValue e).run P w = .ok (.bool false) w) {key : Value} {kl : Lit} (hkey : keyOf P k key = some kl) :
    (Instr.lookup t (.map (some b)) key false).run P w = .ok (.bool (Maps.has D kl)) w := by
  obtain ⟨es, clock, hb, F, _, rfl⟩ := h
  rcases Maps.fit_look false K ht hz hb F hkey with ⟨hrun, _, hat⟩ | ⟨e0, y, _, _, hrun, hRv, hat, _⟩
  · rw [Maps.has_false_of_atKey hat]; exact hrun
  · have e := trueElem_inv hRv
    rw [Maps.has_true_of_atKey hat, hrun]
    simp [e]
/-- 'm[k]' at the operation. -/
theorem wpList_lookup_true (w : World) {ops : Array Oper} {rest : List Oper} {o : Oper} {a : Act} {Q : Exit → Act → World → Prop} (hg : o.guard = none) (m x : Operand) (t : TypeId) (hop : o.op = Op.lookup t m x false)
    (k e : TypeId) (K : Keyed P k) (ht : P.underlying t = some (.map k e)) (hz : (zeroValue e).run P w = .ok (.bool false) w) (b n : Nat) (D : DataW Unit)
    (hm : a.eval m = .map (some b)) (hown : w.ownsMap P k trueElem b n D) (key : Value) (kl : Lit) (hx : a.eval x = key) (hkey : keyOf P k key = some kl)
    (hK : wpList P ops Q rest (a.put o.dst (.bool (Maps.has D kl))) w) : wpList P ops Q (o :: rest) a w := by
  refine wpList_plain hg fun K' hK' => ?_
  have hrun := look_true hown K ht hz hkey
  unfold Oper.wp
  simp [execOp, hop, hm, hx, hrun, Result.andThen]
  exact hK' _ _ hK
theorem mapB (h : w.ownsMap P k trueElem b n D) (hb : Below w.heap.size w w') : w'.ownsMap P k trueElem b n D := by
  have hl := h.lt
  obtain ⟨es, clock, h1, h2⟩ := h
  exact ⟨es, clock, (hb.block b hl).trans h1, h2⟩
/-- What a cell holds lies in no map's block. -/
theorem cell_far {p : Addr} {u : Value} (hm : w.ownsMap P k trueElem b n D) (hg : w.grownBy w' (some b)) (hc : w.cell? p = some u) : w'.cell? p = some u := by
  obtain ⟨es, clock, hb, _⟩ := hm
  have hlt : p.block < w.heap.size := World.block_lt_of_cell? _ _ hc
  have hne : p.block ≠ b := fun e => by
    rw [World.cell?, e, hb] at hc
    cases hc
  rw [← hc]
  exact World.cell?_of_block (w := w) (hg.block _ hlt (fun e' => hne (by injection e')))
end
/-- The keys of D are those of which p holds. -/
def SetD {α : Type} (D : DataW Unit) (key : α → Lit) (p : α → Prop) : Prop := Tidy D ∧ ∀ x, has D (key x) = true ↔ p x
theorem SetD.start {α : Type} (key : α → Lit) : SetD (.map []) key fun _ => False := ⟨tidy_empty, fun x => ⟨fun h => (by cases h), fun h => h.elim⟩⟩
theorem SetD.put {α : Type} {D : DataW Unit} {key : α → Lit} {p : α → Prop} (h : SetD D key p) (hk : ∀ x, WideAt.IsKeyLit (key x)) (x : α) (d : DataW Unit) : SetD (D.put (key x) d) key fun y => p y ∨ key y = key x := by
  refine ⟨h.1.put (hk x) d, fun y => ?_⟩
  by_cases e : key y = key x
  · exact ⟨fun _ => Or.inr e, fun _ => by rw [e]; exact has_put_same h.1.isMap (hk x) d⟩
  · rw [has_put_other e, h.2]
    simp [e]
end Go.Proofs.YteokeljmggdecaaDoor
