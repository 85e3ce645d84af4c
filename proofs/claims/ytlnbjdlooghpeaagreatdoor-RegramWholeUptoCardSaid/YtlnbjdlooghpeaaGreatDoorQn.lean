/- Layer 10: what the laws ask of the program; the laws of Literals and Of over it. -/
import Derived.Test.YtlnbjdlooghpeaaGreatDoorQm
import Derived.Test.YtlnbjdlooghpeaaGreatDoorN3
import Derived.Deep.RegionWith
namespace Go.Proofs.YtlnbjdlooghpeaaGreatDoor
open Go.RowKit

/-- A condition, wherever it lies. -/
def GotA (W : World) (n : Nd) (e : Ending) (w' : World) : Prop := ∃ v, e = .returned v ∧ NdV w' (fun _ => True) v n ∧ Below W.heap.size W w'
theorem GotN.a {W w' : World} {n : Nd} {e : Ending} (h : GotN W n e w') : GotA W n e w' := by
  obtain ⟨v, rfl, h1, h2⟩ := h
  exact ⟨v, rfl, h1.weak fun _ _ => trivial, h2⟩
theorem GotM.a {W w' : World} {ok : Nat → Prop} {n : Nd} {e : Ending} (h : GotM W ok n e w') : GotA W n e w' := by
  obtain ⟨v, rfl, h1, h2⟩ := h
  exact ⟨v, rfl, h1.weak fun _ _ => trivial, h2⟩
theorem NdV.any {W : World} {ok : Nat → Prop} {v : Value} {n : Nd} (h : NdV W ok v n) : NdV W (fun _ => True) v n := h.weak fun _ _ => trivial
/-- Ints that an int holds. -/
def WfL (cs : List Int) : Prop := ∀ z ∈ cs, (Lit.int .i64 z).wf = true
/-- What the laws ask of the program. -/
structure Cs : Prop where
  lit : ∀ {W : World} {ok : Nat → Prop} {v : Value} {r : Rx}, RxV W ok v r → sizeR r ≤ 1000000 → depthR r ≤ 1000000 → Calls Tryz.prog 12 #[v] W (GotL W (literalsS r))
  of_ : ∀ {W : World} {ok : Nat → Prop} {v : Value} {r : Rx}, RxV W ok v r → sizeR r ≤ 1000000 → depthR r ≤ 1000000 → Calls Tryz.prog 10 #[v] W (GotA W (needS r))
  right : ∀ {W : World} {ok : Nat → Prop} {v : Value} {r : Nd}, NdV W ok v r → sizeN r ≤ 1000000 → ∀ q, rightN 1 r = q → Calls Tryz.prog 27 #[v] W fun e w' => e = .returned (.bool q) ∧ Below W.heap.size W w'
  eval : ∀ {W : World} {ok : Nat → Prop} {v : Value} {r : Nd} {A : Option Addr} {n c : Nat} {cs : List Int}, NdV W ok v r → sizeN r ≤ 1000000 → cs.length ≤ 2000000 → WfL cs → Sl W A n c (numCells cs) → ∀ q, evalS r cs = q → Calls Tryz.prog 9 #[v, .slice A n c] W fun e w' => e = .returned (.bool q) ∧ Below W.heap.size W w'
  simp : ∀ {W : World} {ok : Nat → Prop} {v : Value} {r : Nd}, NdV W ok v r → sizeN r ≤ 1000000 → Calls Tryz.prog 28 #[v] W (GotA W (simplifyS r))
  same : ∀ {W : World} {ok ok' : Nat → Prop} {v v' : Value} {r r' : Nd}, NdV W ok v r → NdV W ok' v' r' → sizeN r ≤ 1000000 → ∀ q : Bool, (q = true ↔ r = r') → Calls Tryz.prog 25 #[v, v'] W fun e w' => e = .returned (.bool q) ∧ Below W.heap.size W w'
  fold : ∀ {W : World} {ok : Nat → Prop} {v : Value} {r : Rx}, RxV W ok v r → rightR r = 0 → Calls Tryz.prog 17 #[v] W fun e w' => ∃ v', e = .returned v' ∧ RxV w' (fun _ => True) v' (foldR r) ∧ Below W.heap.size W w'
def AliveC : Prop := ∀ w : World, Calls Tryz.prog 6 #[] w fun e w' => e = .returned (.bool true) ∧ Below w.heap.size w w'
theorem gotL_ex {W w' : World} {o : Option (List (List UInt8))} {e : Ending} (h : GotL W o e w') {q : Bool} (hq : o.isSome = q) {N : Nat} (hN : (o.getD []).length = N) : ∃ A c, e = .returned (.tuple #[.slice A N c, .bool q]) ∧ Sl w' A N c (strCells (o.getD [])) ∧ Below W.heap.size W w' := by
  obtain ⟨A, n, c, rfl, rfl, hs, hb⟩ := h
  subst hq hN
  exact ⟨A, c, rfl, hs, hb⟩
theorem lit_len8 (r : Rx) : ((literalsS r).getD []).length ≤ 8 := by
  unfold literalsS
  split
  · cases h : litR false r with
    | none => simp
    | some p => exact (litR_good r p h).2.1
  · simp
theorem depth_le' (r : Rx) : depthR r ≤ sizeR r := by
  induction r using Rx.ind with
  | h k s a b l ih =>
    rw [depthR_mk, sizeR_mk]
    have : ∀ q : List Rx, (∀ x ∈ q, depthR x ≤ sizeR x) → depthL q ≤ sizeL q := by
      intro q
      induction q with
      | nil => intro _; simp [depthL]
      | cons x q iq =>
        intro h
        rw [sizeL_cons]
        unfold depthL
        have h1 := h x (by simp)
        have h2 := iq fun y hy => h y (by simp [hy])
        omega
    have := this l ih
    omega

end Go.Proofs.YtlnbjdlooghpeaaGreatDoor
