/- TopRegex: Gk. -/
import Derived.Test.YtlnbjdlooghpeaaGreatDoorTBa
namespace Go.Proofs.YtlnbjdlooghpeaaGreatDoor
open Go.RowKit
end Go.Proofs.YtlnbjdlooghpeaaGreatDoor
namespace Go.Proofs.YtlnbjdlooghpeaaGreatDoor
open Go.RowKit
theorem rx_take {l : List Rx} {i : Nat} {x : Rx} (h : l[i]? = some x) : l.take (i + 1) = l.take i ++ [x] := by
  obtain ⟨h1, e⟩ := List.getElem?_eq_some_iff.1 h
  rw [List.take_succ_eq_append_getElem h1, e]
theorem nodeL_all : ∀ {l : List Rx}, (∀ x ∈ l, nodeR x = 0) → nodeL l = 0
  | [], _ => rfl
  | x :: l, h => by unfold nodeL; rw [if_pos (h x (by simp))]; exact nodeL_all fun y hy => h y (by simp [hy])
theorem nodeL_at : ∀ {l : List Rx} {i : Nat} {x : Rx}, l[i]? = some x → (∀ y ∈ l.take i, nodeR y = 0) → nodeR x ≠ 0 → nodeL l = nodeR x
  | [], i, x, h, _, _ => by simp at h
  | y :: l, 0, x, h, _, hx => by
    simp at h
    subst h
    unfold nodeL
    rw [if_neg hx]
  | y :: l, i + 1, x, h, hm, hx => by
    simp at h
    unfold nodeL
    rw [if_pos (hm y (by simp))]
    exact nodeL_at h (fun z hz => hm z (by simp [hz])) hx
theorem sizeL_app (a : List Rx) (x : Rx) : sizeL (a ++ [x]) = sizeL a + sizeR x := by
  induction a with
  | nil => simp [sizeL]
  | cons y a ih => simp only [List.cons_append, sizeL]; rw [ih]; omega
theorem depthL_app (a : List Rx) (x : Rx) : depthL (a ++ [x]) = max (depthL a) (depthR x) := by
  induction a with
  | nil => simp [depthL]
  | cons y a ih => simp only [List.cons_append, depthL]; rw [ih]; omega
theorem sizeL_mem {l : List Rx} {x : Rx} (h : x ∈ l) : sizeR x ≤ sizeL l := by
  induction l with
  | nil => simp at h
  | cons y l ih =>
    unfold sizeL
    rcases List.mem_cons.1 h with rfl | h
    · omega
    · have := ih h; omega
theorem sizeL_take (l : List Rx) (i : Nat) : sizeL (l.take i) ≤ sizeL l := by
  induction l generalizing i with
  | nil => simp [sizeL]
  | cons y l ih =>
    cases i with
    | zero => simp [sizeL]
    | succ i => simp only [List.take_succ_cons, sizeL]; have := ih i; omega
theorem depthL_mem {l : List Rx} {x : Rx} (h : x ∈ l) : depthR x ≤ depthL l := by
  induction l with
  | nil => simp at h
  | cons y l ih =>
    unfold depthL
    rcases List.mem_cons.1 h with rfl | h
    · omega
    · have := ih h; omega
theorem depthL_take (l : List Rx) (i : Nat) : depthL (l.take i) ≤ depthL l := by
  induction l generalizing i with
  | nil => simp [depthL]
  | cons y l ih =>
    cases i with
    | zero => simp [depthL]
    | succ i => simp only [List.take_succ_cons, depthL]; have := ih i; omega
end Go.Proofs.YtlnbjdlooghpeaaGreatDoor
namespace Go.Proofs.YtlnbjdlooghpeaaGreatDoor
open Go.RowKit
theorem node_fields {k a b : Int} {s : List (UInt8 × UInt8)} {l : List Rx} (h : fieldsR (.mk k s a b l) = false) : nodeR (.mk k s a b l) = 1 := by unfold nodeR; rw [if_pos h]
theorem node_bounds {k a b : Int} {s : List (UInt8 × UInt8)} {l : List Rx} (h : fieldsR (.mk k s a b l) = true) (hk : k = 4) (hb : boundsR a b = false) : nodeR (.mk k s a b l) = 2 := by unfold nodeR; rw [if_neg (by rw [h]; simp), if_pos ⟨hk, hb⟩]
theorem node_subs {k a b : Int} {s : List (UInt8 × UInt8)} {l : List Rx} (h : fieldsR (.mk k s a b l) = true) (hb : ¬ (k = 4 ∧ boundsR a b = false)) : nodeR (.mk k s a b l) = nodeL l := by unfold nodeR; rw [if_neg (by rw [h]; simp), if_neg hb]
end Go.Proofs.YtlnbjdlooghpeaaGreatDoor
