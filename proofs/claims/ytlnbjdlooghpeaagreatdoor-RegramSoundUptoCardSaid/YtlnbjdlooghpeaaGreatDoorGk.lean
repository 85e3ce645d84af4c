/- Layer 9: K3, K4, K5. -/
import Derived.Test.YtlnbjdlooghpeaaGreatDoorBa
/-! ### K3 -/
namespace Go.Proofs.YtlnbjdlooghpeaaGreatDoor
open Go.RowKit

theorem has_take {set : List (UInt8 × UInt8)} {k : Nat} {r : UInt8 × UInt8} (h : set[k]? = some r) (c : UInt8) : hasS (set.take (k + 1)) c = (hasS (set.take k) c || (decide (r.1 ≤ c) && decide (c ≤ r.2))) := by
  obtain ⟨h1, e⟩ := List.getElem?_eq_some_iff.1 h
  rw [List.take_succ_eq_append_getElem h1, has_app, e]
  simp [hasS]
theorem has_mem {set : List (UInt8 × UInt8)} {k : Nat} {r : UInt8 × UInt8} (h : set[k]? = some r) (c : UInt8) (h1 : r.1 ≤ c) (h2 : c ≤ r.2) : hasS set c = true := by
  unfold hasS
  rw [List.any_eq_true]
  exact ⟨r, List.mem_of_getElem? h, by simp [h1, h2]⟩
/-! ### fields -/
theorem fields_no {k a b : Int} {s : List (UInt8 × UInt8)} {l : List Rx} (h : ¬ (1 ≤ k ∧ k ≤ 7) ∨ ¬ (k = 1 ↔ 0 < s.length) ∨ ¬ (∀ r ∈ s, r.1 ≤ r.2) ∨ ¬ (k = 4 ∨ (a = 0 ∧ b = 0))) : fieldsR (.mk k s a b l) = false := by
  cases hf : fieldsR (.mk k s a b l) with
  | false => rfl
  | true =>
    obtain ⟨h1, h2, h3, h4, _⟩ := fields_of hf
    rcases h with h | h | h | h
    · exact absurd h1 h
    · exact absurd (h2.trans List.length_pos_iff.symm) h
    · exact absurd h3 h
    · refine absurd ?_ h
      by_cases hk : k = 4
      · exact Or.inl hk
      · exact Or.inr (h4 hk)
theorem fields_yes {k a b : Int} {s : List (UInt8 × UInt8)} {l : List Rx} (h1 : 1 ≤ k ∧ k ≤ 7) (h2 : k = 1 ↔ 0 < s.length) (h3 : ∀ r ∈ s, r.1 ≤ r.2) (h4 : k = 4 ∨ (a = 0 ∧ b = 0)) :
    fieldsR (.mk k s a b l) = (if k = 4 then decide (l.length = 1) else if k = 3 then decide (2 ≤ l.length) else decide (k = 2) || decide (l.length = 0)) := by
  simp only [fieldsR]
  rw [decide_eq_true h1, List.all_eq_true.2 fun r hr => decide_eq_true (h3 r hr)]
  have e1 : (decide (k = 1) == decide (0 < s.length)) = true := by
    rw [beq_iff_eq]
    exact decide_eq_decide.2 h2
  have e2 : (decide (k = 4) || decide (a = 0 ∧ b = 0)) = true := by
    rcases h4 with h4 | h4
    · simp [h4]
    · simp [h4]
  rw [e1, e2]
  simp
theorem all_take {s : List (UInt8 × UInt8)} {k : Nat} {r : UInt8 × UInt8} (h : s[k]? = some r) (hm : ∀ x ∈ s.take k, x.1 ≤ x.2) (hr : r.1 ≤ r.2) : ∀ x ∈ s.take (k + 1), x.1 ≤ x.2 := by
  obtain ⟨h1, e⟩ := List.getElem?_eq_some_iff.1 h
  rw [List.take_succ_eq_append_getElem h1, e]
  intro x hx
  rw [List.mem_append, List.mem_singleton] at hx
  rcases hx with hx | rfl
  · exact hm x hx
  · exact hr

end Go.Proofs.YtlnbjdlooghpeaaGreatDoor
/-! ### K4 -/
namespace Go.Proofs.YtlnbjdlooghpeaaGreatDoor
open Go.RowKit

theorem rx_take {l : List Rx} {i : Nat} {x : Rx} (h : l[i]? = some x) : l.take (i + 1) = l.take i ++ [x] := by
  obtain ⟨h1, e⟩ := List.getElem?_eq_some_iff.1 h
  rw [List.take_succ_eq_append_getElem h1, e]
theorem nodeL_all : ∀ {l : List Rx}, (∀ x ∈ l, nodeR x = 0) → nodeL l = 0
  | [], _ => rfl
  | x :: l, h => by unfold nodeL; rw [if_pos (h x (by simp))]; exact nodeL_all fun y hy => h y (by simp [hy])
theorem nodeL_at : ∀ {l : List Rx} {i : Nat} {x : Rx}, l[i]? = some x → (∀ y ∈ l.take i, nodeR y = 0) → nodeR x ≠ 0 → nodeL l = nodeR x
  | [], i, x, h, _, _ => by simp at h
  | y :: l, 0, x, h, _, hx => by
    simp at h
    subst h
    unfold nodeL
    rw [if_neg hx]
  | y :: l, i + 1, x, h, hm, hx => by
    simp at h
    unfold nodeL
    rw [if_pos (hm y (by simp))]
    exact nodeL_at h (fun z hz => hm z (by simp [hz])) hx
theorem sizeL_app (a : List Rx) (x : Rx) : sizeL (a ++ [x]) = sizeL a + sizeR x := by
  induction a with
  | nil => simp [sizeL]
  | cons y a ih => simp only [List.cons_append, sizeL]; rw [ih]; omega
theorem depthL_app (a : List Rx) (x : Rx) : depthL (a ++ [x]) = max (depthL a) (depthR x) := by
  induction a with
  | nil => simp [depthL]
  | cons y a ih => simp only [List.cons_append, depthL]; rw [ih]; omega
theorem sizeL_mem {l : List Rx} {x : Rx} (h : x ∈ l) : sizeR x ≤ sizeL l := by
  induction l with
  | nil => simp at h
  | cons y l ih =>
    unfold sizeL
    rcases List.mem_cons.1 h with rfl | h
    · omega
    · have := ih h; omega
theorem sizeL_take (l : List Rx) (i : Nat) : sizeL (l.take i) ≤ sizeL l := by
  induction l generalizing i with
  | nil => simp [sizeL]
  | cons y l ih =>
    cases i with
    | zero => simp [sizeL]
    | succ i => simp only [List.take_succ_cons, sizeL]; have := ih i; omega
theorem depthL_mem {l : List Rx} {x : Rx} (h : x ∈ l) : depthR x ≤ depthL l := by
  induction l with
  | nil => simp at h
  | cons y l ih =>
    unfold depthL
    rcases List.mem_cons.1 h with rfl | h
    · omega
    · have := ih h; omega
theorem depthL_take (l : List Rx) (i : Nat) : depthL (l.take i) ≤ depthL l := by
  induction l generalizing i with
  | nil => simp [depthL]
  | cons y l ih =>
    cases i with
    | zero => simp [depthL]
    | succ i => simp only [List.take_succ_cons, depthL]; have := ih i; omega
theorem node_range (r : Rx) : nodeR r = 0 ∨ nodeR r = 1 ∨ nodeR r = 2 := by
  induction r using Rx.ind with
  | h k s a b l ih =>
    have : ∀ m : List Rx, (∀ x ∈ m, nodeR x = 0 ∨ nodeR x = 1 ∨ nodeR x = 2) → nodeL m = 0 ∨ nodeL m = 1 ∨ nodeL m = 2 := by
      intro m
      induction m with
      | nil => intro _; exact Or.inl rfl
      | cons x m ihm =>
        intro h
        unfold nodeL
        split
        · exact ihm fun y hy => h y (by simp [hy])
        · exact h x (by simp)
    unfold nodeR
    split
    · exact Or.inr (Or.inl rfl)
    · split
      · exact Or.inr (Or.inr rfl)
      · exact this l ih

end Go.Proofs.YtlnbjdlooghpeaaGreatDoor
/-! ### K5 -/
namespace Go.Proofs.YtlnbjdlooghpeaaGreatDoor
open Go.RowKit

theorem node_fields {k a b : Int} {s : List (UInt8 × UInt8)} {l : List Rx} (h : fieldsR (.mk k s a b l) = false) : nodeR (.mk k s a b l) = 1 := by unfold nodeR; rw [if_pos h]
theorem node_bounds {k a b : Int} {s : List (UInt8 × UInt8)} {l : List Rx} (h : fieldsR (.mk k s a b l) = true) (hk : k = 4) (hb : boundsR a b = false) : nodeR (.mk k s a b l) = 2 := by unfold nodeR; rw [if_neg (by rw [h]; simp), if_pos ⟨hk, hb⟩]
theorem node_subs {k a b : Int} {s : List (UInt8 × UInt8)} {l : List Rx} (h : fieldsR (.mk k s a b l) = true) (hb : ¬ (k = 4 ∧ boundsR a b = false)) : nodeR (.mk k s a b l) = nodeL l := by unfold nodeR; rw [if_neg (by rw [h]; simp), if_neg hb]

end Go.Proofs.YtlnbjdlooghpeaaGreatDoor
