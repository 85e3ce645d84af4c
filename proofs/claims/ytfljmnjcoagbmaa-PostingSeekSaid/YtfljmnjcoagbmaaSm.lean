/- Small facts for the merge. -/
import Derived.Test.YtfljmnjcoagbmaaS3
namespace Go.Proofs.Ytfljmnjcoagbmaa
open Go.RowKit

theorem keep_len (b : Bool) (x : Int) : (keepS b x).length ≤ 1 := by unfold keepS; cases b <;> simp
theorem mergeF_len (f : Bool → Bool → Bool) (a b : List Int) : (mergeF f a b).length ≤ a.length + b.length := by
  induction a, b using mergeF.induct with
  | case1 => simp [mergeF]
  | case2 x a ih =>
    have := keep_len (f true false) x
    rw [mergeF, List.length_append, List.length_cons]; simp only [List.length_nil] at *; omega
  | case3 y b ih =>
    have := keep_len (f false true) y
    rw [mergeF, List.length_append, List.length_cons]; simp only [List.length_nil] at *; omega
  | case4 x a y b hxy ih =>
    have := keep_len (f true false) x
    rw [mergeF, if_pos hxy, List.length_append, List.length_cons]; omega
  | case5 x a y b hxy hyx ih =>
    have := keep_len (f false true) y
    rw [mergeF, if_neg hxy, if_pos hyx, List.length_append]; simp only [List.length_cons] at *; omega
  | case6 x a y b hxy hyx ih =>
    have := keep_len (f true true) x
    rw [mergeF, if_neg hxy, if_neg hyx, List.length_append]; simp only [List.length_cons] at *; omega

theorem merge_cases (f : Bool → Bool → Bool) (la lb : List Int) : (la = [] ∧ lb = []) ∨
    (∃ x la1, la = x :: la1 ∧ cmpF la lb = -1 ∧ mergeF f la lb = keepS (f true false) x ++ mergeF f la1 lb) ∨
    (∃ y lb1, lb = y :: lb1 ∧ cmpF la lb = 1 ∧ mergeF f la lb = keepS (f false true) y ++ mergeF f la lb1) ∨
    (∃ x la1 lb1, la = x :: la1 ∧ lb = x :: lb1 ∧ cmpF la lb = 0 ∧ mergeF f la lb = keepS (f true true) x ++ mergeF f la1 lb1) := by
  cases la with
  | nil =>
    cases lb with
    | nil => exact Or.inl ⟨rfl, rfl⟩
    | cons y lb => exact Or.inr (Or.inr (Or.inl ⟨y, lb, rfl, rfl, by rw [mergeF]⟩))
  | cons x la =>
    cases lb with
    | nil => exact Or.inr (Or.inl ⟨x, la, rfl, rfl, by rw [mergeF]⟩)
    | cons y lb =>
      by_cases h1 : x < y
      · exact Or.inr (Or.inl ⟨x, la, rfl, if_pos h1, by rw [mergeF, if_pos h1]⟩)
      · by_cases h2 : y < x
        · exact Or.inr (Or.inr (Or.inl ⟨y, lb, rfl, (if_neg h1).trans (if_pos h2), by rw [mergeF, if_neg h1, if_pos h2]⟩))
        · have e : x = y := by omega
          subst e
          exact Or.inr (Or.inr (Or.inr ⟨x, la, lb, rfl, rfl, (if_neg h1).trans (if_neg h2), by rw [mergeF, if_neg h1, if_neg h2]⟩))
theorem merge_yes (f : Bool → Bool → Bool) (la lb rest out R : List Int) (x : Int) (b : Bool) (hm : mergeF f la lb = keepS b x ++ rest) (hb : b = true) (h : out ++ mergeF f la lb = R) : (out ++ [x]) ++ rest = R := by
  subst hb
  rw [← h, hm]
  simp [keepS]
theorem merge_no (f : Bool → Bool → Bool) (la lb rest out R : List Int) (x : Int) (b : Bool) (hm : mergeF f la lb = keepS b x ++ rest) (hb : b = false) (h : out ++ mergeF f la lb = R) : out ++ rest = R := by
  subst hb
  rw [← h, hm]
  simp [keepS]

/-- The number of a slice's elements. -/
def slen : Value → Nat
  | .slice _ n _ => n
  | _ => 0
/-- l = l[1:] -/
theorem Sl.tail1 {w : World} {A : Option Addr} {n c : Nat} {l l1 : List Int} {x : Int} (h : Sl w A n c (numCells l)) (hl : l = x :: l1) (h0 : 0 < n) (hc : c = 1) : Sl w A 0 0 (numCells l1) := by
  have hn := h.nlen
  have hnc := h.1
  subst hl
  have : l1 = [] := List.eq_nil_of_length_eq_zero (by simp at hn; omega)
  subst this
  exact ⟨Nat.le_refl _, by omega, fun _ => rfl, rfl, fun k u hk => by simp [numCells] at hk⟩
theorem Sl.tail2 {w : World} {ad : Addr} {n c : Nat} {l l1 : List Int} {x : Int} (h : Sl w (some ad) n c (numCells l)) (hl : l = x :: l1) (h0 : 0 < n) (hc : ¬ c = 1) : Sl w (some ⟨ad.block, ad.off + 1, none⟩) (n - 1) (c - 1) (numCells l1) := by
  have hn := h.nlen
  have hnc := h.1
  subst hl
  have := h.winI (k := 1) (m := n) (by omega) (Nat.le_refl _) (by omega)
  rw [show (List.drop 1 (x :: l1)).take (n - 1) = l1 by rw [List.drop_succ_cons, List.drop_zero]; exact List.take_of_length_le (by simp at hn; omega)] at this
  exact this

end Go.Proofs.Ytfljmnjcoagbmaa
