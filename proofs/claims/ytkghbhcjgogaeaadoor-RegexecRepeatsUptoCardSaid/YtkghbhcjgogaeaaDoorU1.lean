/- Layer 9: what the laws without the reference say, on plain data. -/
import Derived.Test.YtkghbhcjgogaeaaDoorGr
namespace Go.Proofs.YtkghbhcjgogaeaaDoor
open Go.RowKit

theorem endsA_in {r : Rx} (h0 : rightR r = 0) (s : List UInt8) (q : Nat) (hq : q ≤ s.length) : endsA r s (q : Int) = endsC r s q := by
  unfold endsA
  rw [if_neg (by omega)]
  rfl
theorem endsA_bad {r : Rx} (h0 : rightR r ≠ 0) (s : List UInt8) (q : Int) : endsA r s q = [] := by
  unfold endsA
  rw [if_pos (Or.inr (Or.inr h0))]
theorem mask_any (f : List Bool) : maskC f ≠ 0 ↔ ∃ j, On f j := by
  constructor
  · intro h
    refine Classical.byContradiction fun hn => h (Nat.eq_of_testBit_eq fun j => ?_)
    rw [Nat.zero_testBit, Bool.eq_false_iff]
    intro hj
    exact hn ⟨j, (mask_on f j).1 hj⟩
  · rintro ⟨j, hj⟩ h
    have := (mask_on f j).2 hj
    rw [h] at this
    simp at this
theorem match_some (r : Rx) (s : List UInt8) : matchA r s = true ↔ rightR r = 0 ∧ ∃ i, i ≤ s.length ∧ endsC r s i ≠ [] := by
  unfold matchA
  rw [Bool.and_eq_true, decide_eq_true_eq, decide_eq_true_eq, mask_any]
  refine and_congr_right fun h0 => ?_
  have hn := (right_node h0).1
  constructor
  · rintro ⟨j, hj⟩
    obtain ⟨i, hi, h⟩ := (stepC_at r s hn _ (all_len _) j).1 hj
    have hi' := (all_on s.length i).1 hi
    exact ⟨i, hi', (ends_some r s hn i hi').2 ⟨j, h⟩⟩
  · rintro ⟨i, hi, h⟩
    obtain ⟨j, hj⟩ := (ends_some r s hn i hi).1 h
    exact ⟨j, (stepC_at r s hn _ (all_len _) j).2 ⟨i, (all_on s.length i).2 hi, hj⟩⟩
theorem findP_spec {r : Rx} {s : List UInt8} {from_ : Int} {a b : Nat} (h : findP r s from_ = some (a, b)) : rightR r = 0 ∧ from_.toNat ≤ a ∧ a ≤ s.length ∧ (endsC r s a).getLast? = some b ∧ ∀ q, from_.toNat ≤ q → q < a → endsC r s q = [] := by
  unfold findP at h
  split at h
  · rename_i h1
    obtain ⟨k1, k2, k3, k4⟩ := findN_some r s _ _ _ _ h
    exact ⟨h1.1, k1, by omega, k3, k4⟩
  · cases h
theorem findP_nil {r : Rx} {s : List UInt8} {from_ : Int} (h : findP r s from_ = none) : ∀ q : Nat, from_.toNat ≤ q → q ≤ s.length → endsA r s (q : Int) = [] := by
  intro q h1 h2
  by_cases h0 : rightR r = 0
  · rw [endsA_in h0 s q h2]
    unfold findP at h
    rw [if_pos ⟨h0, by omega⟩] at h
    exact findN_none r s _ _ h q h1 (by omega)
  · exact endsA_bad h0 s _
theorem last_le {r : Rx} {s : List UInt8} (h0 : rightR r = 0) {a b : Nat} (ha : a ≤ s.length) (hb : (endsC r s a).getLast? = some b) : a ≤ b ∧ b ≤ s.length ∧ b ∈ endsC r s a := by
  have hm : b ∈ endsC r s a := List.mem_of_getLast? hb
  have := mt_le r s a b ha ((endsC_mem r s (right_node h0).1 a ha b).1 hm)
  exact ⟨this.1, this.2, hm⟩
theorem all_in (r : Rx) (s : List UInt8) : ∀ (n i : Nat) (p : Nat × Nat), p ∈ allN r s n i → i ≤ p.1 ∧ p.1 ≤ p.2 ∧ p.2 ≤ s.length ∧ p.2 ∈ endsA r s (p.1 : Int)
  | 0, i, p, h => by simp [allN] at h
  | n + 1, i, p, h => by
    unfold allN at h
    cases hf : findP r s (i : Int) with
    | none => rw [hf] at h; cases h
    | some q =>
      obtain ⟨a, b⟩ := q
      rw [hf] at h
      obtain ⟨h0, h1, h2, h3, -⟩ := findP_spec hf
      obtain ⟨k1, k2, k3⟩ := last_le h0 h2 h3
      rcases List.mem_cons.1 h with rfl | h
      · exact ⟨by simpa using h1, k1, k2, by rw [endsA_in h0 s a h2]; exact k3⟩
      · obtain ⟨m1, m2⟩ := all_in r s n _ p h
        refine ⟨?_, m2⟩
        have : i ≤ a := by simpa using h1
        split at m1 <;> omega
theorem all_next (r : Rx) (s : List UInt8) : ∀ (n i j : Nat) (p q : Nat × Nat), (allN r s n i)[j]? = some p → (allN r s n i)[j + 1]? = some q → p.2 ≤ q.1 ∧ p ≠ q
  | 0, i, j, p, q, h, _ => by simp [allN] at h
  | n + 1, i, j, p, q, h, hq => by
    unfold allN at h hq
    cases hf : findP r s (i : Int) with
    | none => rw [hf] at h; simp at h
    | some x =>
      obtain ⟨a, b⟩ := x
      rw [hf] at h hq
      obtain ⟨h0, h1, h2, h3, -⟩ := findP_spec hf
      obtain ⟨k1, k2, k3⟩ := last_le h0 h2 h3
      cases j with
      | succ j => exact all_next r s n _ j p q (by simpa using h) (by simpa using hq)
      | zero =>
        simp only [List.getElem?_cons_zero, Option.some.injEq] at h
        subst h
        have hq' : q ∈ allN r s n (if a = b then b + 1 else b) := List.mem_of_getElem? (by simpa using hq)
        obtain ⟨m1, m2, -⟩ := all_in r s n _ q hq'
        obtain ⟨c, d⟩ := q
        simp only at m1 m2 ⊢
        refine ⟨by split at m1 <;> omega, fun e => ?_⟩
        cases e
        split at m1 <;> omega
theorem all_some (r : Rx) (s : List UInt8) : decide (0 < (allP r s).length) = matchA r s := by
  rw [Bool.eq_iff_iff, decide_eq_true_eq, match_some]
  unfold allP
  cases hf : findP r s (0 : Int) with
  | none =>
    have : allN r s (s.length + 2) 0 = [] := by
      unfold allN
      rw [show ((0 : Nat) : Int) = 0 from rfl, hf]
    rw [this]
    constructor
    · intro h; simp at h
    · rintro ⟨h0, i, hi, h⟩
      have := findP_nil hf i (by simp) hi
      rw [endsA_in h0 s i hi] at this
      exact absurd this h
  | some p =>
    obtain ⟨a, b⟩ := p
    obtain ⟨h0, h1, h2, h3, -⟩ := findP_spec hf
    have : allN r s (s.length + 2) 0 = (a, b) :: allN r s (s.length + 1) (if a = b then b + 1 else b) := by
      conv => lhs; unfold allN
      rw [show ((0 : Nat) : Int) = 0 from rfl, hf]
    rw [this]
    constructor
    · intro _
      exact ⟨h0, a, h2, fun e => by rw [e] at h3; cases h3⟩
    · intro _; simp

/-! ### sequences, alternatives -/
theorem endsA_mem {r : Rx} (h0 : rightR r = 0) (s : List UInt8) (at_ : Int) (k : Nat) : k ∈ endsA r s at_ ↔ 0 ≤ at_ ∧ at_ ≤ (s.length : Int) ∧ mtR r s at_.toNat k := by
  unfold endsA
  split
  · rename_i h
    constructor
    · intro h; cases h
    · rintro ⟨h1, h2, _⟩; omega
  · rename_i h
    have hi : at_.toNat ≤ s.length := by omega
    rw [endsC_mem r s (right_node h0).1 _ hi]
    exact ⟨fun h3 => ⟨by omega, by omega, h3⟩, fun h3 => h3.2.2⟩
theorem mt_cat2 (u v : Rx) (s : List UInt8) (i k : Nat) : mtR (.mk 2 [] 0 0 [u, v]) s i k ↔ ∃ q, mtR u s i q ∧ mtR v s q k := by
  conv => lhs; unfold mtR
  rw [if_pos rfl, mtCat_cons]
  refine exists_congr fun q => and_congr_right fun _ => ?_
  rw [mtCat_cons]
  constructor
  · rintro ⟨m, h1, h2⟩
    unfold mtCat at h2
    subst h2
    exact h1
  · intro h
    exact ⟨k, h, by unfold mtCat; rfl⟩
theorem mt_alt2 (u v : Rx) (s : List UInt8) (i k : Nat) : mtR (.mk 3 [] 0 0 [u, v]) s i k ↔ mtR u s i k ∨ mtR v s i k := by
  conv => lhs; unfold mtR
  rw [if_neg (by decide), if_pos rfl, mtAlt_cons, mtAlt_cons]
  refine or_congr_right ?_
  constructor
  · rintro (h | h)
    · exact h
    · unfold mtAlt at h; exact h.elim
  · exact fun h => Or.inl h
theorem right_subs {k : Int} {set : List (UInt8 × UInt8)} {a b : Int} {l : List Rx} (h : rightR (.mk k set a b l) = 0) : ∀ x ∈ l, rightR x = 0 := by
  intro x hx
  have hnode := (right_node h).1
  unfold rightR at h
  rw [if_pos hnode] at h
  have hsd : ¬ (40 < sizeR (.mk k set a b l) ∨ 12 < depthR (.mk k set a b l)) := by
    intro hc
    rw [if_pos hc] at h
    cases h
  have hxn : nodeR x = 0 := by
    unfold nodeR at hnode
    split at hnode
    · omega
    · split at hnode
      · omega
      · exact nodeL_ok (by omega) x hx
  have hs : sizeR x ≤ sizeL l := by
    have : ∀ m : List Rx, x ∈ m → sizeR x ≤ sizeL m := by
      intro m
      induction m with
      | nil => intro h; cases h
      | cons y m ih =>
        intro h
        unfold sizeL
        rcases List.mem_cons.1 h with rfl | h
        · omega
        · have := ih h; omega
    exact this l hx
  have hd : depthR x ≤ depthL l := by
    have : ∀ m : List Rx, x ∈ m → depthR x ≤ depthL m := by
      intro m
      induction m with
      | nil => intro h; cases h
      | cons y m ih =>
        intro h
        unfold depthL
        rcases List.mem_cons.1 h with rfl | h
        · omega
        · have := ih h; omega
    exact this l hx
  unfold rightR
  rw [if_pos hxn, if_neg]
  unfold sizeR depthR at hsd
  omega
end Go.Proofs.YtkghbhcjgogaeaaDoor
