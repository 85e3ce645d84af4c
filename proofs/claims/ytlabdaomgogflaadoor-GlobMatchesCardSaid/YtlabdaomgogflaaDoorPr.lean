/- How the reference reckons a match: what an element reaches from some offsets. No program. -/
import Derived.Test.YtlabdaomgogflaaDoorPn
namespace Go.Proofs.YtlabdaomgogflaaDoor

/-- Whether the element takes the n bytes from i on. -/
def spanB (t : Nat → Bool) (i : Nat) : Nat → Bool
  | 0 => true
  | n + 1 => spanB t i n && t (i + n)
/-- What an asterisk reaches from the offsets below i. -/
def reach (t : Nat → Bool) (f : Nat → Bool) : Nat → Nat → Bool
  | 0, _ => false
  | i + 1, j => reach t f i j || (f i && (decide (i ≤ j) && spanB t i (j - i)))
def starR (t : Nat → Bool) (f : Nat → Bool) : Nat → Bool
  | 0 => f 0
  | j + 1 => f (j + 1) || (starR t f j && t j)
/-- What an element that stands for one byte reaches from the offsets below i. -/
def oneR (t : Nat → Bool) (f : Nat → Bool) (i j : Nat) : Bool := decide (0 < j ∧ j ≤ i) && (f (j - 1) && t (j - 1))

theorem reach_iff (t f : Nat → Bool) : ∀ i j, reach t f i j = true ↔ ∃ k, k < i ∧ k ≤ j ∧ f k = true ∧ spanB t k (j - k) = true
  | 0, j => by simp [reach]
  | i + 1, j => by
    rw [reach, Bool.or_eq_true, reach_iff t f i j, Bool.and_eq_true, Bool.and_eq_true, decide_eq_true_eq]
    constructor
    · rintro (⟨k, h1, h2, h3, h4⟩ | ⟨h1, h2, h3⟩)
      · exact ⟨k, by omega, h2, h3, h4⟩
      · exact ⟨i, by omega, h2, h1, h3⟩
    · rintro ⟨k, h1, h2, h3, h4⟩
      by_cases hk : k = i
      · subst hk; exact Or.inr ⟨h3, h2, h4⟩
      · exact Or.inl ⟨k, by omega, h2, h3, h4⟩
theorem starR_iff (t f : Nat → Bool) : ∀ j, starR t f j = true ↔ ∃ k, k ≤ j ∧ f k = true ∧ spanB t k (j - k) = true
  | 0 => by
    rw [starR]
    constructor
    · intro h; exact ⟨0, Nat.le_refl _, h, rfl⟩
    · rintro ⟨k, h1, h2, _⟩
      obtain rfl : k = 0 := by omega
      exact h2
  | j + 1 => by
    rw [starR, Bool.or_eq_true, Bool.and_eq_true, starR_iff t f j]
    constructor
    · rintro (h | ⟨⟨k, h1, h2, h3⟩, h4⟩)
      · exact ⟨j + 1, Nat.le_refl _, h, by rw [Nat.sub_self]; rfl⟩
      · refine ⟨k, by omega, h2, ?_⟩
        rw [show j + 1 - k = j - k + 1 by omega, spanB, h3, show k + (j - k) = j by omega, h4]
        rfl
    · rintro ⟨k, h1, h2, h3⟩
      by_cases hk : k = j + 1
      · subst hk; exact Or.inl h2
      · rw [show j + 1 - k = j - k + 1 by omega, spanB, Bool.and_eq_true, show k + (j - k) = j by omega] at h3
        exact Or.inr ⟨⟨k, by omega, h2, h3.1⟩, h3.2⟩
theorem reach_all (t f : Nat → Bool) (i j : Nat) (h : j < i) : reach t f i j = starR t f j := by
  rw [Bool.eq_iff_iff, reach_iff, starR_iff]
  constructor
  · rintro ⟨k, _, h2, h3, h4⟩; exact ⟨k, h2, h3, h4⟩
  · rintro ⟨k, h2, h3, h4⟩; exact ⟨k, by omega, h2, h3, h4⟩
theorem spanB_stop (t : Nat → Bool) (i n m : Nat) (h : t (i + n) = false) (hm : n < m) : spanB t i m = false := by
  induction m with
  | zero => omega
  | succ m ih =>
    rw [spanB]
    by_cases hn : n = m
    · subst hn; rw [h, Bool.and_false]
    · rw [ih (by omega), Bool.false_and]

/-- The row while the inner loop of an asterisk at i stands at k. -/
def midR (t f : Nat → Bool) (i k j : Nat) : Bool := reach t f i j || (decide (i ≤ j) && decide (j ≤ k))
theorem mid_start (t f : Nat → Bool) (i j : Nat) : (if j = i then true else reach t f i j) = midR t f i i j := by
  unfold midR
  by_cases h : j = i
  · subst h; simp
  · rw [if_neg h]
    by_cases h1 : i ≤ j
    · rw [decide_eq_false (show ¬ j ≤ i by omega), Bool.and_false, Bool.or_false]
    · rw [decide_eq_false h1, Bool.false_and, Bool.or_false]
theorem mid_next (t f : Nat → Bool) (i k j : Nat) (hik : i ≤ k) : (if j = k + 1 then true else midR t f i k j) = midR t f i (k + 1) j := by
  unfold midR
  by_cases h : j = k + 1
  · subst h
    rw [if_pos rfl, decide_eq_true (show i ≤ k + 1 by omega), decide_eq_true (Nat.le_refl _), Bool.and_true, Bool.or_true]
  · rw [if_neg h]
    congr 2
    by_cases h1 : j ≤ k
    · rw [decide_eq_true h1, decide_eq_true (by omega)]
    · rw [decide_eq_false h1, decide_eq_false (by omega)]
theorem mid_end (t f : Nat → Bool) (i k N j : Nat) (hf : f i = true) (hs : spanB t i (k - i) = true) (hik : i ≤ k) (hstop : k = N ∨ t k = false) (hj : j ≤ N) : midR t f i k j = reach t f (i + 1) j := by
  unfold midR
  rw [reach, hf, Bool.true_and]
  congr 1
  by_cases h1 : i ≤ j
  · rw [decide_eq_true h1, Bool.true_and, Bool.true_and]
    by_cases h2 : j ≤ k
    · rw [decide_eq_true h2]
      symm
      have hle : ∀ m, spanB t i (m + (j - i)) = true → spanB t i (j - i) = true := by
        intro m
        induction m with
        | zero => intro h; simpa using h
        | succ m ih =>
          intro h
          rw [show m + 1 + (j - i) = m + (j - i) + 1 by omega, spanB, Bool.and_eq_true] at h
          exact ih h.1
      exact hle (k - j) (by rw [show k - j + (j - i) = k - i by omega]; exact hs)
    · rw [decide_eq_false h2]
      rcases hstop with rfl | ht
      · omega
      · exact (spanB_stop t i (k - i) (j - i) (by rw [show i + (k - i) = k by omega]; exact ht) (by omega)).symm
  · rw [decide_eq_false h1, Bool.false_and, Bool.false_and]
theorem span_next (t : Nat → Bool) (i k : Nat) (hik : i ≤ k) (hs : spanB t i (k - i) = true) (ht : t k = true) : spanB t i (k + 1 - i) = true := by
  rw [show k + 1 - i = k - i + 1 by omega, spanB, hs, show i + (k - i) = k by omega, ht]
  rfl
theorem reach_skip (t f : Nat → Bool) (i j : Nat) (hf : f i = false) : reach t f i j = reach t f (i + 1) j := by
  rw [reach, hf, Bool.false_and, Bool.or_false]
theorem oneR_skip (t f : Nat → Bool) (i j : Nat) (h : (f i && t i) = false) : oneR t f i j = oneR t f (i + 1) j := by
  unfold oneR
  by_cases hj : j = i + 1
  · subst hj
    rw [decide_eq_false (by omega), Bool.false_and, Nat.add_sub_cancel, h, Bool.and_false]
  · have : decide (0 < j ∧ j ≤ i) = decide (0 < j ∧ j ≤ i + 1) := by
      rw [Bool.eq_iff_iff, decide_eq_true_eq, decide_eq_true_eq]; omega
    rw [this]
theorem oneR_put (t f : Nat → Bool) (i j : Nat) (h : (f i && t i) = true) : (if j = i + 1 then true else oneR t f i j) = oneR t f (i + 1) j := by
  unfold oneR
  by_cases hj : j = i + 1
  · subst hj
    rw [if_pos rfl, decide_eq_true (by omega), Nat.add_sub_cancel, h, Bool.and_true]
  · rw [if_neg hj]
    have : decide (0 < j ∧ j ≤ i) = decide (0 < j ∧ j ≤ i + 1) := by
      rw [Bool.eq_iff_iff, decide_eq_true_eq, decide_eq_true_eq]; omega
    rw [this]

/-- From the row of k elements to that of k + 1. -/
theorem T_starR (es : List (List UInt8)) (p : List UInt8) (k : Nat) (hk : k < es.length) (hs : st es k = true) : ∀ j, j ≤ p.length → T es p (k + 1) j = starR (fun i => tk es k (p.getD i 0)) (T es p k) j
  | 0, _ => by rw [T0 es p k hk, hs, if_pos rfl]; rfl
  | j + 1, h => by
    rw [T1 es p k j hk (by omega), hs, if_pos rfl, T_starR es p k hk hs j (by omega)]
    rfl
theorem T_oneR (es : List (List UInt8)) (p : List UInt8) (k : Nat) (hk : k < es.length) (hs : st es k = false) (i j : Nat) (hj : j ≤ p.length) (hi : p.length ≤ i) : T es p (k + 1) j = oneR (fun i => tk es k (p.getD i 0)) (T es p k) i j := by
  unfold oneR
  cases j with
  | zero => rw [T0 es p k hk, hs]; simp
  | succ j =>
    rw [T1 es p k j hk (by omega), hs, decide_eq_true (by omega), Nat.add_sub_cancel]
    simp

/-- The cells of an element of the reference. -/
def kindOf (e : List UInt8) : Int := if e.headD 0 = 42 then 2 + (e.length : Int) else if e.headD 0 = 63 then 2 else if e.headD 0 = 91 then 5 else 1
def charOf (e : List UInt8) : UInt8 := if e.headD 0 = 42 then 0 else if e.headD 0 = 63 then 0 else if e.headD 0 = 91 then 0 else e.headD 0
def inOf (e : List UInt8) : List UInt8 := (e.take (e.length - 1)).drop 1
def negOf (e : List UInt8) : Bool := if e.headD 0 = 91 then Lib.hasPrefix (inOf e) [33] else false
def setOf (e : List UInt8) : List (UInt8 × UInt8) := if e.headD 0 = 91 then ranges (Lib.trimPrefix (inOf e) [33]) else []

end Go.Proofs.YtlabdaomgogflaaDoor
