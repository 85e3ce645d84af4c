/- The two ways to reckon a match, a row of truths for each byte or for each element, over lists. No program. -/
import Derived.Test.YtlabdaomgogflaaDoorPl
namespace Go.Proofs.YtlabdaomgogflaaDoor

def st (es : List (List UInt8)) (k : Nat) : Bool := isStar (es.getD k [])
def tk (es : List (List UInt8)) (k : Nat) (c : UInt8) : Bool := takes (es.getD k []) c
theorem getD_at {α : Type} (l : List α) (k : Nat) (h : k < l.length) (x : α) : l.getD k x = l[k] := by
  rw [List.getD_eq_getElem?_getD, List.getElem?_eq_getElem h]; rfl

/-- What follows because asterisks match the empty sequence. -/
def skF (es : List (List UInt8)) (d : Nat → Bool) : Nat → Bool
  | 0 => d 0
  | k + 1 => d (k + 1) || (skF es d k && st es k)
def took (es : List (List UInt8)) (d : Nat → Bool) (c : UInt8) (k : Nat) : Bool := d k && tk es k c
/-- The row behind the byte c, without what asterisks match after it. -/
def stF (es : List (List UInt8)) (d : Nat → Bool) (c : UInt8) (j : Nat) : Bool := (decide (j < es.length) && (took es d c j && st es j)) || (decide (0 < j) && took es d c (j - 1))
def Dm (es : List (List UInt8)) (p : List UInt8) : Nat → Nat → Bool
  | 0 => skF es (fun j => decide (j = 0))
  | i + 1 => skF es (stF es (Dm es p i) (p.getD i 0))

theorem T0 (es : List (List UInt8)) (p : List UInt8) (k : Nat) (h : k < es.length) : T es p (k + 1) 0 = if st es k then T es p k 0 else false := by
  unfold st
  rw [getD_at es k h]
  cases hs : isStar es[k]
  · exact T_one0 es p k h hs
  · exact T_star0 es p k h hs
theorem T1 (es : List (List UInt8)) (p : List UInt8) (k i : Nat) (h : k < es.length) (hi : i < p.length) : T es p (k + 1) (i + 1) = if st es k then (T es p k (i + 1) || (T es p (k + 1) i && tk es k (p.getD i 0))) else (T es p k i && tk es k (p.getD i 0)) := by
  unfold st tk
  rw [getD_at es k h, getD_at p i hi]
  cases hs : isStar es[k]
  · exact T_one1 es p k i h hi hs
  · exact T_star1 es p k i h hi hs

def goalD (es : List (List UInt8)) (p : List UInt8) (i k : Nat) : Bool := if decide (k < es.length) && st es k then T es p (k + 1) i else T es p k i

theorem dm0 (es : List (List UInt8)) (p : List UInt8) : ∀ k, k ≤ es.length → Dm es p 0 k = goalD es p 0 k
  | 0, _ => by
    show decide (0 = 0) = _
    unfold goalD
    have h0 := T_zero es p 0 (Nat.zero_le _)
    by_cases h : 0 < es.length
    · have h1 := T0 es p 0 h
      cases hs : st es 0
      · rw [Bool.and_false, if_neg (by simp), h0]
      · rw [decide_eq_true h, Bool.and_true, if_pos rfl, h1, hs, if_pos rfl, h0]
    · rw [decide_eq_false h, Bool.false_and, if_neg (by simp), h0]
  | k + 1, hk => by
    have ih := dm0 es p k (by omega)
    show (decide (k + 1 = 0) || (Dm es p 0 k && st es k)) = _
    rw [ih]
    have h1 := T0 es p k (by omega)
    have hB : (decide (k + 1 = 0) || (goalD es p 0 k && st es k)) = T es p (k + 1) 0 := by
      rw [decide_eq_false (by omega), Bool.false_or]
      unfold goalD
      rw [decide_eq_true (show k < es.length by omega), Bool.true_and]
      cases hs : st es k
      · rw [h1, hs]; simp
      · simp
    rw [hB]
    unfold goalD
    by_cases h : k + 1 < es.length
    · have h2 := T0 es p (k + 1) h
      cases hs : st es (k + 1)
      · simp
      · rw [hs, if_pos rfl] at h2
        rw [decide_eq_true h, Bool.and_true, if_pos rfl, h2]
    · rw [decide_eq_false h, Bool.false_and, if_neg (by simp)]

theorem dms (es : List (List UInt8)) (p : List UInt8) (i : Nat) (hi : i < p.length) (ih : ∀ k, k ≤ es.length → Dm es p i k = goalD es p i k) : ∀ k, k ≤ es.length → Dm es p (i + 1) k = goalD es p (i + 1) k
  | 0, _ => by
    show stF es (Dm es p i) (p.getD i 0) 0 = _
    unfold stF took goalD
    have h0 := T_zero es p (i + 1) (by omega)
    rw [decide_eq_false (by omega)] at h0
    rw [decide_eq_false (show ¬ 0 < 0 by omega), Bool.false_and, Bool.or_false]
    by_cases h : 0 < es.length
    · have h1 := T1 es p 0 i h hi
      rw [ih 0 (by omega), decide_eq_true h, Bool.true_and, Bool.true_and]
      unfold goalD
      rw [decide_eq_true h, Bool.true_and]
      cases hs : st es 0
      · rw [Bool.and_false, if_neg (by simp), h0]
      · rw [hs, if_pos rfl] at h1
        rw [if_pos rfl, if_pos rfl, h1, h0]; simp
    · rw [decide_eq_false h, Bool.false_and, Bool.false_and, if_neg (by simp), h0]
  | k + 1, hk => by
    have ihk := dms es p i hi ih k (by omega)
    show (stF es (Dm es p i) (p.getD i 0) (k + 1) || (Dm es p (i + 1) k && st es k)) = _
    rw [ihk]
    have h1 := T1 es p k i (by omega) hi
    have hB : (took es (Dm es p i) (p.getD i 0) k || (goalD es p (i + 1) k && st es k)) = T es p (k + 1) (i + 1) := by
      unfold took
      rw [ih k (by omega)]
      unfold goalD
      rw [decide_eq_true (show k < es.length by omega), Bool.true_and]
      cases hs : st es k
      · rw [hs] at h1
        simp only [Bool.false_eq_true, if_false, Bool.and_false, Bool.or_false] at h1 ⊢
        exact h1.symm
      · rw [hs] at h1
        simp only [if_true, Bool.and_true] at h1 ⊢
        rw [h1]
        cases T es p k (i + 1) <;> simp
    have hS : (stF es (Dm es p i) (p.getD i 0) (k + 1) || (goalD es p (i + 1) k && st es k)) = ((decide (k + 1 < es.length) && (took es (Dm es p i) (p.getD i 0) (k + 1) && st es (k + 1))) || T es p (k + 1) (i + 1)) := by
      unfold stF
      rw [decide_eq_true (show 0 < k + 1 by omega), Bool.true_and, Nat.add_sub_cancel, Bool.or_assoc, hB]
    rw [hS]
    unfold goalD
    by_cases h : k + 1 < es.length
    · have h2 := T1 es p (k + 1) i h hi
      unfold took
      rw [ih (k + 1) hk]
      unfold goalD
      rw [decide_eq_true h, Bool.true_and, Bool.true_and]
      cases hs : st es (k + 1)
      · simp
      · rw [hs, if_pos rfl] at h2
        simp only [if_true, Bool.and_true]
        rw [h2, Bool.or_comm]
    · rw [decide_eq_false h, Bool.false_and, Bool.false_and, if_neg (by simp), Bool.false_or]

theorem dm (es : List (List UInt8)) (p : List UInt8) : ∀ i, i ≤ p.length → ∀ k, k ≤ es.length → Dm es p i k = goalD es p i k
  | 0, _ => dm0 es p
  | i + 1, h => dms es p i (by omega) (dm es p i (by omega))
theorem dm_all (es : List (List UInt8)) (p : List UInt8) : Dm es p p.length es.length = mt es p := by
  rw [dm es p _ (Nat.le_refl _) _ (Nat.le_refl _)]
  unfold goalD
  rw [decide_eq_false (by omega), Bool.false_and, if_neg (by simp), T_all]

/-- Elements of a pattern that is right. -/
def GoodE (e : List UInt8) : Prop := 0 < e.length ∧ (e.headD 0 = 91 → 2 ≤ e.length)
theorem firstEl_good (l : List UInt8) (n : Nat) (hn : firstEl l = n) (h0 : n ≠ 0) : GoodE (l.take n) := by
  have hle := firstEl_le l
  rw [hn] at hle
  refine ⟨by rw [List.length_take]; omega, fun h => ?_⟩
  rw [List.length_take]
  cases l with
  | nil => simp at hle; omega
  | cons c r =>
    obtain ⟨m, rfl⟩ : ∃ m, n = m + 1 := ⟨n - 1, by omega⟩
    have hc : c = 91 := by simpa using h
    subst hc
    rw [firstEl, if_neg (by decide), if_pos rfl] at hn
    have hge := Lib.indexByte_ge r 93
    have h1 : Lib.indexByte (91 :: r) 93 = if Lib.indexByte r 93 == -1 then -1 else Lib.indexByte r 93 + 1 := by
      conv => lhs; unfold Lib.indexByte
      rw [if_neg (by decide)]
    have hX : Lib.indexByte (91 :: r) 93 = -1 ∨ 1 ≤ Lib.indexByte (91 :: r) 93 := by
      rw [h1]
      split
      · exact Or.inl rfl
      · rename_i h2
        have : ¬ Lib.indexByte r 93 = -1 := by simpa using h2
        omega
    generalize Lib.indexByte (91 :: r) 93 = X at hn hX
    rcases hX with rfl | hX
    · rw [if_pos (by decide)] at hn; omega
    · rw [if_neg (by omega)] at hn
      split at hn
      · omega
      · omega
theorem elemsF_good : ∀ (f : Nat) (l : List UInt8) (es : List (List UInt8)), elemsF f l = some es → ∀ e ∈ es, GoodE e
  | 0, [], es, h => by simp [elemsF] at h; subst h; simp
  | 0, _ :: _, es, h => by simp [elemsF] at h
  | f + 1, [], es, h => by simp [elemsF] at h; subst h; simp
  | f + 1, c :: l, es, h => by
    unfold elemsF at h
    by_cases h0 : firstEl (c :: l) = 0
    · rw [if_pos h0] at h; cases h
    · rw [if_neg h0, Option.map_eq_some_iff] at h
      obtain ⟨fs, hfs, rfl⟩ := h
      intro e he
      rcases List.mem_cons.1 he with rfl | he
      · exact firstEl_good _ _ rfl h0
      · exact elemsF_good f _ fs hfs e he
theorem elems_good (l : List UInt8) (es : List (List UInt8)) (h : elems l = some es) : ∀ e ∈ es, GoodE e := elemsF_good _ l es h
theorem elemsF_len : ∀ (f : Nat) (l : List UInt8) (es : List (List UInt8)), elemsF f l = some es → es.length ≤ l.length ∧ ∀ e ∈ es, e.length ≤ l.length
  | 0, [], es, h => by simp [elemsF] at h; subst h; simp
  | 0, _ :: _, es, h => by simp [elemsF] at h
  | f + 1, [], es, h => by simp [elemsF] at h; subst h; simp
  | f + 1, c :: l, es, h => by
    unfold elemsF at h
    by_cases h0 : firstEl (c :: l) = 0
    · rw [if_pos h0] at h; cases h
    · rw [if_neg h0, Option.map_eq_some_iff] at h
      obtain ⟨fs, hfs, rfl⟩ := h
      obtain ⟨h1, h2⟩ := elemsF_len f _ fs hfs
      rw [List.length_drop] at h1 h2
      simp only [List.length_cons] at h1 h2 ⊢
      refine ⟨by omega, fun e he => ?_⟩
      rcases List.mem_cons.1 he with rfl | he
      · rw [List.length_take, List.length_cons]; omega
      · have := h2 e he; omega
theorem elems_len (l : List UInt8) (es : List (List UInt8)) (h : elems l = some es) : es.length ≤ l.length ∧ ∀ e ∈ es, e.length ≤ l.length := elemsF_len _ l es h
theorem right_some (l : List UInt8) (h : right l = 0) : ∃ es, elems l = some es ∧ parts l = es := by
  unfold right at h
  split at h
  · cases h
  · split at h
    · cases h
    · split at h
      · cases h
      · rename_i h3
        cases he : elems l with
        | none => rw [he] at h3; simp at h3
        | some es => exact ⟨es, rfl, by unfold parts; rw [he]; rfl⟩

end Go.Proofs.YtlabdaomgogflaaDoor
