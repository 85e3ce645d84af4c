/- The plain specification: numbers, strings and increasing lists as bytes, over lists; no program. -/
import Init.Data.List.Lemmas
namespace Go.Proofs.YtmiegjefmebpdaaGreatDoor

/-- The greatest number that is read. -/
def big : Nat := 4611686018427387904

/-- The encoding of a number. -/
def enc (n : Nat) : List UInt8 := if n < 128 then [UInt8.ofNat n] else UInt8.ofNat (n % 128 + 128) :: enc (n / 128)
termination_by n
decreasing_by omega

theorem enc_low (n : Nat) (h : n < 128) : enc n = [UInt8.ofNat n] := by rw [enc, if_pos h]
theorem enc_high (n : Nat) (h : ¬ n < 128) : enc n = UInt8.ofNat (n % 128 + 128) :: enc (n / 128) := by rw [enc, if_neg h]

/-- What digits encode. -/
def dec : List UInt8 → Nat
  | [] => 0
  | b :: l => b.toNat % 128 + 128 * dec l

/-- How many bytes the first number has; 0 if none ends. -/
def fnum : List UInt8 → Nat
  | [] => 0
  | b :: l => if b.toNat < 128 then 1 else if fnum l = 0 then 0 else fnum l + 1

def decP (d : List UInt8) : Nat × Nat :=
  if 9 < d.length then (0, 4) else if big < dec d then (0, 4) else if 1 < d.length ∧ d.getLastD 0 = 0 then (0, 3) else (dec d, 0)

/-- Get: the number, the index after it, the error. -/
def getP (l : List UInt8) (i : Int) : Nat × Nat × Nat :=
  if i < 0 ∨ (l.length : Int) < i then (0, 0, 2)
  else if fnum (l.drop i.toNat) = 0 then (0, 0, 5)
  else if (decP ((l.drop i.toNat).take (fnum (l.drop i.toNat)))).2 = 0 then ((decP ((l.drop i.toNat).take (fnum (l.drop i.toNat)))).1, i.toNat + fnum (l.drop i.toNat), 0)
  else (0, 0, (decP ((l.drop i.toNat).take (fnum (l.drop i.toNat)))).2)

/-- GetString. -/
def getS (l : List UInt8) (i most : Int) : List UInt8 × Nat × Nat :=
  if (getP l i).2.2 ≠ 0 then ([], 0, (getP l i).2.2)
  else if most < ((getP l i).1 : Int) then ([], 0, 4)
  else if l.length < (getP l i).2.1 + (getP l i).1 then ([], 0, 5)
  else ((l.drop (getP l i).2.1).take (getP l i).1, (getP l i).2.1 + (getP l i).1, 0)

/-- GetList's elements. -/
def gl (l : List UInt8) : Nat → List Int → Nat → List Int × Nat × Nat
  | 0, xs, next => (xs, next, 0)
  | k + 1, xs, next =>
    if (getP l (next : Int)).2.2 ≠ 0 then ([], 0, (getP l (next : Int)).2.2)
    else if xs ≠ [] ∧ (getP l (next : Int)).1 = 0 then ([], 0, 3)
    else if (big : Int) < xs.getLastD 0 + ((getP l (next : Int)).1 : Int) then ([], 0, 4)
    else gl l k (xs ++ [xs.getLastD 0 + ((getP l (next : Int)).1 : Int)]) (getP l (next : Int)).2.1

def getL (l : List UInt8) (i most : Int) : List Int × Nat × Nat :=
  if (getP l i).2.2 ≠ 0 then ([], 0, (getP l i).2.2)
  else if most < ((getP l i).1 : Int) then ([], 0, 4)
  else gl l (getP l i).1 [] (getP l i).2.1

/-- The elements of a list as differences. -/
def dif : Int → List Int → List UInt8
  | _, [] => []
  | p, x :: l => enc (x - p).toNat ++ dif x l

def incr : Int → List Int → Bool
  | _, [] => true
  | p, x :: l => decide (p < x) && incr x l

def encL (l : List Int) : List UInt8 := enc l.length ++ dif 0 l

def putL (b : List UInt8) (l : List Int) : List UInt8 × Nat := if incr (-1) l = true then (b ++ encL l, 0) else ([], 1)

/-- The first k bytes are from 128 on. -/
def High (l : List UInt8) (k : Nat) : Prop := ∀ j b, j < k → l[j]? = some b → ¬ b.toNat < 128

theorem High.zero (l : List UInt8) : High l 0 := fun j _ h => absurd h (by omega)
theorem High.next {l : List UInt8} {k : Nat} (h : High l k) {b : UInt8} (hb : l[k]? = some b) (hh : ¬ b.toNat < 128) : High l (k + 1) := fun j c hj hc => by
  by_cases e : j = k
  · subst e
    rw [hb] at hc
    cases hc
    exact hh
  · exact h j c (by omega) hc
theorem High.tail {b : UInt8} {l : List UInt8} {k : Nat} (h : High (b :: l) (k + 1)) : High l k := fun j c hj hc => h (j + 1) c (by omega) (by simpa using hc)
theorem High.head {b : UInt8} {l : List UInt8} {k : Nat} (h : High (b :: l) (k + 1)) : ¬ b.toNat < 128 := h 0 b (by omega) rfl

theorem fnum_at : ∀ (l : List UInt8) (k : Nat) (b : UInt8), High l k → l[k]? = some b → b.toNat < 128 → fnum l = k + 1
  | [], _, _, _, hb, _ => by simp at hb
  | c :: l, 0, b, _, hb, hlt => by
    simp at hb
    subst hb
    unfold fnum
    rw [if_pos hlt]
  | c :: l, k + 1, b, h, hb, hlt => by
    have ih := fnum_at l k b h.tail (by simpa using hb) hlt
    unfold fnum
    rw [if_neg h.head, ih, if_neg (by omega)]
theorem fnum_none : ∀ (l : List UInt8) (k : Nat), High l k → l.length ≤ k → fnum l = 0
  | [], _, _, _ => rfl
  | c :: l, 0, _, hk => by simp at hk
  | c :: l, k + 1, h, hk => by
    have ih := fnum_none l k h.tail (by simpa using hk)
    unfold fnum
    rw [if_neg h.head, if_pos ih]
theorem fnum_le : ∀ l : List UInt8, fnum l ≤ l.length
  | [] => Nat.le_refl _
  | b :: l => by
    have ih := fnum_le l
    unfold fnum
    rw [List.length_cons]
    split
    · omega
    · split <;> omega

theorem dec_lt : ∀ l : List UInt8, dec l < 128 ^ l.length
  | [] => by simp [dec]
  | b :: l => by
    have ih := dec_lt l
    unfold dec
    rw [List.length_cons, Nat.pow_succ]
    omega
theorem dec_le8 (l : List UInt8) (h : l.length ≤ 8) : dec l < 72057594037927936 :=
  Nat.lt_of_lt_of_le (dec_lt l) (Nat.le_trans (Nat.pow_le_pow_right (by omega) h) (by decide))
theorem dec_le9 (l : List UInt8) (h : l.length ≤ 9) : dec l < 9223372036854775808 :=
  Nat.lt_of_lt_of_le (dec_lt l) (Nat.le_trans (Nat.pow_le_pow_right (by omega) h) (by decide))
theorem dec_drop (l : List UInt8) (k : Nat) (b : UInt8) (h : l[k]? = some b) : dec (l.drop k) = b.toNat % 128 + 128 * dec (l.drop (k + 1)) := by
  have hk := (List.getElem?_eq_some_iff.1 h).1
  rw [List.drop_eq_getElem_cons hk]
  have e : l[k] = b := (List.getElem?_eq_some_iff.1 h).2
  rw [e]
  rfl

end Go.Proofs.YtmiegjefmebpdaaGreatDoor
