/- The plain specification of package glob over lists of bytes: paths, elements of patterns, what they match. No program. -/
import Derived.Lib.Split
import Derived.Lib.IndexBytes
import Derived.Lib.IndexAny
import Derived.Lib.LastIndexByte
import Derived.Lib.TrimByte
import Derived.Lib.Strings
import Derived.Lib.Bytealg
namespace Go.Proofs.YtlabdaomgogflaaDoor

def nmByte (c : UInt8) : Bool := decide ((97 ≤ c.toNat ∧ c.toNat ≤ 122) ∨ (65 ≤ c.toNat ∧ c.toNat ≤ 90) ∨ (48 ≤ c.toNat ∧ c.toNat ≤ 57) ∨ c.toNat = 46 ∨ c.toNat = 95 ∨ c.toNat = 45)
def nameOk (l : List UInt8) : Bool := decide (1 ≤ l.length) && decide (l.length ≤ 24) && !(l == [46]) && !(l == [46, 46]) && l.all nmByte
def goP : List UInt8 → List UInt8 → Bool
  | cur, [] => nameOk cur
  | cur, c :: r => if c = 47 then nameOk cur && goP [] r else goP (cur ++ [c]) r
def validP (l : List UInt8) : Bool := decide (l.length ≤ 60) && goP [] l

theorem goP_none : ∀ (l cur : List UInt8), (∀ c ∈ l, c ≠ 47) → goP cur l = nameOk (cur ++ l)
  | [], cur, _ => by simp [goP]
  | c :: r, cur, h => by
    rw [goP, if_neg (h c (by simp)), goP_none r _ (fun x hx => h x (by simp [hx]))]
    simp
theorem goP_hit : ∀ (a r cur : List UInt8), (∀ c ∈ a, c ≠ 47) → goP cur (a ++ 47 :: r) = (nameOk (cur ++ a) && goP [] r)
  | [], r, cur, _ => by simp [goP]
  | c :: a, r, cur, h => by
    rw [List.cons_append, goP, if_neg (h c (by simp)), goP_hit a r _ (fun x hx => h x (by simp [hx]))]
    simp

/-- The range with which the elements of a set begin, and the elements after it. -/
def firstR : List UInt8 → (UInt8 × UInt8) × List UInt8
  | a :: b :: c :: r => if b = 45 then ((a, c), r) else ((a, a), b :: c :: r)
  | a :: r => ((a, a), r)
  | [] => ((0, 0), [])
theorem firstR_lt (l : List UInt8) (h : l ≠ []) : (firstR l).2.length < l.length := by
  unfold firstR
  split
  · split <;> simp <;> omega
  · simp
  · exact absurd rfl h
def rangesF : Nat → List UInt8 → List (UInt8 × UInt8)
  | 0, _ => []
  | _ + 1, [] => []
  | f + 1, a :: l => (firstR (a :: l)).1 :: rangesF f (firstR (a :: l)).2
def ranges (l : List UInt8) : List (UInt8 × UInt8) := rangesF l.length l
theorem rangesF_eq : ∀ (f g : Nat) (l : List UInt8), l.length ≤ f → l.length ≤ g → rangesF f l = rangesF g l
  | 0, 0, l, _, _ => rfl
  | 0, g + 1, l, h, _ => by
    obtain rfl : l = [] := List.length_eq_zero_iff.1 (by omega)
    rfl
  | f + 1, 0, l, _, h => by
    obtain rfl : l = [] := List.length_eq_zero_iff.1 (by omega)
    rfl
  | f + 1, g + 1, [], _, _ => rfl
  | f + 1, g + 1, a :: l, h1, h2 => by
    have := firstR_lt (a :: l) (by simp)
    simp only [rangesF]
    rw [rangesF_eq f g _ (by omega) (by omega)]
theorem ranges_nil : ranges [] = [] := rfl
theorem ranges_cons (l : List UInt8) (h : l ≠ []) : ranges l = (firstR l).1 :: ranges (firstR l).2 := by
  cases l with
  | nil => exact absurd rfl h
  | cons a l =>
    have := firstR_lt (a :: l) (by simp)
    simp only [List.length_cons] at this
    unfold ranges
    rw [List.length_cons, rangesF, rangesF_eq l.length _ _ (by omega) (Nat.le_refl _)]

def rOk (r : UInt8 × UInt8) : Bool := decide (r.1.toNat ≤ r.2.toNat)
def setOk (l : List UInt8) : Bool := !(Lib.trimPrefix l [33]).isEmpty && (ranges (Lib.trimPrefix l [33])).all rOk
def inR (c : UInt8) (r : UInt8 × UInt8) : Bool := decide (r.1.toNat ≤ c.toNat) && decide (c.toNat ≤ r.2.toNat)
def inS (l : List UInt8) (c : UInt8) : Bool := (ranges (Lib.trimPrefix l [33])).any (inR c) != Lib.hasPrefix l [33]

/-- The length of the element with which a pattern begins; 0 if there is none. -/
def firstEl : List UInt8 → Nat
  | [] => 0
  | c :: r => if c = 42 then (if 2 < 1 + (r.takeWhile (· == 42)).length then 0 else 1 + (r.takeWhile (· == 42)).length)
    else if c = 91 then (if Lib.indexByte (c :: r) 93 < 0 then 0 else if setOk (((c :: r).take (Lib.indexByte (c :: r) 93).toNat).drop 1) then (Lib.indexByte (c :: r) 93).toNat + 1 else 0)
    else if c = 93 then 0 else 1
def elemsF : Nat → List UInt8 → Option (List (List UInt8))
  | _, [] => some []
  | 0, _ :: _ => none
  | f + 1, c :: l => if firstEl (c :: l) = 0 then none else (elemsF f ((c :: l).drop (firstEl (c :: l)))).map ((c :: l).take (firstEl (c :: l)) :: ·)
def elems (l : List UInt8) : Option (List (List UInt8)) := elemsF l.length l
theorem elemsF_eq : ∀ (f g : Nat) (l : List UInt8), l.length ≤ f → l.length ≤ g → elemsF f l = elemsF g l
  | f, g, [], _, _ => by cases f <;> cases g <;> rfl
  | 0, g, a :: l, h, _ => by simp at h
  | f + 1, 0, a :: l, _, h => by simp at h
  | f + 1, g + 1, a :: l, h1, h2 => by
    simp only [List.length_cons] at h1 h2
    simp only [elemsF]
    by_cases h0 : firstEl (a :: l) = 0
    · simp [h0]
    · rw [if_neg h0, if_neg h0, elemsF_eq f g _ (by simp only [List.length_drop, List.length_cons]; omega) (by simp only [List.length_drop, List.length_cons]; omega)]
theorem elems_nil : elems [] = some [] := rfl
theorem elems_cons (l : List UInt8) (h : l ≠ []) : elems l = if firstEl l = 0 then none else (elems (l.drop (firstEl l))).map (l.take (firstEl l) :: ·) := by
  cases l with
  | nil => exact absurd rfl h
  | cons a l =>
    unfold elems
    rw [List.length_cons, elemsF]
    by_cases h0 : firstEl (a :: l) = 0
    · simp [h0]
    · rw [if_neg h0, if_neg h0, elemsF_eq l.length _ _ (by simp only [List.length_drop, List.length_cons]; omega) (Nat.le_refl _)]

theorem indexByte_bound : ∀ (l : List UInt8) (c : UInt8), Lib.indexByte l c < l.length
  | [], _ => by simp [Lib.indexByte]
  | b :: l, c => by
    have := indexByte_bound l c
    unfold Lib.indexByte
    split
    · simp only [List.length_cons]; omega
    · split
      · simp only [List.length_cons]; omega
      · simp only [List.length_cons]; omega
theorem takeWhile_le (p : UInt8 → Bool) : ∀ l : List UInt8, (l.takeWhile p).length ≤ l.length
  | [] => by simp
  | b :: l => by
    rw [List.takeWhile_cons]
    split
    · have := takeWhile_le p l; simp; exact this
    · simp
theorem firstEl_le (l : List UInt8) : firstEl l ≤ l.length := by
  cases l with
  | nil => simp [firstEl]
  | cons c r =>
    unfold firstEl
    have h1 := takeWhile_le (· == 42) r
    have h2 := indexByte_bound (c :: r) 93
    simp only [List.length_cons] at h2 ⊢
    split
    · split <;> omega
    · split
      · split
        · omega
        · split <;> omega
      · split <;> omega

def badByte (c : UInt8) : Bool := decide (c.toNat < 33 ∨ 126 < c.toNat)
def right (l : List UInt8) : Int := if 60 < l.length then 4 else if l.any badByte then 3 else if (elems l).isNone then 3 else 0
def parts (l : List UInt8) : List (List UInt8) := (elems l).getD []

def isStar (e : List UInt8) : Bool := e.headD 0 == 42
def takes (e : List UInt8) (c : UInt8) : Bool :=
  if e.headD 0 = 42 then e == [42, 42] || c != 47 else if e.headD 0 = 63 then c != 47 else if e.headD 0 = 91 then c != 47 && inS ((e.take (e.length - 1)).drop 1) c else e.headD 0 == c
def starM (k : List UInt8 → Bool) (t : UInt8 → Bool) : List UInt8 → Bool
  | [] => k []
  | c :: p => k (c :: p) || (t c && starM k t p)
def oneM (k : List UInt8 → Bool) (t : UInt8 → Bool) : List UInt8 → Bool
  | [] => false
  | c :: p => t c && k p
def mt : List (List UInt8) → List UInt8 → Bool
  | [], p => p.isEmpty
  | e :: es, p => if isStar e then starM (mt es) (takes e) p else oneM (mt es) (takes e) p
def matchL (g p : List UInt8) : Bool := decide (right g = 0) && mt (parts g) p

def Lang (e q : List UInt8) : Prop := if isStar e then ∀ c ∈ q, takes e c = true else ∃ c, q = [c] ∧ takes e c = true
def Mt : List (List UInt8) → List UInt8 → Prop
  | [], p => p = []
  | e :: es, p => ∃ q r, p = q ++ r ∧ Lang e q ∧ Mt es r

theorem starM_iff (k : List UInt8 → Bool) (t : UInt8 → Bool) : ∀ p, starM k t p = true ↔ ∃ q r, p = q ++ r ∧ (∀ c ∈ q, t c = true) ∧ k r = true
  | [] => by
    rw [starM]
    constructor
    · intro h; exact ⟨[], [], rfl, by simp, h⟩
    · rintro ⟨q, r, h, _, hk⟩
      obtain ⟨rfl, rfl⟩ := List.append_eq_nil_iff.1 h.symm
      exact hk
  | c :: p => by
    rw [starM, Bool.or_eq_true, Bool.and_eq_true, starM_iff k t p]
    constructor
    · rintro (h | ⟨h1, q, r, rfl, h2, h3⟩)
      · exact ⟨[], c :: p, rfl, by simp, h⟩
      · exact ⟨c :: q, r, rfl, by simpa [h1] using h2, h3⟩
    · rintro ⟨q, r, h, h2, h3⟩
      cases q with
      | nil => simp at h; subst h; exact Or.inl h3
      | cons d q =>
        simp at h
        obtain ⟨rfl, rfl⟩ := h
        exact Or.inr ⟨h2 c (by simp), q, r, rfl, fun x hx => h2 x (by simp [hx]), h3⟩

theorem mt_iff : ∀ (es : List (List UInt8)) (p : List UInt8), mt es p = true ↔ Mt es p
  | [], p => by simp [mt, Mt]
  | e :: es, p => by
    unfold mt Mt Lang
    by_cases hs : isStar e = true
    · simp only [hs, if_true]
      rw [starM_iff]
      constructor
      · rintro ⟨q, r, h1, h2, h3⟩; exact ⟨q, r, h1, h2, (mt_iff es r).1 h3⟩
      · rintro ⟨q, r, h1, h2, h3⟩; exact ⟨q, r, h1, h2, (mt_iff es r).2 h3⟩
    · simp only [hs, if_false, Bool.false_eq_true]
      cases p with
      | nil =>
        simp only [oneM]
        constructor
        · intro h; cases h
        · rintro ⟨q, r, h1, ⟨c, rfl, h2⟩, h3⟩; simp at h1
      | cons c p =>
        simp only [oneM, Bool.and_eq_true]
        rw [mt_iff es p]
        constructor
        · rintro ⟨h1, h2⟩; exact ⟨[c], p, rfl, ⟨c, rfl, h1⟩, h2⟩
        · rintro ⟨q, r, h1, ⟨d, rfl, h2⟩, h3⟩
          simp at h1
          obtain ⟨rfl, rfl⟩ := h1
          exact ⟨h2, h3⟩

theorem Mt_append : ∀ (es fs : List (List UInt8)) (p : List UInt8), Mt (es ++ fs) p ↔ ∃ q r, p = q ++ r ∧ Mt es q ∧ Mt fs r
  | [], fs, p => by
    simp only [List.nil_append, Mt]
    constructor
    · intro h; exact ⟨[], p, rfl, rfl, h⟩
    · rintro ⟨q, r, h, rfl, h2⟩; simpa [h] using h2
  | e :: es, fs, p => by
    simp only [List.cons_append, Mt]
    constructor
    · rintro ⟨q, r, rfl, h1, h2⟩
      obtain ⟨q2, r2, rfl, h3, h4⟩ := (Mt_append es fs r).1 h2
      exact ⟨q ++ q2, r2, by simp, ⟨q, q2, rfl, h1, h3⟩, h4⟩
    · rintro ⟨q, r, rfl, ⟨q2, r2, rfl, h1, h2⟩, h3⟩
      exact ⟨q2, r2 ++ r, by simp, h1, (Mt_append es fs _).2 ⟨r2, r, rfl, h2, h3⟩⟩

theorem Mt_one (e p : List UInt8) : Mt [e] p ↔ Lang e p := by
  simp only [Mt]
  constructor
  · rintro ⟨q, r, rfl, h, rfl⟩; simpa using h
  · intro h; exact ⟨p, [], by simp, h, rfl⟩

theorem Mt_snoc (es : List (List UInt8)) (e p : List UInt8) : Mt (es ++ [e]) p ↔ ∃ q r, p = q ++ r ∧ Mt es q ∧ Lang e r := by
  rw [Mt_append]
  constructor
  · rintro ⟨q, r, h, h1, h2⟩; exact ⟨q, r, h, h1, (Mt_one e r).1 h2⟩
  · rintro ⟨q, r, h, h1, h2⟩; exact ⟨q, r, h, h1, (Mt_one e r).2 h2⟩

theorem app_nil {α : Type} {q r : List α} (h : [] = q ++ r) : q = [] ∧ r = [] := List.append_eq_nil_iff.1 h.symm

theorem snoc_one0 (es : List (List UInt8)) (e : List UInt8) (h : isStar e = false) : mt (es ++ [e]) [] = false := by
  rw [Bool.eq_false_iff]
  intro hm
  obtain ⟨q, r, h1, _, h2⟩ := (Mt_snoc _ _ _).1 ((mt_iff _ _).1 hm)
  unfold Lang at h2
  rw [h] at h2
  obtain ⟨c, hc, _⟩ := h2
  obtain ⟨_, rfl⟩ := app_nil h1
  simp at hc
theorem snoc_one1 (es : List (List UInt8)) (e p : List UInt8) (c : UInt8) (h : isStar e = false) : mt (es ++ [e]) (p ++ [c]) = (mt es p && takes e c) := by
  rw [Bool.eq_iff_iff, Bool.and_eq_true, mt_iff, mt_iff, Mt_snoc]
  simp only [Lang, h, if_false, Bool.false_eq_true]
  constructor
  · rintro ⟨q, r, h1, h2, d, rfl, h3⟩
    have := List.append_inj' h1 rfl
    simp at this
    obtain ⟨rfl, rfl⟩ := this
    exact ⟨h2, h3⟩
  · rintro ⟨h1, h2⟩; exact ⟨p, [c], rfl, h1, c, rfl, h2⟩
theorem snoc_star0 (es : List (List UInt8)) (e : List UInt8) (h : isStar e = true) : mt (es ++ [e]) [] = mt es [] := by
  rw [Bool.eq_iff_iff, mt_iff, mt_iff, Mt_snoc]
  simp only [Lang, h, if_true]
  constructor
  · rintro ⟨q, r, h1, h2, _⟩
    obtain ⟨rfl, rfl⟩ := app_nil h1
    exact h2
  · intro h1; exact ⟨[], [], rfl, h1, by simp⟩
theorem snoc_star1 (es : List (List UInt8)) (e p : List UInt8) (c : UInt8) (h : isStar e = true) : mt (es ++ [e]) (p ++ [c]) = (mt es (p ++ [c]) || (mt (es ++ [e]) p && takes e c)) := by
  rw [Bool.eq_iff_iff, Bool.or_eq_true, Bool.and_eq_true, mt_iff, mt_iff, mt_iff, Mt_snoc, Mt_snoc]
  simp only [Lang, h, if_true]
  constructor
  · rintro ⟨q, r, h1, h2, h3⟩
    rcases List.eq_nil_or_concat r with rfl | ⟨r', d, rfl⟩
    · simp at h1; subst h1; exact Or.inl h2
    · rw [List.concat_eq_append] at h1 h3
      rw [← List.append_assoc] at h1
      have := List.append_inj' h1 rfl
      simp at this
      obtain ⟨rfl, rfl⟩ := this
      exact Or.inr ⟨⟨q, r', rfl, h2, fun x hx => h3 x (by simp [hx])⟩, h3 c (by simp)⟩
  · rintro (h1 | ⟨⟨q, r, rfl, h2, h3⟩, h4⟩)
    · exact ⟨p ++ [c], [], by simp, h1, by simp⟩
    · exact ⟨q, r ++ [c], by simp, h2, fun x hx => by
        rcases List.mem_append.1 hx with hx | hx
        · exact h3 x hx
        · simp at hx; subst hx; exact h4⟩

/-- Whether the first k elements match the first i bytes. -/
def T (es : List (List UInt8)) (p : List UInt8) (k i : Nat) : Bool := mt (es.take k) (p.take i)
theorem take_snoc {α : Type} (l : List α) (k : Nat) (h : k < l.length) : l.take (k + 1) = l.take k ++ [l[k]] := List.take_succ_eq_append_getElem h
theorem T_zero (es : List (List UInt8)) (p : List UInt8) (i : Nat) (h : i ≤ p.length) : T es p 0 i = decide (i = 0) := by
  unfold T
  rw [List.take_zero, mt]
  cases i with
  | zero => simp
  | succ i =>
    cases p with
    | nil => simp at h
    | cons a p => simp
theorem T_one0 (es : List (List UInt8)) (p : List UInt8) (k : Nat) (h : k < es.length) (hs : isStar es[k] = false) : T es p (k + 1) 0 = false := by
  unfold T; rw [take_snoc _ _ h, List.take_zero]; exact snoc_one0 _ _ hs
theorem T_one1 (es : List (List UInt8)) (p : List UInt8) (k i : Nat) (h : k < es.length) (hi : i < p.length) (hs : isStar es[k] = false) : T es p (k + 1) (i + 1) = (T es p k i && takes es[k] p[i]) := by
  unfold T; rw [take_snoc _ _ h, take_snoc _ _ hi]; exact snoc_one1 _ _ _ _ hs
theorem T_star0 (es : List (List UInt8)) (p : List UInt8) (k : Nat) (h : k < es.length) (hs : isStar es[k] = true) : T es p (k + 1) 0 = T es p k 0 := by
  unfold T; rw [take_snoc _ _ h, List.take_zero]; exact snoc_star0 _ _ hs
theorem T_star1 (es : List (List UInt8)) (p : List UInt8) (k i : Nat) (h : k < es.length) (hi : i < p.length) (hs : isStar es[k] = true) : T es p (k + 1) (i + 1) = (T es p k (i + 1) || (T es p (k + 1) i && takes es[k] p[i])) := by
  unfold T; rw [take_snoc _ _ h, take_snoc _ _ hi]; exact snoc_star1 _ _ _ _ hs
theorem T_all (es : List (List UInt8)) (p : List UInt8) : T es p es.length p.length = mt es p := by
  unfold T; rw [List.take_length, List.take_length]

theorem not_mem_of_none {l : List UInt8} {c : UInt8} (h : Lib.indexByte l c = -1) : ∀ x ∈ l, x ≠ c := by
  induction l with
  | nil => intro x hx; simp at hx
  | cons a l ih =>
    unfold Lib.indexByte at h
    have hge := Lib.indexByte_ge l c
    split at h
    · simp at h
    · rename_i hne
      split at h
      · rename_i h2
        intro x hx
        rcases List.mem_cons.1 hx with rfl | hx
        · simpa using hne
        · exact ih (by simpa using h2) x hx
      · omega
theorem at_index {l : List UInt8} {c : UInt8} {i : Nat} (h : Lib.indexByte l c = i) : l = l.take i ++ c :: l.drop (i + 1) ∧ ∀ x ∈ l.take i, x ≠ c := by
  induction l generalizing i with
  | nil => simp [Lib.indexByte] at h
  | cons a l ih =>
    unfold Lib.indexByte at h
    have hge := Lib.indexByte_ge l c
    split at h
    · rename_i h1
      obtain rfl : i = 0 := by omega
      simp at h1
      simp [h1]
    · rename_i hne
      split at h
      · omega
      · obtain ⟨j, rfl⟩ : ∃ j, i = j + 1 := ⟨i - 1, by
          rename_i h2
          have : ¬ Lib.indexByte l c = -1 := by simpa using h2
          omega⟩
        obtain ⟨e1, e2⟩ := ih (i := j) (by omega)
        refine ⟨?_, ?_⟩
        · simp only [List.take_succ_cons, List.drop_succ_cons, List.cons_append]
          rw [← e1]
        · intro x hx
          simp only [List.take_succ_cons, List.mem_cons] at hx
          rcases hx with rfl | hx
          · simpa using hne
          · exact e2 x hx

theorem split_go : ∀ (k : Nat) (l : List UInt8), Lib.count l [47] = k → (Lib.splitK [47] 0 k l).all nameOk = goP [] l
  | 0, l, h => by
    have hm : Lib.index l [47] = -1 := by
      rcases Int.lt_or_le (Lib.index l [47]) 0 with h0 | h0
      · have := Lib.index_ge l [47]; omega
      · obtain ⟨i, hi⟩ : ∃ i : Nat, Lib.index l [47] = i := ⟨(Lib.index l [47]).toNat, by omega⟩
        have := Lib.count_hit (by simp) hi
        omega
    rw [Lib.index_one] at hm
    rw [goP_none l [] (not_mem_of_none hm)]
    simp [Lib.splitK]
  | k + 1, l, h => by
    have hge := Lib.index_ge l [47]
    by_cases hm : Lib.index l [47] = -1
    · have := Lib.count_miss hm
      omega
    · obtain ⟨i, hi⟩ : ∃ i : Nat, Lib.index l [47] = i := ⟨(Lib.index l [47]).toNat, by omega⟩
      have hc := Lib.count_hit (by simp) hi
      have ih := split_go k (l.drop (i + 1)) (by simpa using (by omega : Lib.count (l.drop (i + [47].length)) [47] = k))
      have h1 := hi
      rw [Lib.index_one] at h1
      obtain ⟨e1, e2⟩ := at_index h1
      unfold Lib.splitK
      rw [if_neg (by simpa using hm), hi, List.all_cons]
      simp only [Int.toNat_natCast, Nat.add_zero, List.length_singleton]
      rw [ih]
      conv => rhs; rw [e1]
      rw [goP_hit _ _ _ e2]
      simp

end Go.Proofs.YtlabdaomgogflaaDoor
