/- Plain facts on the lines and words of a list of bytes. -/
import Derived.Lib.Bytealg
import Derived.Lib.IndexLaws
import Derived.Lib.LastIndexByte
namespace Go.Proofs.Ytniapakheegijaa

/-! ### filters of ranges -/
def upto (p : Nat → Bool) (n : Nat) : List Nat := (List.range n).filter p

theorem upto_succ (p : Nat → Bool) (n : Nat) : upto p (n + 1) = upto p n ++ if p n then [n] else [] := by
  unfold upto
  rw [List.range_succ, List.filter_append]
  congr 1
  simp [List.filter_cons]

theorem upto_yes (p : Nat → Bool) (n : Nat) (h : p n = true) : upto p (n + 1) = upto p n ++ [n] := by rw [upto_succ, h]; simp
theorem upto_no (p : Nat → Bool) (n : Nat) (h : p n = false) : upto p (n + 1) = upto p n := by rw [upto_succ, h]; simp

theorem upto_len (p : Nat → Bool) (n : Nat) : (upto p n).length ≤ n := by
  unfold upto
  have := List.length_filter_le p (List.range n)
  simpa using this

theorem mem_upto (p : Nat → Bool) (n k : Nat) : k ∈ upto p n ↔ k < n ∧ p k = true := by simp [upto]

theorem upto_skip (p : Nat → Bool) (a : Nat) : ∀ m, (∀ j, a ≤ j → j < a + m → p j = false) → upto p (a + m) = upto p a := by
  intro m
  induction m with
  | zero => intro _; rfl
  | succ m ih =>
    intro h
    rw [← Nat.add_assoc, upto_no p (a + m) (h _ (by omega) (by omega))]
    exact ih fun j h1 h2 => h j h1 (by omega)

theorem upto_get (p : Nat → Bool) (k : Nat) : ∀ n, k < n → p k = true → (upto p n)[(upto p k).length]? = some k := by
  intro n
  induction n with
  | zero => intro h _; omega
  | succ n ih =>
    intro h hp
    rw [upto_succ]
    by_cases hk : k = n
    · subst hk; rw [hp]; simp
    · have h1 := ih (by omega) hp
      have h2 : (upto p k).length < (upto p n).length := (List.getElem?_eq_some_iff.1 h1).1
      rw [List.getElem?_append_left h2, h1]

theorem upto_idx (p : Nat → Bool) : ∀ (n i k : Nat), (upto p n)[i]? = some k → i = (upto p k).length ∧ p k = true ∧ k < n := by
  intro n
  induction n with
  | zero => intro i k h; simp [upto] at h
  | succ n ih =>
    intro i k h
    rw [upto_succ] at h
    by_cases hi : i < (upto p n).length
    · rw [List.getElem?_append_left hi] at h
      obtain ⟨a, b, c⟩ := ih i k h
      exact ⟨a, b, by omega⟩
    · rw [List.getElem?_append_right (by omega)] at h
      cases hp : p n with
      | false => rw [hp] at h; simp at h
      | true =>
        rw [hp] at h
        simp only [↓reduceIte] at h
        by_cases h0 : i - (upto p n).length = 0
        · rw [h0] at h
          simp at h
          subst h
          exact ⟨by omega, hp, by omega⟩
        · rw [List.getElem?_eq_none (by simp; omega)] at h
          simp at h

/-! ### lines -/
def isStart (l : List UInt8) (k : Nat) : Bool := k == 0 || l.getD (k - 1) 0 == 10
def starts (l : List UInt8) (k : Nat) : List Nat := upto (isStart l) k
def lineAt (l : List UInt8) (a : Nat) : List UInt8 := (l.drop a).takeWhile (· != 10)
def lineEnd (l : List UInt8) (a : Nat) : Nat := a + (lineAt l a).length
def stopN (l : List UInt8) (a : Nat) : Nat := min (lineEnd l a + 1) l.length

theorem isStart_zero (l : List UInt8) : isStart l 0 = true := rfl
theorem isStart_succ (l : List UInt8) (k : Nat) : isStart l (k + 1) = (l.getD k 0 == 10) := rfl

theorem tw_none {l : List UInt8} (h : ∀ k : Nat, l[k]? ≠ some 10) : l.takeWhile (· != 10) = l := by
  induction l with
  | nil => rfl
  | cons c t ih =>
    have h0 := h 0
    simp at h0
    rw [List.takeWhile_cons_of_pos (by simp [h0]), ih]
    intro k
    have := h (k + 1)
    simpa using this

theorem tw_some : ∀ {l : List UInt8} {o : Nat}, l[o]? = some 10 → (∀ k, k < o → l[k]? ≠ some 10) → (l.takeWhile (· != 10)).length = o := by
  intro l
  induction l with
  | nil => intro o h _; simp at h
  | cons c t ih =>
    intro o h hk
    cases o with
    | zero => simp at h; subst h; simp
    | succ o =>
      have h0 := hk 0 (by omega)
      simp at h0
      rw [List.takeWhile_cons_of_pos (by simp [h0])]
      simp only [List.length_cons]
      rw [ih (o := o) (by simpa using h)]
      intro k hk'
      have := hk (k + 1) (by omega)
      simpa using this

theorem lineEnd_le (l : List UInt8) (a : Nat) (h : a ≤ l.length) : lineEnd l a ≤ l.length := by
  unfold lineEnd lineAt
  have h1 : ((l.drop a).takeWhile (· != 10)).length ≤ (l.drop a).length := (List.takeWhile_sublist _).length_le
  rw [List.length_drop] at h1
  omega

theorem le_lineEnd (l : List UInt8) (a : Nat) : a ≤ lineEnd l a := by unfold lineEnd; omega

theorem tw_before : ∀ (l : List UInt8) (j : Nat), j < (l.takeWhile (· != 10)).length → l.getD j 0 ≠ 10 := by
  intro l
  induction l with
  | nil => intro j h; simp at h
  | cons c t ih =>
    intro j h
    by_cases hc : c = 10
    · subst hc; simp at h
    · rw [List.takeWhile_cons_of_pos (by simp [hc])] at h
      cases j with
      | zero => simpa using hc
      | succ j =>
        have := ih j (by simpa using h)
        simpa using this

theorem tw_at : ∀ (l : List UInt8), (l.takeWhile (· != 10)).length < l.length → l.getD (l.takeWhile (· != 10)).length 0 = 10 := by
  intro l
  induction l with
  | nil => intro h; simp at h
  | cons c t ih =>
    intro h
    by_cases hc : c = 10
    · subst hc; simp
    · rw [List.takeWhile_cons_of_pos (by simp [hc])] at h ⊢
      have := ih (by simpa using h)
      simpa using this

theorem getD_drop (l : List UInt8) (a j : Nat) : (l.drop a).getD j 0 = l.getD (a + j) 0 := by
  simp [List.getD_eq_getElem?_getD, List.getElem?_drop]

theorem line_before (l : List UInt8) (a j : Nat) (h1 : a ≤ j) (h2 : j < lineEnd l a) : l.getD j 0 ≠ 10 := by
  have := tw_before (l.drop a) (j - a) (by unfold lineEnd lineAt at h2; omega)
  rw [getD_drop] at this
  rwa [show a + (j - a) = j by omega] at this

theorem line_at (l : List UInt8) (a : Nat) (h : lineEnd l a < l.length) : l.getD (lineEnd l a) 0 = 10 := by
  have := tw_at (l.drop a) (by rw [List.length_drop]; unfold lineEnd lineAt at h; omega)
  rw [getD_drop] at this
  exact this

/-- The first line feed at or behind a stands at e, or there is none. -/
theorem lineEnd_eq (l : List UInt8) (a e : Nat) (h0 : a ≤ e) (h1 : ∀ j, a ≤ j → j < e → l.getD j 0 ≠ 10) (h2 : e < l.length ∧ l.getD e 0 = 10 ∨ e = l.length) : lineEnd l a = e := by
  have hle := le_lineEnd l a
  rcases Nat.lt_trichotomy (lineEnd l a) e with h | h | h
  · exfalso
    have hlt : lineEnd l a < l.length := by rcases h2 with h2 | h2 <;> omega
    exact h1 _ hle h (line_at l a hlt)
  · exact h
  · exfalso
    rcases h2 with ⟨_, h2⟩ | h2
    · exact line_before l a e h0 h h2
    · have := lineEnd_le l a (by omega); omega

theorem lineAt_eq (l : List UInt8) (a : Nat) : lineAt l a = (l.drop a).take (lineEnd l a - a) := by
  have h := List.prefix_iff_eq_take.1 (List.takeWhile_prefix (l := l.drop a) (p := (· != 10)))
  unfold lineEnd
  rw [show a + (lineAt l a).length - a = (lineAt l a).length by omega]
  exact h

theorem starts_line (l : List UInt8) (a : Nat) (ha : a < l.length) (hs : isStart l a = true) : starts l (stopN l a) = starts l a ++ [a] := by
  have hle := le_lineEnd l a
  have hle2 := lineEnd_le l a (by omega)
  have hst : a + 1 ≤ stopN l a := by unfold stopN; omega
  unfold starts
  have h2 := upto_skip (isStart l) (a + 1) (stopN l a - (a + 1)) (fun j h1 h2 => by
    obtain ⟨m, rfl⟩ : ∃ m, j = m + 1 := ⟨j - 1, by omega⟩
    rw [isStart_succ]
    have : l.getD m 0 ≠ 10 := line_before l a m (by omega) (by unfold stopN at h2; omega)
    simpa using this)
  rw [show a + 1 + (stopN l a - (a + 1)) = stopN l a by omega] at h2
  rw [h2, upto_yes _ _ hs]

theorem stop_start (l : List UInt8) (a : Nat) (h : stopN l a < l.length) : isStart l (stopN l a) = true := by
  have h1 : stopN l a = lineEnd l a + 1 := by unfold stopN at h ⊢; omega
  rw [h1, isStart_succ, line_at l a (by omega)]
  rfl

/-- The offset where line i of l ends, its line feed included, is that where line i + 1 begins, or the end. -/
theorem stop_next (l : List UInt8) (i a : Nat) (h : (starts l l.length)[i]? = some a) : stopN l a = (starts l l.length).getD (i + 1) l.length := by
  obtain ⟨hi, hp, hlt⟩ := upto_idx _ _ _ _ h
  have hl := starts_line l a hlt hp
  by_cases hs : stopN l a < l.length
  · have h1 := upto_get (isStart l) (stopN l a) l.length hs (stop_start l a hs)
    have h2 : (upto (isStart l) (stopN l a)).length = i + 1 := by
      have := congrArg List.length hl
      unfold starts at this
      rw [this, List.length_append, hi]; rfl
    rw [h2] at h1
    rw [List.getD_eq_getElem?_getD]
    unfold starts
    rw [h1]; rfl
  · have he : stopN l a = l.length := by unfold stopN at hs ⊢; omega
    rw [he] at hl
    rw [List.getD_eq_getElem?_getD, List.getElem?_eq_none]
    · exact he
    · rw [hl, List.length_append, hi]
      exact Nat.le_refl _

/-! ### the line of an offset -/
def lineNo (l : List UInt8) (off : Nat) : Nat := (l.take off).count 10
def lastStart (l : List UInt8) : Nat → Nat
  | 0 => 0
  | k + 1 => if l.getD k 0 = 10 then k + 1 else lastStart l k

theorem lineNo_zero (l : List UInt8) : lineNo l 0 = 0 := by simp [lineNo]
theorem lineNo_succ (l : List UInt8) (k : Nat) (h : k < l.length) : lineNo l (k + 1) = lineNo l k + if l.getD k 0 = 10 then 1 else 0 := by
  unfold lineNo
  rw [List.take_succ_eq_append_getElem h, List.count_append, List.count_singleton]
  have : l.getD k 0 = l[k] := by simp [h]
  rw [this]
  by_cases hc : l[k] = 10 <;> simp [hc]
theorem lineNo_le (l : List UInt8) (k : Nat) : lineNo l k ≤ k := by
  unfold lineNo
  have := List.count_le_length (a := (10 : UInt8)) (l := l.take k)
  have := List.length_take_le k l
  omega
theorem lineNo_mono (l : List UInt8) (a : Nat) : ∀ m, a + m ≤ l.length → lineNo l a ≤ lineNo l (a + m) := by
  intro m
  induction m with
  | zero => intro _; exact Nat.le_refl _
  | succ m ih =>
    intro h
    have := ih (by omega)
    rw [← Nat.add_assoc, lineNo_succ l (a + m) (by omega)]
    omega
theorem lastStart_le (l : List UInt8) (k : Nat) : lastStart l k ≤ k := by
  induction k with
  | zero => exact Nat.le_refl _
  | succ k ih => unfold lastStart; split <;> omega

theorem starts_no (l : List UInt8) (k : Nat) (h : k < l.length) : (starts l (k + 1)).length = lineNo l k + 1 ∧ (starts l (k + 1))[lineNo l k]? = some (lastStart l k) := by
  induction k with
  | zero => simp [starts, upto, lineNo, isStart, lastStart]
  | succ k ih =>
    obtain ⟨h1, h2⟩ := ih (by omega)
    have hn := lineNo_succ l k (by omega)
    unfold starts at h1 h2 ⊢
    by_cases hc : l.getD k 0 = 10
    · rw [if_pos hc] at hn
      rw [upto_yes _ (k + 1) (by rw [isStart_succ, hc]; rfl), List.length_append, h1, hn]
      refine ⟨rfl, ?_⟩
      rw [List.getElem?_append_right (by omega), h1, lastStart, if_pos hc]
      simp
    · rw [if_neg hc] at hn
      rw [upto_no _ (k + 1) (by rw [isStart_succ]; simpa using hc), hn, lastStart, if_neg hc]
      exact ⟨h1, h2⟩

theorem starts_prefix (l : List UInt8) (a : Nat) : ∀ m, ∃ t, starts l (a + m) = starts l a ++ t := by
  intro m
  induction m with
  | zero => exact ⟨[], by simp⟩
  | succ m ih =>
    obtain ⟨t, ht⟩ := ih
    refine ⟨t ++ if isStart l (a + m) then [a + m] else [], ?_⟩
    unfold starts at ht ⊢
    rw [← Nat.add_assoc, upto_succ, ht, List.append_assoc]

theorem starts_at (l : List UInt8) (k : Nat) (h : k < l.length) : (starts l l.length)[lineNo l k]? = some (lastStart l k) := by
  obtain ⟨h1, h2⟩ := starts_no l k h
  obtain ⟨t, ht⟩ := starts_prefix l (k + 1) (l.length - (k + 1))
  rw [show k + 1 + (l.length - (k + 1)) = l.length by omega] at ht
  rw [ht, List.getElem?_append_left (by omega), h2]

theorem starts_len (l : List UInt8) (h : 0 < l.length) : (starts l l.length).length = lineNo l (l.length - 1) + 1 := by
  have := (starts_no l (l.length - 1) (by omega)).1
  rwa [show l.length - 1 + 1 = l.length by omega] at this

/-! ### words -/
def wordN (c : UInt8) : Bool := decide ((97 ≤ c.toNat ∧ c.toNat ≤ 122) ∨ (65 ≤ c.toNat ∧ c.toNat ≤ 90) ∨ (48 ≤ c.toNat ∧ c.toNat ≤ 57) ∨ c.toNat = 95)
def isWs (l : List UInt8) (k : Nat) : Bool := wordN (l.getD k 0) && (k == 0 || !wordN (l.getD (k - 1) 0))
def wordEnd (l : List UInt8) (a : Nat) : Nat := a + ((l.drop a).takeWhile wordN).length
def words (l : List UInt8) (k : Nat) : List (Nat × Nat) := (upto (isWs l) k).map fun a => (a, wordEnd l a)

theorem isWs_zero (l : List UInt8) : isWs l 0 = wordN (l.getD 0 0) := by simp [isWs]
theorem isWs_succ (l : List UInt8) (k : Nat) : isWs l (k + 1) = (wordN (l.getD (k + 1) 0) && !wordN (l.getD k 0)) := by simp [isWs]

theorem we_le (l : List UInt8) (a : Nat) (h : a ≤ l.length) : wordEnd l a ≤ l.length := by
  unfold wordEnd
  have h1 : ((l.drop a).takeWhile wordN).length ≤ (l.drop a).length := (List.takeWhile_sublist _).length_le
  rw [List.length_drop] at h1
  omega
theorem le_we (l : List UInt8) (a : Nat) : a ≤ wordEnd l a := by unfold wordEnd; omega

theorem wtw_before : ∀ (l : List UInt8) (j : Nat), j < (l.takeWhile wordN).length → wordN (l.getD j 0) = true := by
  intro l
  induction l with
  | nil => intro j h; simp at h
  | cons c t ih =>
    intro j h
    cases hc : wordN c
    · rw [List.takeWhile_cons_of_neg (by simp [hc])] at h; simp at h
    · rw [List.takeWhile_cons_of_pos hc] at h
      cases j with
      | zero => simpa using hc
      | succ j =>
        have := ih j (by simpa using h)
        simpa using this

theorem wtw_at : ∀ (l : List UInt8), (l.takeWhile wordN).length < l.length → wordN (l.getD (l.takeWhile wordN).length 0) = false := by
  intro l
  induction l with
  | nil => intro h; simp at h
  | cons c t ih =>
    intro h
    cases hc : wordN c
    · rw [List.takeWhile_cons_of_neg (by simp [hc])]; simpa using hc
    · rw [List.takeWhile_cons_of_pos hc] at h ⊢
      have := ih (by simpa using h)
      simpa using this

theorem word_before (l : List UInt8) (a j : Nat) (h1 : a ≤ j) (h2 : j < wordEnd l a) : wordN (l.getD j 0) = true := by
  have := wtw_before (l.drop a) (j - a) (by unfold wordEnd at h2; omega)
  rw [getD_drop] at this
  rwa [show a + (j - a) = j by omega] at this

theorem word_at (l : List UInt8) (a : Nat) (h : wordEnd l a < l.length) : wordN (l.getD (wordEnd l a) 0) = false := by
  have := wtw_at (l.drop a) (by rw [List.length_drop]; unfold wordEnd at h; omega)
  rw [getD_drop] at this
  exact this

theorem wordEnd_eq (l : List UInt8) (a e : Nat) (h0 : a ≤ e) (h1 : ∀ j, a ≤ j → j < e → wordN (l.getD j 0) = true) (h2 : e < l.length ∧ wordN (l.getD e 0) = false ∨ e = l.length) : wordEnd l a = e := by
  have hle := le_we l a
  rcases Nat.lt_trichotomy (wordEnd l a) e with h | h | h
  · exfalso
    have hlt : wordEnd l a < l.length := by rcases h2 with h2 | h2 <;> omega
    have h3 := word_at l a hlt
    rw [h1 _ hle h] at h3
    exact Bool.noConfusion h3
  · exact h
  · exfalso
    rcases h2 with ⟨_, h2⟩ | h2
    · have h3 := word_before l a e h0 h
      rw [h2] at h3
      exact Bool.noConfusion h3
    · have := we_le l a (by omega); omega

theorem words_word (l : List UInt8) (a : Nat) (ha : a < l.length) (hs : isWs l a = true) : words l (min (wordEnd l a + 1) l.length) = words l a ++ [(a, wordEnd l a)] := by
  have hw : wordN (l.getD a 0) = true := by unfold isWs at hs; simp at hs; simpa using hs.1
  have hle := we_le l a (by omega)
  have hlt : a < wordEnd l a := by
    rcases Nat.lt_or_ge a (wordEnd l a) with h | h
    · exact h
    · have he : wordEnd l a = a := by have := le_we l a; omega
      have := word_at l a (by omega)
      rw [he, hw] at this
      exact Bool.noConfusion this
  unfold words
  have h2 := upto_skip (isWs l) (a + 1) (min (wordEnd l a + 1) l.length - (a + 1)) (fun j h1 h2 => by
    obtain ⟨m, rfl⟩ : ∃ m, j = m + 1 := ⟨j - 1, by omega⟩
    rw [isWs_succ, word_before l a m (by omega) (by omega)]
    simp)
  rw [show a + 1 + (min (wordEnd l a + 1) l.length - (a + 1)) = min (wordEnd l a + 1) l.length by omega] at h2
  rw [h2, upto_yes _ _ hs, List.map_append]
  rfl

end Go.Proofs.Ytniapakheegijaa
