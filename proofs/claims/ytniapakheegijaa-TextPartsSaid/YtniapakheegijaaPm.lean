/- Plain facts on words, in order; folding keeps them. -/
import Derived.Test.YtniapakheegijaaPl
namespace Go.Proofs.Ytniapakheegijaa

theorem upto_mono (p : Nat → Bool) (a : Nat) : ∀ m, (upto p a).length ≤ (upto p (a + m)).length := by
  intro m
  induction m with
  | zero => exact Nat.le_refl _
  | succ m ih =>
    rw [← Nat.add_assoc, upto_succ, List.length_append]
    omega
theorem upto_le (p : Nat → Bool) {a b : Nat} (h : a ≤ b) : (upto p a).length ≤ (upto p b).length := by
  have := upto_mono p a (b - a)
  rwa [show a + (b - a) = b by omega] at this
/-- Between two marks of one count there is none. -/
theorem upto_gap (p : Nat → Bool) {c a : Nat} (h : (upto p a).length ≤ (upto p c).length) : ∀ j, c ≤ j → j < a → p j = false := by
  intro j h1 h2
  cases hp : p j with
  | false => rfl
  | true =>
    have h3 := congrArg List.length (upto_yes p j hp)
    rw [List.length_append] at h3
    have h4 := upto_le p h1
    have h5 := upto_le p (show j + 1 ≤ a by omega)
    have h6 : [j].length = 1 := rfl
    omega

theorem dull_on (l : List UInt8) (q a : Nat) (hq : wordN (l.getD q 0) = false) (hg : ∀ j, q < j → j < a → isWs l j = false) : ∀ j, q ≤ j → j < a → wordN (l.getD j 0) = false := by
  intro j
  induction j with
  | zero =>
    intro h1 _
    have : q = 0 := by omega
    subst this
    exact hq
  | succ j ih =>
    intro h1 h2
    by_cases hqj : q = j + 1
    · subst hqj; exact hq
    · have h3 := ih (by omega) (by omega)
      have h4 := hg (j + 1) (by omega) h2
      rw [isWs_succ, h3] at h4
      simpa using h4

/-- Where the word before the k-th ends. -/
def pe (l : List UInt8) : Nat → Nat
  | 0 => 0
  | k + 1 => wordEnd l ((upto (isWs l) l.length).getD k 0)

theorem ws_word (l : List UInt8) (a : Nat) (h : isWs l a = true) : wordN (l.getD a 0) = true := by
  unfold isWs at h
  cases hw : wordN (l.getD a 0) with
  | true => rfl
  | false => rw [hw] at h; simp at h

theorem ws_lt (l : List UInt8) (a : Nat) (ha : a < l.length) (h : isWs l a = true) : a < wordEnd l a := by
  have hw := ws_word l a h
  rcases Nat.lt_or_ge a (wordEnd l a) with h1 | h1
  · exact h1
  · have he : wordEnd l a = a := by have := le_we l a; omega
    have := word_at l a (by omega)
    rw [he, hw] at this
    exact Bool.noConfusion this

theorem pe_succ (l : List UInt8) (k a : Nat) (h : (upto (isWs l) l.length)[k]? = some a) : pe l (k + 1) = wordEnd l a := by
  show wordEnd l ((upto (isWs l) l.length).getD k 0) = _
  rw [List.getD_eq_getElem?_getD, h]
  rfl

theorem pe_le (l : List UInt8) (k : Nat) (hk : k ≤ (upto (isWs l) l.length).length) : pe l k ≤ l.length := by
  cases k with
  | zero => exact Nat.zero_le _
  | succ k =>
    have hb := List.getElem?_eq_getElem (show k < (upto (isWs l) l.length).length by omega)
    rw [pe_succ l k _ hb]
    exact we_le l _ (by have := (upto_idx _ _ _ _ hb).2.2; omega)

/-- No word byte between the word before and whatever is not behind a further word's beginning. -/
theorem pe_dull (l : List UInt8) (k a : Nat) (hk : k ≤ (upto (isWs l) l.length).length) (ha : a ≤ l.length) (hc : (upto (isWs l) a).length ≤ k) : ∀ j, pe l k ≤ j → j < a → wordN (l.getD j 0) = false := by
  cases k with
  | zero =>
    intro j _ hj
    have hg := upto_gap (isWs l) (c := 0) (a := a) (by simpa [upto] using hc)
    have h0 := hg 0 (Nat.le_refl _) (by omega)
    rw [isWs_zero] at h0
    exact dull_on l 0 a h0 (fun i _ h2 => hg i (Nat.zero_le _) h2) j (Nat.zero_le _) hj
  | succ k =>
    intro j h1 hj
    have hb := List.getElem?_eq_getElem (show k < (upto (isWs l) l.length).length by omega)
    obtain ⟨hi, hp, hbl⟩ := upto_idx _ _ _ _ hb
    rw [pe_succ l k _ hb] at h1
    have hlt := ws_lt l _ hbl hp
    have hcount : (upto (isWs l) ((upto (isWs l) l.length)[k] + 1)).length = k + 1 := by
      rw [upto_yes _ _ hp, List.length_append, ← hi]
      rfl
    have hg := upto_gap (isWs l) (c := (upto (isWs l) l.length)[k] + 1) (a := a) (by omega)
    exact dull_on l _ a (word_at l _ (by omega)) (fun i h3 h4 => hg i (by omega) h4) j h1 hj

theorem pe_tail (l : List UInt8) (k : Nat) (hk : k = (upto (isWs l) l.length).length) : ∀ j, pe l k ≤ j → j < l.length → wordN (l.getD j 0) = false :=
  pe_dull l k l.length (by omega) (Nat.le_refl _) (by omega)

theorem pe_word (l : List UInt8) (k a : Nat) (h : (upto (isWs l) l.length)[k]? = some a) :
    pe l k ≤ a ∧ (0 < k → pe l k < a) ∧ a < wordEnd l a ∧ wordEnd l a ≤ l.length ∧ (∀ j, pe l k ≤ j → j < a → wordN (l.getD j 0) = false) := by
  obtain ⟨hi, hp, hal⟩ := upto_idx _ _ _ _ h
  have hk := (List.getElem?_eq_some_iff.1 h).1
  have hd := pe_dull l k a (by omega) (by omega) (by omega)
  have hw := ws_word l a hp
  have hpe : pe l k ≤ a ∧ (0 < k → pe l k < a) := by
    cases k with
    | zero => exact ⟨Nat.zero_le _, fun h => absurd h (Nat.lt_irrefl _)⟩
    | succ k =>
      have hb := List.getElem?_eq_getElem (show k < (upto (isWs l) l.length).length by omega)
      obtain ⟨hi', hp', hbl⟩ := upto_idx _ _ _ _ hb
      have hlt := ws_lt l _ hbl hp'
      rw [pe_succ l k _ hb]
      have hba : (upto (isWs l) l.length)[k] < a := by
        rcases Nat.lt_or_ge ((upto (isWs l) l.length)[k]) a with h1 | h1
        · exact h1
        · have := upto_le (isWs l) h1
          omega
      have hlt2 : wordEnd l ((upto (isWs l) l.length)[k]) < a := by
        rcases Nat.lt_or_ge (wordEnd l ((upto (isWs l) l.length)[k])) a with h1 | h1
        · exact h1
        · exfalso
          obtain ⟨m, rfl⟩ : ∃ m, a = m + 1 := ⟨a - 1, by omega⟩
          rw [isWs_succ, word_before l ((upto (isWs l) l.length)[k]) m (by omega) (by omega)] at hp
          simp at hp
      exact ⟨by omega, fun _ => hlt2⟩
  exact ⟨hpe.1, hpe.2, ws_lt l a hal hp, we_le l a (by omega), hd⟩

/-! ### folding -/
def foldB' (c : UInt8) : UInt8 := if 65 ≤ c.toNat ∧ c.toNat ≤ 90 then c + 32 else c
theorem foldB'_nat (c : UInt8) : (foldB' c).toNat = if 65 ≤ c.toNat ∧ c.toNat ≤ 90 then c.toNat + 32 else c.toNat := by
  unfold foldB'
  split
  · rename_i h
    rw [UInt8.toNat_add]
    simp
    omega
  · rfl
theorem fold_word (c : UInt8) : wordN (foldB' c) = wordN c := by
  unfold wordN
  rw [foldB'_nat]
  rw [Bool.eq_iff_iff]
  simp only [decide_eq_true_eq]
  split <;> omega
theorem fold_twice (c : UInt8) : foldB' (foldB' c) = foldB' c := by
  rw [← UInt8.toNat_inj, foldB'_nat, foldB'_nat]
  by_cases h : 65 ≤ c.toNat ∧ c.toNat ≤ 90
  · rw [if_pos h, if_neg (by omega)]
  · rw [if_neg h, if_neg h]

theorem wordN_zero : wordN 0 = false := by decide
theorem getD_fold (l : List UInt8) (k : Nat) : wordN ((l.map foldB').getD k 0) = wordN (l.getD k 0) := by
  rw [List.getD_eq_getElem?_getD, List.getD_eq_getElem?_getD, List.getElem?_map]
  cases h : l[k]? with
  | none => rfl
  | some c => exact fold_word c
theorem isWs_fold (l : List UInt8) (k : Nat) : isWs (l.map foldB') k = isWs l k := by
  unfold isWs
  rw [getD_fold, getD_fold]
theorem tw_fold : ∀ l : List UInt8, ((l.map foldB').takeWhile wordN).length = (l.takeWhile wordN).length := by
  intro l
  induction l with
  | nil => rfl
  | cons c t ih =>
    cases hc : wordN c with
    | false =>
      rw [List.map_cons, List.takeWhile_cons_of_neg (by rw [fold_word, hc]; simp), List.takeWhile_cons_of_neg (by rw [hc]; simp)]
    | true =>
      rw [List.map_cons, List.takeWhile_cons_of_pos (by rw [fold_word, hc]), List.takeWhile_cons_of_pos hc]
      simp [ih]
theorem words_fold (l : List UInt8) (k : Nat) : words (l.map foldB') k = words l k := by
  have h1 : upto (isWs (l.map foldB')) k = upto (isWs l) k := by
    unfold upto
    exact List.filter_congr fun i _ => isWs_fold l i
  have h2 : ∀ a, wordEnd (l.map foldB') a = wordEnd l a := fun a => by
    unfold wordEnd
    rw [← List.map_drop, tw_fold]
  unfold words
  rw [h1]
  simp [h2]

end Go.Proofs.Ytniapakheegijaa
