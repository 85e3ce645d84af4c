/- Tokens: printing and scanning again, order, pieces; no program. -/
import Derived.Test.YteokeljmggdecaaDoorHb
namespace Go.Proofs.YteokeljmggdecaaDoor

/-! ### bytes -/
theorem dg_wd {c : UInt8} (h : dgB c = true) : wdB c = true := by unfold wdB; rw [h, Bool.or_true]
theorem lt_wd {c : UInt8} (h : ltB c = true) : wdB c = true := by unfold wdB; rw [h, Bool.true_or]
theorem wd_lt {c : UInt8} (h : wdB c = true) (h2 : dgB c = false) : ltB c = true := by unfold wdB at h; rwa [h2, Bool.or_false] at h
theorem dg_lt {c : UInt8} (h : dgB c = true) : ltB c = false := by
  unfold dgB at h
  simp only [Bool.and_eq_true, decide_eq_true_eq] at h
  have h95 : (c == 95) = false := by
    rw [beq_eq_false_iff_ne]
    intro e; subst e; exact absurd h.2 (by decide)
  unfold ltB
  rw [h95, Bool.or_false, Bool.or_eq_false_iff]
  exact ⟨by rw [decide_eq_false (show ¬ 65 ≤ c.toNat by omega), Bool.false_and], by rw [decide_eq_false (show ¬ 97 ≤ c.toNat by omega), Bool.false_and]⟩
theorem lt_dg {c : UInt8} (h : ltB c = true) : dgB c = false := by
  cases h2 : dgB c with
  | false => rfl
  | true => rw [dg_lt h2] at h; cases h

/-! ### keywords, marks -/
theorem mem_kw {t : List UInt8} (h : isKw t = true) : t ∈ kwL := by unfold isKw at h; simpa using h
theorem mem_mk {t : List UInt8} (h : isMk t = true) : t ∈ mkL := by unfold isMk at h; simpa using h
theorem kw_facts : ∀ t ∈ kwL, t.all wdB = true ∧ t.isEmpty = false ∧ ltB (t.headD 0) = true ∧ t.length ≤ 24 := by decide
theorem mk_facts : ∀ t ∈ mkL, dgB (t.headD 0) = false ∧ ltB (t.headD 0) = false ∧ blB (t.headD 0) = false ∧ ¬ t.headD 0 = 34 ∧ ¬ t.headD 0 = 36 ∧ t.length ≤ 2 ∧ t.isEmpty = false ∧ (t.length = 1 → isMk (t ++ [32]) = false ∧ isMk (t ++ [10]) = false) ∧ (t.headD 0 = 47 → t = [47]) := by decide
theorem mk_sign (l : List UInt8) : isMk (36 :: l) = false := by
  cases h : isMk (36 :: l) with
  | false => rfl
  | true => exact absurd rfl (mk_facts _ (mem_mk h)).2.2.2.2.1
theorem mk_feed (c : UInt8) : isMk [c, 10] = false := by
  cases h : isMk [c, 10] with
  | false => rfl
  | true =>
    have := mem_mk h
    simp [mkL] at this

/-! ### what stands at the beginning -/
theorem pre_int {pat : Bool} {r : List UInt8} (h : dgB (r.headD 0) = true) : preS pat r = (3, intS r, (intS r).length) := by
  unfold preS; dsimp only; rw [if_pos h]
theorem pre_word {pat : Bool} {r : List UInt8} (h : ltB (r.headD 0) = true) : preS pat r = (if isKw (wordS r) then 2 else 1, wordS r, (wordS r).length) := by
  unfold preS; dsimp only; rw [if_neg (by rw [lt_dg h]; decide), if_pos h]
theorem pre_lit (pat : Bool) (r : List UInt8) : preS pat (34 :: r) = match litS r with | none => (0, [], 0) | some x => (4, x.1, x.2 + 1) := by
  unfold preS
  change (if dgB 34 = true then _ else if ltB 34 = true then _ else if (34 : UInt8) = 34 then _ else _) = _
  rw [if_neg (show ¬ dgB 34 = true by decide), if_neg (show ¬ ltB 34 = true by decide), if_pos rfl]
  rfl
theorem pre_many (r : List UInt8) : preS true (36 :: 36 :: r) = (7, wordS r, 2 + (wordS r).length) := by
  unfold preS
  change (if dgB 36 = true then _ else if ltB 36 = true then _ else if (36 : UInt8) = 34 then _ else if true = true ∧ (36 : UInt8) = 36 then (if (36 : UInt8) = 36 then (7, wordS r, 2 + (wordS r).length) else _) else _) = _
  rw [if_neg (show ¬ dgB 36 = true by decide), if_neg (show ¬ ltB 36 = true by decide), if_neg (by decide), if_pos ⟨rfl, rfl⟩, if_pos rfl]
theorem pre_meta (r : List UInt8) (h : ¬ r.headD 0 = 36) : preS true (36 :: r) = (6, wordS r, 1 + (wordS r).length) := by
  unfold preS
  change (if dgB 36 = true then _ else if ltB 36 = true then _ else if (36 : UInt8) = 34 then _ else if true = true ∧ (36 : UInt8) = 36 then (if r.headD 0 = 36 then _ else (6, wordS r, 1 + (wordS r).length)) else _) = _
  rw [if_neg (show ¬ dgB 36 = true by decide), if_neg (show ¬ ltB 36 = true by decide), if_neg (by decide), if_pos ⟨rfl, rfl⟩, if_neg h]
theorem pre_mark {pat : Bool} {c : UInt8} {r : List UInt8} (h1 : dgB c = false) (h2 : ltB c = false) (h3 : ¬ c = 34) (h4 : ¬ (pat = true ∧ c = 36)) :
    preS pat (c :: r) = if 2 ≤ (c :: r).length ∧ isMk ((c :: r).take 2) = true then (5, (c :: r).take 2, 2) else (5, (c :: r).take 1, 1) := by
  unfold preS
  dsimp only [List.headD_cons]
  rw [if_neg (by rw [h1]; decide), if_neg (by rw [h2]; decide), if_neg h3, if_neg h4]
theorem word_ne {r : List UInt8} (h : ltB (r.headD 0) = true) : ∃ c x, r = c :: x ∧ wordS r = c :: wordS x := by
  cases r with
  | nil => exact absurd h (by decide)
  | cons c x => exact ⟨c, x, rfl, tw_cons c x (lt_wd h)⟩
theorem int_ne {r : List UInt8} (h : dgB (r.headD 0) = true) : ∃ c x, r = c :: x ∧ intS r = c :: intS x := by
  cases r with
  | nil => exact absurd h (by decide)
  | cons c x => exact ⟨c, x, rfl, tw_cons c x h⟩
theorem lead_len (p : UInt8 → Bool) (r : List UInt8) : (r.takeWhile p).length ≤ r.length := tw_len r

/-- The four kinds of beginnings of a list. -/
theorem pre_cases (pat : Bool) (c : UInt8) :
    dgB c = true ∨ (ltB c = true) ∨ c = 34 ∨ (pat = true ∧ c = 36) ∨ (dgB c = false ∧ ltB c = false ∧ ¬ c = 34 ∧ ¬ (pat = true ∧ c = 36)) := by
  by_cases h1 : dgB c = true
  · exact Or.inl h1
  · by_cases h2 : ltB c = true
    · exact Or.inr (Or.inl h2)
    · by_cases h3 : c = 34
      · exact Or.inr (Or.inr (Or.inl h3))
      · by_cases h4 : pat = true ∧ c = 36
        · exact Or.inr (Or.inr (Or.inr (Or.inl h4)))
        · exact Or.inr (Or.inr (Or.inr (Or.inr ⟨by simpa using h1, by simpa using h2, h3, h4⟩)))

theorem fault_none : faultS 0 [] = 11 := by decide
theorem fault_right {k : Int} {t : List UInt8} (h : rightS k t = true) : faultS k t = 0 := by unfold rightS at h; simpa using h
theorem right_of {k : Int} {t : List UInt8} (h : faultS k t = 0) : rightS k t = true := by unfold rightS; rw [h]; rfl
theorem right_form {k : Int} {t : List UInt8} (h : rightS k t = true) : formS k t = true ∧ t.length ≤ longS k := by
  have h := fault_right h
  unfold faultS at h
  split at h
  · cases h
  · split at h
    · cases h
    · rename_i h1 h2
      exact ⟨by simpa using h1, by omega⟩
theorem fault_le (k : Int) (t : List UInt8) : faultS k t = 0 ∨ faultS k t = 11 ∨ faultS k t = 4 := by
  unfold faultS
  split
  · exact Or.inr (Or.inl rfl)
  · split
    · exact Or.inr (Or.inr rfl)
    · exact Or.inl rfl
theorem form1 (t : List UInt8) : formS 1 t = nameS t := by unfold formS; rw [if_pos (Or.inl rfl)]
theorem form6 (t : List UInt8) : formS 6 t = nameS t := by unfold formS; rw [if_pos (by decide)]
theorem form7 (t : List UInt8) : formS 7 t = nameS t := by unfold formS; rw [if_pos (by decide)]
theorem form2 (t : List UInt8) : formS 2 t = isKw t := by unfold formS; rw [if_neg (by decide), if_pos rfl]
theorem form3 (t : List UInt8) : formS 3 t = (t == [48] || (!t.isEmpty && !(t.headD 0 == 48) && t.all dgB)) := by
  unfold formS; rw [if_neg (by decide), if_neg (by decide), if_pos rfl]
theorem form4 (t : List UInt8) : formS 4 t = t.all conB := by unfold formS; rw [if_neg (by decide), if_neg (by decide), if_neg (by decide), if_pos rfl]
theorem form5 (t : List UInt8) : formS 5 t = isMk t := by unfold formS; rw [if_neg (by decide), if_neg (by decide), if_neg (by decide), if_neg (by decide), if_pos rfl]
theorem form_kinds {k : Int} {t : List UInt8} (h : formS k t = true) : k = 1 ∨ k = 2 ∨ k = 3 ∨ k = 4 ∨ k = 5 ∨ k = 6 ∨ k = 7 := by
  unfold formS at h
  split at h
  · omega
  · split at h
    · omega
    · split at h
      · omega
      · split at h
        · omega
        · split at h
          · omega
          · cases h
theorem name_facts {t : List UInt8} (h : nameS t = true) : ∃ c x, t = c :: x ∧ ltB c = true ∧ t.all wdB = true ∧ isKw t = false := by
  unfold nameS at h
  simp only [Bool.and_eq_true, Bool.not_eq_true'] at h
  obtain ⟨⟨⟨h1, h2⟩, h3⟩, h4⟩ := h
  cases t with
  | nil => simp at h1
  | cons c x =>
    simp only [List.all_cons, Bool.and_eq_true] at h3
    exact ⟨c, x, rfl, wd_lt h3.1 h2, by simp only [List.all_cons, h3.1, h3.2, Bool.and_true], h4⟩
theorem int_facts {t : List UInt8} (h : formS 3 t = true) : ∃ c x, t = c :: x ∧ dgB c = true ∧ t.all dgB = true := by
  rw [form3, Bool.or_eq_true] at h
  rcases h with h | h
  · have : t = [48] := by simpa using h
    subst this
    exact ⟨48, [], rfl, by decide, by decide⟩
  · simp only [Bool.and_eq_true, Bool.not_eq_true'] at h
    cases t with
    | nil => simp at h
    | cons c x =>
      obtain ⟨_, h3⟩ := h
      simp only [List.all_cons, Bool.and_eq_true] at h3
      exact ⟨c, x, rfl, h3.1, by simp only [List.all_cons, h3.1, h3.2, Bool.and_true]⟩

/-- A token occupies a byte at least, and no more than there are. -/
theorem pre_len {pat : Bool} {r : List UInt8} (hr : r ≠ []) (h : faultS (preS pat r).1 (preS pat r).2.1 = 0) : 1 ≤ (preS pat r).2.2 ∧ (preS pat r).2.2 ≤ r.length := by
  cases r with
  | nil => exact absurd rfl hr
  | cons c x =>
    rcases pre_cases pat c with h1 | h1 | h1 | h1 | ⟨h1, h2, h3, h4⟩
    · rw [pre_int (r := c :: x) h1]
      obtain ⟨_, _, e, e2⟩ := int_ne (r := c :: x) h1
      exact ⟨by rw [e2]; simp, tw_len _⟩
    · rw [pre_word (r := c :: x) h1]
      obtain ⟨_, _, e, e2⟩ := word_ne (r := c :: x) h1
      exact ⟨by rw [e2]; simp, tw_len _⟩
    · subst h1
      rw [pre_lit] at h ⊢
      cases hl : litS x with
      | none => rw [hl] at h; exact absurd h (by decide)
      | some y =>
        have := litS_len _ x (Nat.le_refl _) y.1 y.2 hl
        simp only [List.length_cons]
        omega
    · obtain ⟨rfl, rfl⟩ := h1
      by_cases hm : x.headD 0 = 36
      · cases x with
        | nil => exact absurd hm (by decide)
        | cons y x =>
          have hy : y = 36 := hm
          subst hy
          rw [pre_many]
          have : (wordS x).length ≤ x.length := tw_len x
          simp only [List.length_cons]
          omega
      · rw [pre_meta x hm]
        have : (wordS x).length ≤ x.length := tw_len x
        simp only [List.length_cons]
        omega
    · rw [pre_mark h1 h2 h3 h4]
      split
      · rename_i h; exact ⟨Nat.le_succ 1, h.1⟩
      · simp

/-- What a token is depends on its own bytes and on what follows only where that is no blank or line feed. -/
theorem pre_more {pat : Bool} {r : List UInt8} (hr : r ≠ []) (h : faultS (preS pat r).1 (preS pat r).2.1 = 0) (e : List UInt8) (he : e = [] ∨ ∃ x, e = 10 :: x) :
    preS pat (r.take (preS pat r).2.2 ++ e) = preS pat r := by
  have hw : ∀ l : List UInt8, wordS (l ++ e) = wordS l := by
    intro l
    rcases he with rfl | ⟨x, rfl⟩
    · rw [List.append_nil]
    · exact tw_stop l x 10 (by decide)
  have hi : ∀ l : List UInt8, intS (l ++ e) = intS l := by
    intro l
    rcases he with rfl | ⟨x, rfl⟩
    · rw [List.append_nil]
    · exact tw_stop l x 10 (by decide)
  cases r with
  | nil => exact absurd rfl hr
  | cons c x =>
    rcases pre_cases pat c with h1 | h1 | h1 | h1 | ⟨h1, h2, h3, h4⟩
    · have e1 := pre_int (pat := pat) (r := c :: x) h1
      obtain ⟨_, _, e, e2⟩ := int_ne (r := c :: x) h1
      cases e
      rw [e1]
      dsimp only
      have ht : (c :: x).take (intS (c :: x)).length = intS (c :: x) := tw_take _
      rw [ht]
      have hh : intS (intS (c :: x) ++ _) = intS (c :: x) := (hi _).trans (tw_tw _)
      rw [pre_int (by rw [e2]; exact h1), hh]
    · have e1 := pre_word (pat := pat) (r := c :: x) h1
      obtain ⟨_, _, e, e2⟩ := word_ne (r := c :: x) h1
      cases e
      rw [e1]
      dsimp only
      have ht : (c :: x).take (wordS (c :: x)).length = wordS (c :: x) := tw_take _
      rw [ht]
      have hh : wordS (wordS (c :: x) ++ _) = wordS (c :: x) := (hw _).trans (tw_tw _)
      rw [pre_word (by rw [e2]; exact h1), hh]
    · subst h1
      rw [pre_lit] at h ⊢
      cases hl : litS x with
      | none => rw [hl] at h; exact absurd h (by decide)
      | some y =>
        dsimp only
        rw [List.take_succ_cons, List.cons_append, pre_lit, litS_more _ x (Nat.le_refl _) y.1 y.2 hl]
    · obtain ⟨rfl, rfl⟩ := h1
      by_cases hm : x.headD 0 = 36
      · cases x with
        | nil => exact absurd hm (by decide)
        | cons y x =>
          have hy : y = 36 := hm
          subst hy
          rw [pre_many]
          dsimp only
          rw [show 2 + (wordS x).length = (wordS x).length + 1 + 1 by omega, List.take_succ_cons, List.take_succ_cons, List.cons_append, List.cons_append, pre_many]
          have ht : x.take (wordS x).length = wordS x := tw_take _
          rw [ht, hw, show wordS (wordS x) = wordS x from tw_tw _]
          congr 2
          omega
      · rw [pre_meta x hm] at h ⊢
        dsimp only at h ⊢
        have hf := (right_form (right_of h)).1
        rw [form6] at hf
        obtain ⟨a, b, hab, ha, _, _⟩ := name_facts hf
        have ht : x.take (wordS x).length = wordS x := tw_take _
        rw [show 1 + (wordS x).length = (wordS x).length + 1 by omega, List.take_succ_cons, List.cons_append, ht, pre_meta _ (by
          rw [hab]
          intro e
          have e : a = 36 := e
          subst e
          exact absurd ha (by decide)), hw, show wordS (wordS x) = wordS x from tw_tw _]
        congr 2
        omega
    · rw [pre_mark h1 h2 h3 h4] at h ⊢
      by_cases hm : 2 ≤ (c :: x).length ∧ isMk ((c :: x).take 2) = true
      · rw [if_pos hm] at h ⊢
        cases x with
        | nil => simp at hm
        | cons y x =>
          show preS pat (c :: y :: e) = _
          rw [pre_mark h1 h2 h3 h4, if_pos ⟨by simp, by simpa using hm.2⟩]
          rfl
      · rw [if_neg hm] at h ⊢
        show preS pat (c :: e) = _
        rw [pre_mark h1 h2 h3 h4]
        rcases he with rfl | ⟨z, rfl⟩
        · rw [if_neg (by simp)]; rfl
        · rw [if_neg (by
            rintro ⟨_, h⟩
            have h : isMk [c, 10] = true := by simpa using h
            rw [mk_feed] at h
            cases h)]
          rfl
theorem pre_app {pat : Bool} {r : List UInt8} (hr : r ≠ []) (h : faultS (preS pat r).1 (preS pat r).2.1 = 0) (x : List UInt8) : preS pat (r ++ 10 :: x) = preS pat r := by
  have hw : ∀ l : List UInt8, wordS (l ++ 10 :: x) = wordS l := fun l => tw_stop l x 10 (by decide)
  have hi : ∀ l : List UInt8, intS (l ++ 10 :: x) = intS l := fun l => tw_stop l x 10 (by decide)
  cases r with
  | nil => exact absurd rfl hr
  | cons c y =>
    rcases pre_cases pat c with h1 | h1 | h1 | h1 | ⟨h1, h2, h3, h4⟩
    · rw [pre_int (r := c :: y) h1, pre_int (r := c :: y ++ 10 :: x) h1, hi]
    · rw [pre_word (r := c :: y) h1, pre_word (r := c :: y ++ 10 :: x) h1, hw]
    · subst h1
      rw [List.cons_append, pre_lit, pre_lit]
      rw [pre_lit] at h
      cases hl : litS y with
      | none => rw [hl] at h; exact absurd h (by decide)
      | some z => rw [litS_app (t := z.1) (n := z.2) hl]
    · obtain ⟨rfl, rfl⟩ := h1
      by_cases hm : y.headD 0 = 36
      · cases y with
        | nil => exact absurd hm (by decide)
        | cons a y =>
          have ha : a = 36 := hm
          subst ha
          rw [List.cons_append, List.cons_append, pre_many, pre_many, hw]
      · have hm2 : ¬ (y ++ 10 :: x).headD 0 = 36 := by
          cases y with
          | nil => exact fun e => absurd (show (10 : UInt8) = 36 from e) (by decide)
          | cons a y => exact hm
        rw [List.cons_append, pre_meta y hm, pre_meta _ hm2, hw]
    · rw [List.cons_append, pre_mark h1 h2 h3 h4, pre_mark h1 h2 h3 h4]
      cases y with
      | nil =>
        rw [if_neg (show ¬ (2 ≤ [c].length ∧ isMk ([c].take 2) = true) from fun h => absurd h.1 (by simp)), if_neg (show ¬ (2 ≤ (c :: ([] ++ 10 :: x)).length ∧ isMk ((c :: ([] ++ 10 :: x)).take 2) = true) from fun h => by
          have h2 := h.2
          rw [show List.take 2 (c :: ([] ++ 10 :: x)) = [c, 10] from rfl, mk_feed] at h2
          cases h2)]
        rfl
      | cons a y => simp
end Go.Proofs.YteokeljmggdecaaDoor
