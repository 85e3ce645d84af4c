/- Tokens: scanning again what was printed, order, pieces; no program. -/
import Derived.Test.YteokeljmggdecaaDoorHc
namespace Go.Proofs.YteokeljmggdecaaDoor

/-! ### one step of the scan -/
theorem scan_nil (k : Nat) (pat : Bool) (D n : Nat) : scanF k pat D n [] = .ok [] := by cases k <;> rfl
/-- The error of what stands at the beginning. -/
def errS (pat : Bool) (r : List UInt8) : Int := faultS (preS pat r).1 (preS pat r).2.1
theorem scan_bad {k : Nat} {pat : Bool} {D n : Nat} {c : UInt8} {r : List UInt8} (h : errS pat (c :: r) ≠ 0) : scanF (k + 1) pat D n (c :: r) = .error (D - (r.length + 1), errS pat (c :: r)) := by
  show (if errS pat (c :: r) ≠ 0 then _ else _) = _
  rw [if_pos h]; rfl
theorem scan_full {k : Nat} {pat : Bool} {D n : Nat} {c : UInt8} {r : List UInt8} (h : errS pat (c :: r) = 0) (hn : 600 ≤ n) : scanF (k + 1) pat D n (c :: r) = .error (D - (r.length + 1), 4) := by
  show (if errS pat (c :: r) ≠ 0 then _ else _) = _
  rw [if_neg (by intro h2; exact h2 h), if_pos hn]
theorem scan_go {k : Nat} {pat : Bool} {D n : Nat} {c : UInt8} {r : List UInt8} (h : errS pat (c :: r) = 0) (hn : n < 600) :
    scanF (k + 1) pat D n (c :: r) = match scanF k pat D (n + 1) (skS ((c :: r).drop (preS pat (c :: r)).2.2)) with
      | .error e => .error e
      | .ok l => .ok (⟨(preS pat (c :: r)).1, (preS pat (c :: r)).2.1, ((D - (r.length + 1) : Nat) : Int), ((D - (r.length + 1) + (preS pat (c :: r)).2.2 : Nat) : Int)⟩ :: l) := by
  show (if errS pat (c :: r) ≠ 0 then _ else _) = _
  rw [if_neg (by intro h2; exact h2 h), if_neg (by omega)]
  rfl
theorem scan_ok {k : Nat} {pat : Bool} {D n : Nat} {c : UInt8} {r : List UInt8} {l : List Tk} (h : scanF (k + 1) pat D n (c :: r) = .ok l) :
    errS pat (c :: r) = 0 ∧ n < 600 ∧ ∃ m, scanF k pat D (n + 1) (skS ((c :: r).drop (preS pat (c :: r)).2.2)) = .ok m ∧
      l = ⟨(preS pat (c :: r)).1, (preS pat (c :: r)).2.1, ((D - (r.length + 1) : Nat) : Int), ((D - (r.length + 1) + (preS pat (c :: r)).2.2 : Nat) : Int)⟩ :: m := by
  by_cases he : errS pat (c :: r) = 0
  · by_cases hn : n < 600
    · refine ⟨he, hn, ?_⟩
      rw [scan_go he hn] at h
      cases hs : scanF k pat D (n + 1) (skS ((c :: r).drop (preS pat (c :: r)).2.2)) with
      | error e => rw [hs] at h; cases h
      | ok m =>
        rw [hs] at h
        injection h with h
        exact ⟨m, rfl, h.symm⟩
    · rw [scan_full he (by omega)] at h
      cases h
  · rw [scan_bad he] at h
    cases h
theorem err_len {pat : Bool} {r : List UInt8} (hr : r ≠ []) (h : errS pat r = 0) : 1 ≤ (preS pat r).2.2 ∧ (preS pat r).2.2 ≤ r.length := pre_len hr h
theorem step_len {pat : Bool} {c : UInt8} {r : List UInt8} (h : errS pat (c :: r) = 0) : (skS ((c :: r).drop (preS pat (c :: r)).2.2)).length ≤ r.length := by
  have h1 := err_len (by simp) h
  have h2 := skB_len ((c :: r).drop (preS pat (c :: r)).2.2) false
  rw [List.length_drop, List.length_cons] at h2
  unfold skS
  omega
theorem scan_fuel : ∀ (k k' : Nat) (pat : Bool) (D n : Nat) (r : List UInt8), r.length < k → r.length < k' → scanF k pat D n r = scanF k' pat D n r := by
  intro k
  induction k with
  | zero => intro k' pat D n r h; omega
  | succ k ih =>
    intro k' pat D n r h h'
    cases k' with
    | zero => omega
    | succ k' =>
      cases r with
      | nil => rfl
      | cons c r =>
        by_cases he : errS pat (c :: r) = 0
        · by_cases hn : n < 600
          · rw [scan_go he hn, scan_go he hn]
            have := step_len he
            simp only [List.length_cons] at h h'
            rw [ih k' pat D (n + 1) _ (by omega) (by omega)]
          · rw [scan_full he (by omega), scan_full he (by omega)]
        · rw [scan_bad he, scan_bad he]
/-- What is scanned are tokens, and not too many; an error lies within the string. -/
theorem scan_facts : ∀ (k : Nat) (pat : Bool) (D n : Nat) (r : List UInt8), r.length ≤ D → n ≤ 600 →
    (∀ l, scanF k pat D n r = .ok l → allRight l = true ∧ n + l.length ≤ 600) ∧ (∀ a e, scanF k pat D n r = .error (a, e) → a < D ∧ e ≠ 0) := by
  intro k
  induction k with
  | zero =>
    intro pat D n r h hn
    refine ⟨fun l e => ?_, fun a e h => (by cases h)⟩
    injection e with e
    subst e
    exact ⟨rfl, by simpa using hn⟩
  | succ k ih =>
    intro pat D n r h hn
    cases r with
    | nil =>
      refine ⟨fun l e => ?_, fun a e h => (by cases h)⟩
      injection e with e
      subst e
      exact ⟨rfl, by simpa using hn⟩
    | cons c r =>
      simp only [List.length_cons] at h
      by_cases he : errS pat (c :: r) = 0
      · by_cases hn' : n < 600
        · have hl := step_len he
          obtain ⟨h1, h2⟩ := ih pat D (n + 1) (skS ((c :: r).drop (preS pat (c :: r)).2.2)) (by omega) (by omega)
          rw [scan_go he hn']
          cases hs : scanF k pat D (n + 1) (skS ((c :: r).drop (preS pat (c :: r)).2.2)) with
          | error x =>
            refine ⟨fun l e => (by cases e), fun a e h => ?_⟩
            injection h with h
            subst h
            exact h2 a e hs
          | ok m =>
            refine ⟨fun l e => ?_, fun a e h => (by cases h)⟩
            injection e with e
            subst e
            obtain ⟨h3, h4⟩ := h1 m hs
            refine ⟨?_, by simp only [List.length_cons]; omega⟩
            unfold allRight at h3 ⊢
            rw [List.all_cons, h3, Bool.and_true]
            exact right_of he
        · rw [scan_full he (by omega)]
          refine ⟨fun l e => (by cases e), fun a e h => ?_⟩
          injection h with h
          injection h with ha hb
          exact ⟨by omega, by omega⟩
      · rw [scan_bad he]
        refine ⟨fun l e => (by cases e), fun a e h => ?_⟩
        injection h with h
        injection h with ha hb
        exact ⟨by omega, by rw [← hb]; exact he⟩
theorem scanS_facts (pat : Bool) (d : List UInt8) : (∀ l, scanS pat d = .ok l → allRight l = true ∧ l.length ≤ 600) ∧ (∀ a e, scanS pat d = .error (a, e) → a < d.length ∧ e ≠ 0) := by
  have := scan_facts (d.length + 1) pat d.length 0 (skS d) (skB_len d false) (by omega)
  simpa [scanS] using this

/-! ### printed and scanned again -/
theorem tokP_bare {k : Int} {t : List UInt8} (h : rightS k t = true) (e : List UInt8) (he : e = [] ∨ ∃ x, e = 32 :: x) : (∃ c x, tokP k t = c :: x) ∧ Bare (tokP k t ++ e) := by
  have hf := (right_form h).1
  have key : ∀ c x, tokP k t = c :: x → blB c = false → ¬ c = 47 → (∃ c x, tokP k t = c :: x) ∧ Bare (tokP k t ++ e) := by
    intro c x h1 h2 h3
    refine ⟨⟨c, x, h1⟩, ?_⟩
    rw [h1]
    intro c' x' h4
    injection h4 with h4 h5
    subst h4
    exact ⟨h2, fun h => h3 h.1⟩
  have lt_bl : ∀ c : UInt8, ltB c = true → blB c = false ∧ ¬ c = 47 := by
    intro c hc
    refine ⟨?_, fun e => by subst e; exact absurd hc (by decide)⟩
    cases hb : blB c with
    | false => rfl
    | true =>
      unfold blB at hb
      simp only [Bool.or_eq_true, beq_iff_eq] at hb
      rcases hb with (hb | hb) | hb <;> subst hb <;> exact absurd hc (by decide)
  rcases form_kinds hf with rfl | rfl | rfl | rfl | rfl | rfl | rfl
  · rw [form1] at hf
    obtain ⟨c, x, rfl, hc, _⟩ := name_facts hf
    exact key c x rfl (lt_bl c hc).1 (lt_bl c hc).2
  · rw [form2] at hf
    obtain ⟨_, h2, h3, _⟩ := kw_facts t (mem_kw hf)
    cases t with
    | nil => cases h2
    | cons c x => exact key c x rfl (lt_bl c h3).1 (lt_bl c h3).2
  · obtain ⟨c, x, rfl, hc, _⟩ := int_facts hf
    have : blB c = false ∧ ¬ c = 47 := by
      refine ⟨?_, fun e => by subst e; exact absurd hc (by decide)⟩
      cases hb : blB c with
      | false => rfl
      | true =>
        unfold blB at hb
        simp only [Bool.or_eq_true, beq_iff_eq] at hb
        rcases hb with (hb | hb) | hb <;> subst hb <;> exact absurd hc (by decide)
    exact key c x rfl this.1 this.2
  · exact key 34 (bodyS t ++ [34]) rfl (by decide) (by decide)
  · rw [form5] at hf
    obtain ⟨_, _, h3, _, _, _, h2, _, h4⟩ := mk_facts t (mem_mk hf)
    cases t with
    | nil => cases h2
    | cons c x =>
      by_cases hc : c = 47
      · have h5 := h4 hc
        refine ⟨⟨c, x, rfl⟩, ?_⟩
        rw [h5]
        intro c' x' h6
        injection h6 with h6 h7
        subst h6
        refine ⟨by decide, fun h => ?_⟩
        rw [← h7] at h
        rcases he with rfl | ⟨y, rfl⟩
        · simp at h
        · simp at h
      · exact key c x rfl h3 hc
  · exact key 36 t rfl (by decide) (by decide)
  · exact key 36 (36 :: t) rfl (by decide) (by decide)
theorem pre_print {pat : Bool} {k : Int} {t : List UInt8} (h : rightS k t = true) (e : List UInt8) (he : e = [] ∨ ∃ x, e = 32 :: x) (hp : pat = true ∨ (k ≠ 6 ∧ k ≠ 7)) :
    preS pat (tokP k t ++ e) = (k, t, (tokP k t).length) := by
  have hf := (right_form h).1
  have hw : ∀ l : List UInt8, l.all wdB = true → wordS (l ++ e) = l := by
    intro l hl
    refine tw_app l e hl fun c hc => ?_
    rcases he with rfl | ⟨x, rfl⟩
    · cases hc
    · injection hc with hc; subst hc; decide
  rcases form_kinds hf with rfl | rfl | rfl | rfl | rfl | rfl | rfl
  · rw [form1] at hf
    obtain ⟨c, x, rfl, hc, ha, hk⟩ := name_facts hf
    show preS pat (c :: x ++ e) = (1, c :: x, (c :: x).length)
    rw [pre_word (r := c :: x ++ e) hc, hw _ ha, hk]
    rfl
  · rw [form2] at hf
    obtain ⟨ha, h2, h3, _⟩ := kw_facts t (mem_kw hf)
    show preS pat (t ++ e) = (2, t, t.length)
    cases t with
    | nil => cases h2
    | cons c x =>
      rw [pre_word (r := c :: x ++ e) h3, hw _ ha, hf]
      rfl
  · obtain ⟨c, x, rfl, hc, ha⟩ := int_facts hf
    show preS pat (c :: x ++ e) = (3, c :: x, (c :: x).length)
    have hi : intS (c :: x ++ e) = c :: x := by
      refine tw_app (c :: x) e ha fun b hb => ?_
      rcases he with rfl | ⟨x, rfl⟩
      · cases hb
      · injection hb with hb; subst hb; decide
    rw [pre_int (r := c :: x ++ e) hc, hi]
  · rw [form4] at hf
    show preS pat (34 :: ((bodyS t ++ [34]) ++ e)) = (4, t, (34 :: (bodyS t ++ [34])).length)
    rw [pre_lit, List.append_assoc, show [34] ++ e = 34 :: e from rfl, litS_quote t e hf]
    simp
  · rw [form5] at hf
    obtain ⟨h1, h2, _, h3, h4, h5, h6, h7, _⟩ := mk_facts t (mem_mk hf)
    show preS pat (t ++ e) = (5, t, t.length)
    cases t with
    | nil => cases h6
    | cons c x =>
      have h1 : dgB c = false := h1
      have h2 : ltB c = false := h2
      have h3 : ¬ c = 34 := h3
      have h4 : ¬ c = 36 := h4
      rw [List.cons_append, pre_mark h1 h2 h3 (fun h => h4 h.2)]
      cases x with
      | nil =>
        obtain ⟨h7, _⟩ := h7 rfl
        rcases he with rfl | ⟨y, rfl⟩
        · rw [if_neg (by simp)]; rfl
        · rw [if_neg (show ¬ (2 ≤ (c :: ([] ++ 32 :: y)).length ∧ isMk ((c :: ([] ++ 32 :: y)).take 2) = true) from fun h => by
            have h8 := h.2
            rw [show List.take 2 (c :: ([] ++ 32 :: y)) = [c] ++ [32] from rfl, h7] at h8
            cases h8)]
          rfl
      | cons b x =>
        cases x with
        | nil =>
          rw [if_pos ⟨by simp, by simpa using hf⟩]
          rfl
        | cons _ _ => simp at h5
  · rcases hp with rfl | hp
    · rw [form6] at hf
      obtain ⟨c, x, rfl, hc, ha, hk⟩ := name_facts hf
      show preS true (36 :: (c :: x ++ e)) = (6, c :: x, (36 :: c :: x).length)
      rw [pre_meta _ (fun h => by
        have h : c = 36 := h
        subst h
        exact absurd hc (by decide)), hw _ ha]
      simp only [List.length_cons]
      congr 2
      omega
    · exact absurd rfl hp.1
  · rcases hp with rfl | hp
    · rw [form7] at hf
      obtain ⟨c, x, rfl, hc, ha, hk⟩ := name_facts hf
      show preS true (36 :: 36 :: (c :: x ++ e)) = (7, c :: x, (36 :: 36 :: c :: x).length)
      rw [pre_many, hw _ ha]
      simp only [List.length_cons]
      congr 2
      omega
    · exact absurd rfl hp.2
theorem err_sign (r : List UInt8) : errS false (36 :: r) = 11 := by
  unfold errS
  rw [pre_mark (by decide) (by decide) (by decide) (by decide), if_neg (show ¬ (2 ≤ (36 :: r).length ∧ isMk ((36 :: r).take 2) = true) from fun h => by
    have h2 := h.2
    rw [List.take_succ_cons, mk_sign] at h2
    cases h2)]
  show faultS 5 [36] = 11
  decide

/-- What print gives, without the blank ahead. -/
abbrev textS (l : List Tk) : List UInt8 := printS l
theorem text_one (x : Tk) : printS [x] = tokP x.kind x.text := rfl
theorem text_more (x y : Tk) (l : List Tk) : printS (x :: y :: l) = tokP x.kind x.text ++ 32 :: printS (y :: l) := rfl
theorem text_cons (x : Tk) (l : List Tk) : ∃ e, (e = [] ∨ ∃ z, e = 32 :: z) ∧ printS (x :: l) = tokP x.kind x.text ++ e ∧ (allRight (x :: l) = true → skS e = printS l) ∧ e.length ≤ (printS l).length + 1 := by
  cases l with
  | nil => exact ⟨[], Or.inl rfl, by rw [text_one, List.append_nil], fun _ => rfl, by simp⟩
  | cons y l =>
    refine ⟨32 :: printS (y :: l), Or.inr ⟨_, rfl⟩, text_more x y l, fun h => ?_, by simp⟩
    unfold allRight at h
    simp only [List.all_cons, Bool.and_eq_true] at h
    have hb : Bare (printS (y :: l)) := by
      cases l with
      | nil =>
        have := (tokP_bare h.2.1 [] (Or.inl rfl)).2
        rw [List.append_nil] at this
        exact this
      | cons z l => exact (tokP_bare h.2.1 (32 :: printS (z :: l)) (Or.inr ⟨_, rfl⟩)).2
    show skB false (32 :: printS (y :: l)) = _
    unfold skB
    rw [if_pos (show blB 32 = true by decide)]
    exact hb.sk
def metaT (t : Tk) : Bool := decide (t.kind = 6) || decide (t.kind = 7)
def ktS (l : List Tk) : List (Int × List UInt8) := l.map fun t => (t.kind, t.text)
theorem scan_print : ∀ (l : List Tk) (k : Nat) (pat : Bool) (D n : Nat), allRight l = true → (printS l).length < k → n + l.length ≤ 600 →
    ((pat = true ∨ l.any metaT = false) → ∃ m, scanF k pat D n (printS l) = .ok m ∧ ktS m = ktS l) ∧
    (pat = false → l.any metaT = true → ∃ a, scanF k pat D n (printS l) = .error (a, 11)) := by
  intro l
  induction l with
  | nil =>
    intro k pat D n _ _ _
    exact ⟨fun _ => ⟨[], scan_nil _ _ _ _, rfl⟩, fun _ h => (by cases h)⟩
  | cons x l ih =>
    intro k pat D n hr hk hn
    obtain ⟨e, he, ht, hs, hel⟩ := text_cons x l
    have hs := hs hr
    have hx : rightS x.kind x.text = true := by
      unfold allRight at hr
      simp only [List.all_cons, Bool.and_eq_true] at hr
      exact hr.1
    have hl : allRight l = true := by
      unfold allRight at hr ⊢
      simp only [List.all_cons, Bool.and_eq_true] at hr
      exact hr.2
    obtain ⟨⟨c, y, hcy⟩, _⟩ := tokP_bare hx e he
    simp only [List.length_cons] at hn
    rw [ht] at hk ⊢
    rw [List.length_append] at hk
    have h32 : (printS l).length ≤ e.length := by rw [← hs]; exact skB_len e false
    cases k with
    | zero => omega
    | succ k =>
      obtain ⟨h1, h2⟩ := ih k pat D (n + 1) hl (by rw [hcy] at hk; simp only [List.length_cons] at hk; omega) (by omega)
      have hform := hcy
      by_cases hp : pat = true ∨ (x.kind ≠ 6 ∧ x.kind ≠ 7)
      · have hpre := pre_print (pat := pat) hx e he hp
        have herr : errS pat (tokP x.kind x.text ++ e) = 0 := by unfold errS; rw [hpre]; exact fault_right hx
        rw [hcy, List.cons_append] at herr hpre ⊢
        have hd : skS ((c :: (y ++ e)).drop (preS pat (c :: (y ++ e))).2.2) = printS l := by
          rw [hpre, ← hcy]
          have : c :: (y ++ e) = tokP x.kind x.text ++ e := by rw [hcy]; rfl
          rw [this, List.drop_append, List.drop_length, Nat.sub_self, List.drop_zero, List.nil_append]
          exact hs
        rw [scan_go herr (by omega), hd]
        constructor
        · intro h
          obtain ⟨m, hm, hkt⟩ := h1 (by
            rcases h with h | h
            · exact Or.inl h
            · simp only [List.any_cons, Bool.or_eq_false_iff] at h
              exact Or.inr h.2)
          rw [hm]
          refine ⟨_, rfl, ?_⟩
          unfold ktS at hkt ⊢
          rw [List.map_cons, List.map_cons, hkt, hpre]
        · intro hf h
          rcases hp with hp | hp
          · rw [hp] at hf; cases hf
          · simp only [List.any_cons, Bool.or_eq_true] at h
            rcases h with h | h
            · unfold metaT at h
              simp only [Bool.or_eq_true, decide_eq_true_eq] at h
              rcases h with h | h
              · exact absurd h hp.1
              · exact absurd h hp.2
            · obtain ⟨a, ha⟩ := h2 hf h
              rw [ha]
              exact ⟨a, rfl⟩
      · have hpf : pat = false := by
          cases pat with
          | false => rfl
          | true => exact absurd (Or.inl rfl) hp
        subst hpf
        have hk67 : x.kind = 6 ∨ x.kind = 7 := by
          by_cases h6 : x.kind = 6
          · exact Or.inl h6
          · by_cases h7 : x.kind = 7
            · exact Or.inr h7
            · exact absurd (Or.inr ⟨h6, h7⟩) hp
        have hc36 : c = 36 := by
          rcases hk67 with h | h <;> rw [h] at hcy
          · have : tokP 6 x.text = 36 :: x.text := rfl
            rw [this] at hcy
            injection hcy with h _
            exact h.symm
          · have : tokP 7 x.text = 36 :: 36 :: x.text := rfl
            rw [this] at hcy
            injection hcy with h _
            exact h.symm
        subst hc36
        rw [hcy, List.cons_append]
        have herr := err_sign (y ++ e)
        constructor
        · intro h
          rcases h with h | h
          · cases h
          · simp only [List.any_cons, Bool.or_eq_false_iff] at h
            have := h.1
            unfold metaT at this
            rcases hk67 with h | h <;> rw [h] at this <;> exact absurd this (by decide)
        · intro _ _
          rw [scan_bad (by rw [herr]; decide), herr]
          exact ⟨_, rfl⟩
theorem print_bare {l : List Tk} (h : allRight l = true) : skS (printS l) = printS l := by
  cases l with
  | nil => rfl
  | cons x l =>
    obtain ⟨e, he, ht, _, _⟩ := text_cons x l
    unfold allRight at h
    simp only [List.all_cons, Bool.and_eq_true] at h
    rw [ht]
    exact (tokP_bare h.1 e he).2.sk
/-- P11.6: scanning what was printed. -/
theorem back_pattern {l : List Tk} (h : allRight l = true) (hn : l.length ≤ 600) : ∃ m, scanS true (printS l) = .ok m ∧ ktS m = ktS l := by
  unfold scanS
  rw [print_bare h]
  exact (scan_print l _ true _ 0 h (by omega) (by omega)).1 (Or.inl rfl)
theorem back_plain {l : List Tk} (h : allRight l = true) (hn : l.length ≤ 600) (hm : l.any metaT = false) : ∃ m, scanS false (printS l) = .ok m ∧ ktS m = ktS l := by
  unfold scanS
  rw [print_bare h]
  exact (scan_print l _ false _ 0 h (by omega) (by omega)).1 (Or.inr hm)
theorem back_metas {l : List Tk} (h : allRight l = true) (hn : l.length ≤ 600) (hm : l.any metaT = true) : ∃ a, scanS false (printS l) = .error (a, 11) := by
  unfold scanS
  rw [print_bare h]
  exact (scan_print l _ false _ 0 h (by omega) (by omega)).2 rfl hm

/-! ### places -/
def PlacesS (d : List UInt8) : Nat → List Tk → Prop
  | z, [] => scanS false (d.drop z) = .ok []
  | z, t :: l => ∃ a b : Nat, t.at_ = (a : Int) ∧ t.en = (b : Int) ∧ z ≤ a ∧ a < b ∧ b ≤ d.length ∧ scanS false ((d.drop z).take (a - z)) = .ok [] ∧
      scanS false ((d.drop a).take (b - a)) = .ok [⟨t.kind, t.text, 0, ((b - a : Nat) : Int)⟩] ∧ PlacesS d b l
theorem scanS_none {pat : Bool} {d : List UInt8} (h : skS d = []) : scanS pat d = .ok [] := by
  unfold scanS
  rw [h]
  rfl
theorem scanS_own {r : List UInt8} (hr : r ≠ []) (hb : Bare r) (h : errS false r = 0) :
    scanS false (r.take (preS false r).2.2) = .ok [⟨(preS false r).1, (preS false r).2.1, 0, ((preS false r).2.2 : Int)⟩] := by
  obtain ⟨h1, h2⟩ := err_len hr h
  have hp := pre_more (pat := false) hr h [] (Or.inl rfl)
  rw [List.append_nil] at hp
  unfold scanS
  rw [(hb.take _).sk]
  have hlen : (r.take (preS false r).2.2).length = (preS false r).2.2 := by rw [List.length_take]; omega
  obtain ⟨n, hn⟩ : ∃ n, (preS false r).2.2 = n := ⟨_, rfl⟩
  rw [hn] at hlen hp h1 ⊢
  cases hq : r.take n with
  | nil => rw [hq] at hlen; simp at hlen; omega
  | cons c x =>
    rw [hq] at hlen hp
    have he : errS false (c :: x) = 0 := by unfold errS; rw [hp]; exact h
    rw [scan_go he (by omega), hp, hn, ← hlen, List.drop_length]
    have : skS ([] : List UInt8) = [] := rfl
    rw [this, scan_nil]
    simp
theorem places : ∀ (k : Nat) (n : Nat) (d r : List UInt8) (z : Nat) (l : List Tk), r.length < k → z ≤ d.length → skS (d.drop z) = r → scanF k false d.length n r = .ok l → PlacesS d z l := by
  intro k
  induction k with
  | zero => intro n d r z l h; omega
  | succ k ih =>
    intro n d r z l hk hz hsk hs
    obtain ⟨g, hg, hg0⟩ := skB_gap (d.drop z) false
    rw [show skB false (d.drop z) = r from hsk] at hg
    cases r with
    | nil =>
      rw [scan_nil] at hs
      injection hs with hs
      subst hs
      exact scanS_none hsk
    | cons c r =>
      obtain ⟨he, hn, m, hm, rfl⟩ := scan_ok hs
      obtain ⟨h1, h2⟩ := err_len (by simp) he
      have hb : Bare (c :: r) := by rw [← hsk]; exact skB_bare _ _
      have hlen : d.length = z + (g.length + (r.length + 1)) := by
        have := congrArg List.length hg
        rw [List.length_drop, List.length_append, List.length_cons] at this
        omega
      have ha : d.length - (r.length + 1) = z + g.length := by omega
      have hda : d.drop (z + g.length) = c :: r := by
        rw [← List.drop_drop, hg, List.drop_append, List.drop_length, Nat.sub_self, List.drop_zero, List.nil_append]
      simp only [List.length_cons] at hk h2
      refine ⟨z + g.length, z + g.length + (preS false (c :: r)).2.2, by rw [ha], by rw [ha], by omega, by omega, by omega, ?_, ?_, ?_⟩
      · rw [show z + g.length - z = g.length by omega, hg, List.take_append, List.take_length, Nat.sub_self, List.take_zero, List.append_nil]
        exact scanS_none hg0
      · rw [hda, show z + g.length + (preS false (c :: r)).2.2 - (z + g.length) = (preS false (c :: r)).2.2 by omega]
        exact scanS_own (by simp) hb he
      · have hl := step_len he
        refine ih (n + 1) d _ _ m (by omega) (by omega) ?_ hm
        rw [← List.drop_drop, hda]
theorem places_scan {d : List UInt8} {l : List Tk} (h : scanS false d = .ok l) : PlacesS d 0 l := by
  unfold scanS at h
  exact places _ 0 d (skS d) 0 l (by have := skB_len d false; unfold skS; omega) (by omega) (by rw [List.drop_zero]) h

/-! ### pieces -/
def shiftT (j : Nat) (t : Tk) : Tk := ⟨t.kind, t.text, t.at_ + (j : Int), t.en + (j : Int)⟩
theorem scan_shift : ∀ (k k' : Nat) (pat : Bool) (D j n n' : Nat) (r : List UInt8) (l : List Tk), r.length < k → r.length < k' → r.length ≤ D → n' + l.length ≤ 600 → scanF k pat D n r = .ok l →
    scanF k' pat (D + j) n' r = .ok (l.map (shiftT j)) := by
  intro k
  induction k with
  | zero => intro k' pat D j n n' r l h; omega
  | succ k ih =>
    intro k' pat D j n n' r l h h' hD hn hs
    cases k' with
    | zero => omega
    | succ k' =>
      cases r with
      | nil =>
        rw [scan_nil] at hs
        injection hs with hs
        subst hs
        rfl
      | cons c r =>
        obtain ⟨he, hn1, m, hm, rfl⟩ := scan_ok hs
        simp only [List.length_cons] at h h' hD hn
        have hl := step_len he
        rw [scan_go he (by omega), ih k' pat D j (n + 1) (n' + 1) _ m (by omega) (by omega) (by omega) (by omega) hm]
        simp only [List.map_cons, shiftT]
        congr 2
        simp only [Tk.mk.injEq, true_and]
        omega
theorem sk_feed2 (y e : List UInt8) : skS (y ++ 10 :: e) = skS (skS y ++ 10 :: e) := by
  obtain ⟨h1, h2⟩ := skB_feed y e false
  obtain ⟨h3, h4⟩ := skB_feed (skS y) e false
  have hb : skB false (skS y) = skS y := skB_again y false
  rw [hb] at h3 h4
  by_cases h : skS y = []
  · rw [show skS (y ++ 10 :: e) = skS e from h1 h, show skS (skS y ++ 10 :: e) = skS e from h3 h]
  · rw [show skS (y ++ 10 :: e) = skS y ++ 10 :: e from h2 h, show skS (skS y ++ 10 :: e) = skS y ++ 10 :: e from h4 h]
theorem pieces : ∀ (k k' : Nat) (D n : Nat) (r e : List UInt8) (a b : List Tk), r.length < k → Bare r → r.length ≤ D → r.length + 1 + e.length < k' → n + a.length + b.length ≤ 600 →
    scanF k false D n r = .ok a → scanS false e = .ok b → scanF k' false (D + 1 + e.length) n (skS (r ++ 10 :: e)) = .ok (a ++ b.map (shiftT (D + 1))) := by
  intro k
  induction k with
  | zero => intro k' D n r e a b h; omega
  | succ k ih =>
    intro k' D n r e a b h hb hD hk hn hs he
    cases r with
    | nil =>
      rw [scan_nil] at hs
      injection hs with hs
      subst hs
      have h0 : skS ([] ++ 10 :: e) = skS e := by
        rw [List.nil_append, skS, skB.eq_2, if_pos (show blB 10 = true by decide)]
      have hl := skB_len e false
      simp only [List.length_nil] at hk hn
      rw [h0, List.nil_append, show D + 1 + e.length = e.length + (D + 1) by omega]
      unfold scanS at he
      exact scan_shift _ _ false _ _ 0 n _ b (by unfold skS; omega) (by unfold skS; omega) (by unfold skS; omega) (by omega) he
    | cons c r =>
      obtain ⟨herr, hn1, m, hm, rfl⟩ := scan_ok hs
      have happ := pre_app (pat := false) (r := c :: r) (by simp) herr e
      have hsk : skS (c :: r ++ 10 :: e) = c :: r ++ 10 :: e := by
        have := (skB_feed (c :: r) e false).2 (by rw [show skB false (c :: r) = c :: r from hb.sk]; simp)
        rw [show skB false (c :: r) = c :: r from hb.sk] at this
        exact this
      rw [hsk]
      have herr2 : errS false (c :: r ++ 10 :: e) = 0 := by unfold errS; rw [happ]; exact herr
      obtain ⟨hl1, hl2⟩ := err_len (by simp) herr
      have hl := step_len herr
      simp only [List.length_cons] at h hD hk hn hl2
      have hlx := hl
      cases k' with
      | zero => omega
      | succ k' =>
        rw [List.cons_append] at herr2 happ ⊢
        rw [scan_go herr2 (by omega), happ]
        have hd : (c :: (r ++ 10 :: e)).drop (preS false (c :: r)).2.2 = (c :: r).drop (preS false (c :: r)).2.2 ++ 10 :: e := by
          rw [← List.cons_append, List.drop_append_of_le_length (by simp only [List.length_cons]; omega)]
        rw [hd, sk_feed2, ih k' D (n + 1) (skS ((c :: r).drop (preS false (c :: r)).2.2)) e m b (by omega) (skB_bare _ _) (by omega) (by omega) (by omega) hm he]
        simp only [List.cons_append, List.length_append, List.length_cons]
        rw [show D + 1 + e.length - (r.length + (e.length + 1) + 1) = D - (r.length + 1) by omega]
theorem pieces_scan {d e : List UInt8} {a b : List Tk} (h1 : scanS false d = .ok a) (h2 : scanS false e = .ok b) (hn : a.length + b.length ≤ 600) :
    scanS false (d ++ 10 :: e) = .ok (a ++ b.map (shiftT (d.length + 1))) := by
  have hl := skB_len d false
  have := pieces (d.length + 1) (d.length + 1 + e.length + 1) d.length 0 (skS d) e a b (by unfold skS; omega) (skB_bare _ _) hl (by unfold skS; omega) (by omega) h1 h2
  rw [← sk_feed2] at this
  unfold scanS
  rw [List.length_append, List.length_cons, show d.length + (e.length + 1) = d.length + 1 + e.length by omega]
  exact this
end Go.Proofs.YteokeljmggdecaaDoor
