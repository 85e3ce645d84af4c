/- What scanning skips, what a beginning depends on; no program. -/
import Derived.Test.YteokeljmggdecaaDoorHa
namespace Go.Proofs.YteokeljmggdecaaDoor

/-! ### beginnings -/
theorem tw_app {p : UInt8 → Bool} (l r : List UInt8) (h : l.all p = true) (hr : ∀ c, r.head? = some c → p c = false) : (l ++ r).takeWhile p = l := by
  induction l with
  | nil =>
    cases r with
    | nil => rfl
    | cons c r => simp [hr c rfl]
  | cons a l ih =>
    simp only [List.all_cons, Bool.and_eq_true] at h
    simp [h.1, ih h.2]
theorem tw_all {p : UInt8 → Bool} (l : List UInt8) : (l.takeWhile p).all p = true := by
  induction l with
  | nil => rfl
  | cons a l ih =>
    simp only [List.takeWhile]
    split
    · rename_i h; simp only [List.all_cons, h, Bool.true_and]; exact ih
    · rfl
theorem tw_len {p : UInt8 → Bool} (l : List UInt8) : (l.takeWhile p).length ≤ l.length := by
  induction l with
  | nil => exact Nat.le_refl _
  | cons a l ih =>
    simp only [List.takeWhile]
    split
    · simp only [List.length_cons]; omega
    · simp
theorem tw_take {p : UInt8 → Bool} (l : List UInt8) : l.take (l.takeWhile p).length = l.takeWhile p := by
  induction l with
  | nil => rfl
  | cons a l ih =>
    simp only [List.takeWhile]
    split
    · simp [ih]
    · rfl
theorem tw_tw {p : UInt8 → Bool} (l : List UInt8) : (l.takeWhile p).takeWhile p = l.takeWhile p := by
  have := tw_app (p := p) (l.takeWhile p) [] (tw_all l) (fun c h => by simp at h)
  simpa using this
/-- A byte behind which p does not hold changes nothing. -/
theorem tw_stop {p : UInt8 → Bool} (l e : List UInt8) (c : UInt8) (hc : p c = false) : (l ++ c :: e).takeWhile p = l.takeWhile p := by
  induction l with
  | nil => simp [List.takeWhile, hc]
  | cons a l ih =>
    simp only [List.cons_append, List.takeWhile, ih]
theorem tw_cons {p : UInt8 → Bool} (c : UInt8) (l : List UInt8) (h : p c = true) : (c :: l).takeWhile p = c :: l.takeWhile p := by simp [List.takeWhile, h]

/-! ### what is skipped -/
theorem skB_len : ∀ (r : List UInt8) (m : Bool), (skB m r).length ≤ r.length := by
  intro r
  induction r with
  | nil => intro m; cases m <;> exact Nat.le_refl _
  | cons c r ih =>
    intro m
    have h1 := ih true
    have h0 := ih false
    cases m
    · simp only [skB]
      split
      · simp only [List.length_cons]; omega
      · split <;> simp only [List.length_cons] <;> omega
    · simp only [skB]
      split <;> simp only [List.length_cons] <;> omega
theorem skB_gap : ∀ (r : List UInt8) (m : Bool), ∃ g, r = g ++ skB m r ∧ skB m g = [] := by
  intro r
  induction r with
  | nil => intro m; cases m <;> exact ⟨[], rfl, rfl⟩
  | cons c r ih =>
    intro m
    obtain ⟨g1, e1, h1⟩ := ih true
    obtain ⟨g0, e0, h0⟩ := ih false
    cases m
    · simp only [skB]
      by_cases hb : blB c = true
      · rw [if_pos hb]
        exact ⟨c :: g0, by rw [List.cons_append, ← e0], by simp only [skB]; rw [if_pos hb, h0]⟩
      · rw [if_neg hb]
        by_cases hc : c = 47 ∧ r.head? = some 47
        · rw [if_pos hc]
          refine ⟨c :: g1, by rw [List.cons_append, ← e1], ?_⟩
          have hg : g1.head? = some 47 := by
            cases g1 with
            | cons x g =>
              have := hc.2
              rw [e1] at this
              simpa using this
            | nil =>
              exfalso
              rw [List.nil_append] at e1
              cases r with
              | nil => simp at hc
              | cons x r =>
                simp only [List.head?_cons, Option.some.injEq] at hc
                have hx : ¬ x = 10 := by rw [hc.2]; decide
                simp only [skB] at e1
                rw [if_neg hx] at e1
                have := skB_len r true
                rw [← e1] at this
                simp only [List.length_cons] at this
                omega
          simp only [skB]
          rw [if_neg hb, if_pos ⟨hc.1, hg⟩, h1]
        · rw [if_neg hc]
          exact ⟨[], rfl, rfl⟩
    · simp only [skB]
      split
      · rename_i hc
        exact ⟨c :: g0, by rw [List.cons_append, ← e0], by simp only [skB]; rw [if_pos hc, h0]⟩
      · rename_i hc
        exact ⟨c :: g1, by rw [List.cons_append, ← e1], by simp only [skB]; rw [if_neg hc, h1]⟩
/-- A string with nothing to skip at its beginning. -/
def Bare (r : List UInt8) : Prop := ∀ c x, r = c :: x → blB c = false ∧ ¬ (c = 47 ∧ x.head? = some 47)
theorem Bare.sk {r : List UInt8} (h : Bare r) : skS r = r := by
  cases r with
  | nil => rfl
  | cons c x =>
    obtain ⟨h1, h2⟩ := h c x rfl
    simp only [skB, h1, Bool.false_eq_true, if_false, if_neg h2]
theorem skB_bare : ∀ (r : List UInt8) (m : Bool), Bare (skB m r) := by
  intro r
  induction r with
  | nil => intro m; cases m <;> intro c x h <;> cases h
  | cons c r ih =>
    intro m
    cases m
    · simp only [skB]
      by_cases hb : blB c = true
      · rw [if_pos hb]; exact ih false
      · rw [if_neg hb]
        by_cases hc : c = 47 ∧ r.head? = some 47
        · rw [if_pos hc]; exact ih true
        · rw [if_neg hc]
          intro c' x h
          cases h
          exact ⟨by simpa using hb, hc⟩
    · simp only [skB]
      split
      · exact ih false
      · exact ih true
theorem skB_again (r : List UInt8) (m : Bool) : skS (skB m r) = skB m r := (skB_bare r m).sk
/-- Behind a line feed. -/
theorem skB_feed : ∀ (r e : List UInt8) (m : Bool), (skB m r = [] → skB m (r ++ 10 :: e) = skS e) ∧ (skB m r ≠ [] → skB m (r ++ 10 :: e) = skB m r ++ 10 :: e) := by
  intro r e
  induction r with
  | nil => intro m; cases m <;> simp [skB, blB]
  | cons c r ih =>
    intro m
    cases m
    · simp only [List.cons_append, skB]
      by_cases hb : blB c = true
      · simp only [if_pos hb]; exact ih false
      · have hh : (c = 47 ∧ (r ++ 10 :: e).head? = some 47) ↔ (c = 47 ∧ r.head? = some 47) := by
          cases r with
          | nil => simp
          | cons x r => simp
        by_cases hc : c = 47 ∧ r.head? = some 47
        · simp only [if_neg hb, if_pos hc, if_pos (hh.2 hc)]; exact ih true
        · simp only [if_neg hb, if_neg hc, if_neg (fun h => hc (hh.1 h))]
          exact ⟨fun h => (by cases h), fun _ => rfl⟩
    · simp only [List.cons_append, skB]
      by_cases hc : c = 10
      · simp only [if_pos hc]; exact ih false
      · simp only [if_neg hc]; exact ih true
/-- A prefix with something in it, of a string with nothing to skip, has nothing to skip. -/
theorem Bare.take {r : List UInt8} (h : Bare r) (n : Nat) : Bare (r.take n) := by
  intro c x e
  cases r with
  | nil => simp at e
  | cons a r =>
    cases n with
    | zero => simp at e
    | succ n =>
      simp only [List.take_succ_cons, List.cons.injEq] at e
      obtain ⟨rfl, rfl⟩ := e
      obtain ⟨h1, h2⟩ := h a r rfl
      refine ⟨h1, fun ⟨h3, h4⟩ => h2 ⟨h3, ?_⟩⟩
      cases n with
      | zero => simp at h4
      | succ n =>
        cases r with
        | nil => simp at h4
        | cons b r => simpa using h4

/-! ### literals -/
theorem litS_end (r : List UInt8) : litS (34 :: r) = some ([], 1) := by
  unfold litS
  rw [if_pos rfl]
theorem litS_esc (e : UInt8) (r : List UInt8) (h : e = 34 ∨ e = 92) : litS (92 :: e :: r) = (litS r).map fun x => (e :: x.1, x.2 + 2) := by
  rw [litS.eq_def]
  dsimp only
  rw [if_neg (by decide), if_pos rfl]
  rw [if_pos h]
theorem litS_feed (r : List UInt8) : litS (92 :: 110 :: r) = (litS r).map fun x => (10 :: x.1, x.2 + 2) := by
  rw [litS.eq_def]
  dsimp only
  rw [if_neg (by decide), if_pos rfl]
  rw [if_neg (by decide), if_pos rfl]
theorem litS_no (e : UInt8) (r : List UInt8) (h : ¬ (e = 34 ∨ e = 92)) (h2 : ¬ e = 110) : litS (92 :: e :: r) = none := by
  rw [litS.eq_def]
  dsimp only
  rw [if_neg (by decide), if_pos rfl]
  rw [if_neg h, if_neg h2]
theorem litS_last : litS [92] = none := by
  rw [litS.eq_def]
  dsimp only
  rw [if_neg (by decide), if_pos rfl]
theorem litS_plain (c : UInt8) (r : List UInt8) (h1 : ¬ c = 34) (h2 : ¬ c = 92) (h3 : visB c = true) : litS (c :: r) = (litS r).map fun x => (c :: x.1, x.2 + 1) := by
  rw [litS.eq_def]
  dsimp only
  simp only [if_neg h1, if_neg h2, if_pos h3]
theorem litS_bad (c : UInt8) (r : List UInt8) (h1 : ¬ c = 34) (h2 : ¬ c = 92) (h3 : visB c = false) : litS (c :: r) = none := by
  rw [litS.eq_def]
  dsimp only
  simp only [if_neg h1, if_neg h2, h3, Bool.false_eq_true, if_false]
theorem litS_len : ∀ (k : Nat) (r : List UInt8), r.length ≤ k → ∀ t n, litS r = some (t, n) → n ≤ r.length ∧ 1 ≤ n ∧ t.all conB = true ∧ t.length ≤ n := by
  intro k
  induction k with
  | zero =>
    intro r h t n e
    cases r with
    | nil => cases e
    | cons c r => simp at h
  | succ k ih =>
    intro r h t n e
    cases r with
    | nil => cases e
    | cons c r =>
      simp only [List.length_cons] at h
      unfold litS at e
      split at e
      · injection e with e; injection e with e1 e2; subst e1; subst e2
        simp
      · split at e
        · cases r with
          | nil => cases e
          | cons b r =>
            simp only [List.length_cons] at h
            dsimp only at e
            split at e
            · rename_i hb
              rw [Option.map_eq_some_iff] at e
              obtain ⟨⟨t1, n1⟩, e1, e2⟩ := e
              have := ih r (by omega) t1 n1 e1
              injection e2 with e2 e3
              subst e2; subst e3
              simp only [List.length_cons, List.all_cons]
              refine ⟨by omega, by omega, ?_, by omega⟩
              rw [this.2.2.1, Bool.and_true]
              rcases hb with hb | hb <;> subst hb <;> decide
            · split at e
              · rw [Option.map_eq_some_iff] at e
                obtain ⟨⟨t1, n1⟩, e1, e2⟩ := e
                have := ih r (by omega) t1 n1 e1
                injection e2 with e2 e3
                subst e2; subst e3
                simp only [List.length_cons, List.all_cons]
                refine ⟨by omega, by omega, ?_, by omega⟩
                rw [this.2.2.1, Bool.and_true]
                decide
              · cases e
        · split at e
          · rename_i hv
            rw [Option.map_eq_some_iff] at e
            obtain ⟨⟨t1, n1⟩, e1, e2⟩ := e
            have := ih r (by omega) t1 n1 e1
            injection e2 with e2 e3
            subst e2; subst e3
            simp only [List.length_cons, List.all_cons]
            refine ⟨by omega, by omega, ?_, by omega⟩
            rw [this.2.2.1, Bool.and_true, conB, hv, Bool.or_true]
          · cases e
/-- What a literal is depends on its bytes alone. -/
theorem litS_more : ∀ (k : Nat) (r : List UInt8), r.length ≤ k → ∀ t n, litS r = some (t, n) → ∀ e, litS (r.take n ++ e) = some (t, n) := by
  intro k
  induction k with
  | zero =>
    intro r h t n e
    cases r with
    | nil => cases e
    | cons c r => simp at h
  | succ k ih =>
    intro r h t n e z
    cases r with
    | nil => cases e
    | cons c r =>
      simp only [List.length_cons] at h
      unfold litS at e
      split at e
      · rename_i hc
        injection e with e; injection e with e1 e2; subst e1; subst e2
        rw [hc]
        exact litS_end _
      · rename_i hc
        split at e
        · rename_i hc2
          cases r with
          | nil => cases e
          | cons b r =>
            simp only [List.length_cons] at h
            dsimp only at e
            split at e
            · rename_i hb
              rw [Option.map_eq_some_iff] at e
              obtain ⟨⟨t1, n1⟩, e1, e2⟩ := e
              have := ih r (by omega) t1 n1 e1 z
              injection e2 with e2 e3
              subst e2; subst e3
              simp only [List.take_succ_cons, List.cons_append]
              unfold litS
              rw [if_neg hc, if_pos hc2]
              dsimp only
              rw [if_pos hb, this]
              rfl
            · rename_i hb
              split at e
              · rename_i hb2
                rw [Option.map_eq_some_iff] at e
                obtain ⟨⟨t1, n1⟩, e1, e2⟩ := e
                have := ih r (by omega) t1 n1 e1 z
                injection e2 with e2 e3
                subst e2; subst e3
                simp only [List.take_succ_cons, List.cons_append]
                unfold litS
                rw [if_neg hc, if_pos hc2]
                dsimp only
                rw [if_neg hb, if_pos hb2, this]
                rfl
              · cases e
        · rename_i hc2
          split at e
          · rename_i hv
            rw [Option.map_eq_some_iff] at e
            obtain ⟨⟨t1, n1⟩, e1, e2⟩ := e
            have := ih r (by omega) t1 n1 e1 z
            injection e2 with e2 e3
            subst e2; subst e3
            simp only [List.take_succ_cons, List.cons_append]
            unfold litS
            rw [if_neg hc, if_neg hc2, if_pos hv, this]
            rfl
          · cases e
theorem litS_app {r : List UInt8} {t : List UInt8} {n : Nat} (h : litS r = some (t, n)) (e : List UInt8) : litS (r ++ e) = some (t, n) := by
  have hn := (litS_len _ r (Nat.le_refl _) t n h).1
  have := litS_more _ r (Nat.le_refl _) t n h (r.drop n ++ e)
  rwa [← List.append_assoc, List.take_append_drop] at this
theorem litS_own {r : List UInt8} {t : List UInt8} {n : Nat} (h : litS r = some (t, n)) : litS (r.take n) = some (t, n) := by
  have := litS_more _ r (Nat.le_refl _) t n h []
  rwa [List.append_nil] at this
theorem litS_quote (t e : List UInt8) (h : t.all conB = true) : litS (bodyS t ++ 34 :: e) = some (t, (bodyS t).length + 1) := by
  induction t with
  | nil => exact litS_end e
  | cons c t ih =>
    simp only [List.all_cons, Bool.and_eq_true] at h
    have ih := ih h.2
    have hc := h.1
    show litS ((writeS c ++ bodyS t) ++ 34 :: e) = some (c :: t, (writeS c ++ bodyS t).length + 1)
    by_cases h1 : c = 34
    · subst h1
      show litS (92 :: 34 :: (bodyS t ++ 34 :: e)) = _
      rw [litS_esc _ _ (Or.inl rfl), ih]
      simp [writeS]
    · by_cases h2 : c = 92
      · subst h2
        show litS (92 :: 92 :: (bodyS t ++ 34 :: e)) = _
        rw [litS_esc _ _ (Or.inr rfl), ih]
        simp [writeS]
      · by_cases h3 : c = 10
        · subst h3
          show litS (92 :: 110 :: (bodyS t ++ 34 :: e)) = _
          rw [litS_feed, ih]
          simp [writeS]
        · have hv : visB c = true := by
            unfold conB at hc
            simpa [h3] using hc
          have hw : writeS c = [c] := by unfold writeS; rw [if_neg h1, if_neg h2, if_neg h3]
          rw [hw]
          show litS (c :: (bodyS t ++ 34 :: e)) = _
          rw [litS_plain _ _ h1 h2 hv, ih]
          simp

end Go.Proofs.YteokeljmggdecaaDoor
