/- What a pattern begins with is what its matches begin with. No program. -/
import Derived.Test.YtlabdaomgogflaaDoorPj
namespace Go.Proofs.YtlabdaomgogflaaDoor

def plain (c : UInt8) : Bool := !([42, 63, 91] : List UInt8).contains c
def pfx (l : List UInt8) : List UInt8 := l.takeWhile plain
theorem pfx_le (l : List UInt8) : (pfx l).length ≤ l.length := takeWhile_le _ l
theorem pfx_pre (l : List UInt8) : l.take (pfx l).length = pfx l := by
  induction l with
  | nil => rfl
  | cons c l ih =>
    unfold pfx at ih ⊢
    rw [List.takeWhile_cons]
    split
    · rw [List.length_cons, List.take_succ_cons, ih]
    · rfl
theorem plain_ne {c : UInt8} (h : plain c = true) : c ≠ 42 ∧ c ≠ 63 ∧ c ≠ 91 := by
  unfold plain at h
  simpa using h
theorem fe_plain (c : UInt8) (r : List UInt8) (h : plain c = true) (h0 : firstEl (c :: r) ≠ 0) : firstEl (c :: r) = 1 := by
  obtain ⟨h1, _, h3⟩ := plain_ne h
  rw [fe_else c r h1 h3] at h0 ⊢
  by_cases h4 : c = 93
  · rw [if_pos h4] at h0; exact absurd rfl h0
  · rw [if_neg h4]
theorem lang_plain (c : UInt8) (h : plain c = true) (q : List UInt8) : Lang [c] q ↔ q = [c] := by
  obtain ⟨h1, h2, h3⟩ := plain_ne h
  unfold Lang isStar
  rw [if_neg (by simpa using h1)]
  constructor
  · rintro ⟨d, rfl, hd⟩
    unfold takes at hd
    have e : ([c] : List UInt8).headD 0 = c := rfl
    rw [e, if_neg h1, if_neg h2, if_neg h3] at hd
    have : c = d := by simpa using hd
    rw [this]
  · rintro rfl
    refine ⟨c, rfl, ?_⟩
    unfold takes
    have e : ([c] : List UInt8).headD 0 = c := rfl
    rw [e, if_neg h1, if_neg h2, if_neg h3]
    simp

theorem pfx_match : ∀ (g : List UInt8) (es : List (List UInt8)), elems g = some es → ∀ p, Mt es p → pfx g <+: p
  | [], _, _, p, _ => List.nil_prefix
  | c :: r, es, he, p, hp => by
    unfold pfx
    rw [List.takeWhile_cons]
    by_cases hc : plain c = true
    · rw [if_pos hc]
      obtain ⟨h0, fs, hf, rfl⟩ := elems_ne (c :: r) (by simp) _ he
      rw [fe_plain c r hc h0] at hf hp
      obtain ⟨q, t, rfl, hl, ht⟩ := hp
      have hq := (lang_plain c hc q).1 hl
      subst hq
      obtain ⟨u, hu⟩ := pfx_match r fs hf t ht
      exact ⟨u, by rw [← hu]; rfl⟩
    · rw [if_neg hc]
      exact List.nil_prefix
theorem all_plain : ∀ (g : List UInt8) (es : List (List UInt8)), elems g = some es → pfx g = g → ∀ p, Mt es p ↔ p = g
  | [], es, he, _, p => by
    rw [elems_nil] at he
    cases he
    exact Iff.rfl
  | c :: r, es, he, hg, p => by
    unfold pfx at hg
    rw [List.takeWhile_cons] at hg
    by_cases hc : plain c = true
    · rw [if_pos hc] at hg
      have hg' : pfx r = r := (List.cons.inj hg).2
      obtain ⟨h0, fs, hf, rfl⟩ := elems_ne (c :: r) (by simp) _ he
      rw [fe_plain c r hc h0] at hf ⊢
      have ih := all_plain r fs hf hg'
      constructor
      · rintro ⟨q, t, rfl, hl, ht⟩
        have hq := (lang_plain c hc q).1 hl
        subst hq
        rw [(ih t).1 ht]
        rfl
      · rintro rfl
        exact ⟨[c], r, rfl, (lang_plain c hc [c]).2 rfl, (ih r).2 rfl⟩
    · rw [if_neg hc] at hg
      cases hg

theorem match_pfx (g p : List UInt8) (h : matchL g p = true) : pfx g <+: p := by
  unfold matchL at h
  rw [Bool.and_eq_true, decide_eq_true_eq] at h
  obtain ⟨h1, h2⟩ := h
  obtain ⟨es, e1, e2⟩ := right_some g h1
  rw [e2, mt_iff] at h2
  exact pfx_match g es e1 p h2
theorem match_plain (g p : List UInt8) (h1 : right g = 0) (hg : pfx g = g) : matchL g p = decide (p = g) := by
  obtain ⟨es, e1, e2⟩ := right_some g h1
  unfold matchL
  rw [decide_eq_true h1, Bool.true_and, e2, Bool.eq_iff_iff, mt_iff, decide_eq_true_eq]
  exact all_plain g es e1 hg p

/-- What IndexAny tells of the prefix. -/
theorem pfx_index : ∀ l : List UInt8, (Lib.indexAny l [42, 63, 91] = -1 ∧ pfx l = l) ∨ ∃ i : Nat, Lib.indexAny l [42, 63, 91] = i ∧ i < l.length ∧ pfx l = l.take i
  | [] => Or.inl ⟨rfl, rfl⟩
  | c :: l => by
    unfold Lib.indexAny pfx
    rw [List.takeWhile_cons]
    by_cases hc : ([42, 63, 91] : List UInt8).contains c = true
    · rw [if_pos hc, if_neg (by unfold plain; rw [hc]; simp)]
      exact Or.inr ⟨0, rfl, by simp, rfl⟩
    · have hp : plain c = true := by unfold plain; simpa using hc
      rw [if_neg hc, if_pos hp]
      rcases pfx_index l with ⟨h1, h2⟩ | ⟨i, h1, h2, h3⟩
      · rw [h1, if_pos (by rfl)]
        refine Or.inl ⟨rfl, ?_⟩
        show c :: pfx l = _
        rw [h2]
      · rw [h1, if_neg (by rw [beq_iff_eq]; omega)]
        refine Or.inr ⟨i + 1, by omega, by simp; exact h2, ?_⟩
        show c :: pfx l = _
        rw [h3]; rfl

end Go.Proofs.YtlabdaomgogflaaDoor
