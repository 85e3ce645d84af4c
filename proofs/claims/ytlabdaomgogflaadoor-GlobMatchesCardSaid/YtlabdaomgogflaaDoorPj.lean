/- Two patterns, one after the other, match two strings, one after the other. No program. -/
import Derived.Test.YtlabdaomgogflaaDoorPn
namespace Go.Proofs.YtlabdaomgogflaaDoor

def tw (l : List UInt8) : Nat := (l.takeWhile (· == 42)).length
theorem indexByte_app : ∀ (l b : List UInt8) (c : UInt8), 0 ≤ Lib.indexByte l c → Lib.indexByte (l ++ b) c = Lib.indexByte l c
  | [], _, _, h => by simp [Lib.indexByte] at h
  | a :: l, b, c, h => by
    rw [List.cons_append]
    unfold Lib.indexByte at h ⊢
    by_cases h1 : (a == c) = true
    · rw [if_pos h1, if_pos h1]
    · rw [if_neg h1] at h ⊢
      rw [if_neg h1]
      have hge := Lib.indexByte_ge l c
      by_cases h2 : (Lib.indexByte l c == -1) = true
      · rw [if_pos h2] at h; omega
      · have h3 : ¬ Lib.indexByte l c = -1 := by simpa using h2
        rw [indexByte_app l b c (by omega)]
theorem tw_le (l : List UInt8) : tw l ≤ l.length := takeWhile_le _ l
theorem tw_app_lt (l b : List UInt8) (h : tw l < l.length) : tw (l ++ b) = tw l := by
  unfold tw at h ⊢
  rw [List.takeWhile_append, if_neg (by omega)]
theorem tw_app_all (l b : List UInt8) (h : tw l = l.length) : tw (l ++ b) = l.length + tw b := by
  unfold tw at h ⊢
  rw [List.takeWhile_append, if_pos h, List.length_append]
theorem fe42 (r : List UInt8) : firstEl (42 :: r) = if 2 < 1 + tw r then 0 else 1 + tw r := by
  rw [firstEl, if_pos rfl]; rfl
theorem fe91 (r : List UInt8) : firstEl (91 :: r) = if Lib.indexByte (91 :: r) 93 < 0 then 0 else if setOk (((91 :: r).take (Lib.indexByte (91 :: r) 93).toNat).drop 1) then (Lib.indexByte (91 :: r) 93).toNat + 1 else 0 := by
  rw [firstEl, if_neg (by decide), if_pos rfl]
theorem fe_else (c : UInt8) (r : List UInt8) (h1 : c ≠ 42) (h2 : c ≠ 91) : firstEl (c :: r) = if c = 93 then 0 else 1 := by
  rw [firstEl, if_neg h1, if_neg h2]

/-- The first element stays what it is before other bytes, unless it ends in asterisks at the pattern's end. -/
theorem fe_app (a b : List UInt8) (n : Nat) (hn : firstEl a = n) (h0 : n ≠ 0) (hs : a.headD 0 = 42 → n < a.length) : firstEl (a ++ b) = n := by
  cases a with
  | nil => simp [firstEl] at hn; omega
  | cons c r =>
    rw [List.cons_append]
    by_cases h1 : c = 42
    · subst h1
      have hlt := hs rfl
      rw [fe42] at hn ⊢
      simp only [List.length_cons] at hlt
      split at hn
      · omega
      · rw [tw_app_lt r b (by omega), if_neg (by omega), hn]
    · by_cases h2 : c = 91
      · subst h2
        rw [fe91] at hn ⊢
        by_cases h3 : Lib.indexByte (91 :: r) 93 < 0
        · rw [if_pos h3] at hn; omega
        · have h4 := indexByte_app (91 :: r) b 93 (by omega)
          rw [List.cons_append] at h4
          rw [h4, ← List.cons_append, List.take_append_of_le_length (by have := indexByte_bound (91 :: r) 93; omega)]
          exact hn
      · rw [fe_else c r h1 h2] at hn
        rw [fe_else c _ h1 h2]
        exact hn
theorem stars_all (a : List UInt8) (n : Nat) (hn : firstEl a = n) (hc : a.headD 0 = 42) (hl : n = a.length) (b : List UInt8) : firstEl (a ++ b) = if 2 < n + tw b then 0 else n + tw b := by
  cases a with
  | nil => simp at hc
  | cons c r =>
    have : c = 42 := hc
    subst this
    rw [fe42] at hn
    simp only [List.length_cons] at hl
    have ht : tw r = r.length := by split at hn <;> omega
    rw [List.cons_append, fe42, tw_app_all r b ht, show 1 + (r.length + tw b) = n + tw b by omega]
theorem tw_pos (b : List UInt8) (h : 0 < tw b) : ∃ r, b = 42 :: r ∧ tw b = 1 + tw r := by
  cases b with
  | nil => simp [tw] at h
  | cons c r =>
    by_cases hc : c = 42
    · subst hc
      refine ⟨r, rfl, ?_⟩
      unfold tw
      rw [List.takeWhile_cons, if_pos (by rfl), List.length_cons, Nat.add_comm]
    · unfold tw at h
      rw [List.takeWhile_cons, if_neg (by simpa using hc)] at h
      simp at h

theorem elems_ne (l : List UInt8) (h : l ≠ []) (es : List (List UInt8)) (he : elems l = some es) : firstEl l ≠ 0 ∧ ∃ fs, elems (l.drop (firstEl l)) = some fs ∧ es = l.take (firstEl l) :: fs := by
  rw [elems_cons l h] at he
  by_cases h0 : firstEl l = 0
  · rw [if_pos h0] at he; cases he
  · rw [if_neg h0, Option.map_eq_some_iff] at he
    obtain ⟨fs, h1, h2⟩ := he
    exact ⟨h0, fs, h1, h2.symm⟩

theorem take_app_le {α : Type} (a b : List α) (n : Nat) (h : n ≤ a.length) : (a ++ b).take n = a.take n := List.take_append_of_le_length h
theorem drop_app_le {α : Type} (a b : List α) (n : Nat) (h : n ≤ a.length) : (a ++ b).drop n = a.drop n ++ b := List.drop_append_of_le_length h

theorem joins : ∀ (es : List (List UInt8)) (a : List UInt8), elems a = some es → ∀ (b : List UInt8) (fs : List (List UInt8)), elems b = some fs → ∀ hs, elems (a ++ b) = some hs → ∀ p q, Mt es p → Mt fs q → Mt hs (p ++ q)
  | es, [], ha, b, fs, hb, hs, hab, p, q, hp, hq => by
    rw [elems_nil] at ha
    cases ha
    rw [List.nil_append, hb] at hab
    cases hab
    have : p = [] := hp
    subst this
    exact hq
  | [], c :: r, ha, b, fs, hb, hs, hab, p, q, hp, hq => by
    obtain ⟨_, _, _, h⟩ := elems_ne (c :: r) (by simp) _ ha
    cases h
  | e :: es, c :: r, ha, b, fs, hb, hs, hab, p, q, hp, hq => by
    obtain ⟨h0, gs, hg, he⟩ := elems_ne (c :: r) (by simp) _ ha
    obtain ⟨he1, he2⟩ := List.cons.inj he
    subst he2
    obtain ⟨h0', ks, hk, rfl⟩ := elems_ne ((c :: r) ++ b) (by simp) _ hab
    obtain ⟨n, hn⟩ : ∃ n, firstEl (c :: r) = n := ⟨_, rfl⟩
    have hle := firstEl_le (c :: r)
    rw [hn] at h0 hg he1 hle
    obtain ⟨p1, p2, rfl, hl, hp2⟩ := hp
    have plain : firstEl ((c :: r) ++ b) = n → Mt (List.take (firstEl ((c :: r) ++ b)) ((c :: r) ++ b) :: ks) ((p1 ++ p2) ++ q) := fun hsame => by
      rw [hsame] at hk ⊢
      rw [drop_app_le _ _ _ hle] at hk
      rw [take_app_le _ _ _ hle, ← he1]
      exact ⟨p1, p2 ++ q, by simp, hl, joins es _ hg b fs hb ks hk p2 q hp2 hq⟩
    by_cases hst : c = 42 ∧ n = (c :: r).length
    · obtain ⟨rfl, hnl⟩ := hst
      have hf := stars_all (42 :: r) n hn rfl hnl b
      by_cases h2 : 2 < n + tw b
      · rw [if_pos h2] at hf; exact absurd hf h0'
      · rw [if_neg h2] at hf
        by_cases ht : tw b = 0
        · exact plain (by rw [hf, ht]; rfl)
        · obtain ⟨rb, rfl, htb⟩ := tw_pos b (by omega)
          have hn1 : n = 1 := by omega
          have ht1 : tw rb = 0 := by omega
          rw [hn1] at hnl he1 hg
          have hr : r = [] := by
            cases r with
            | nil => rfl
            | cons x y => simp at hnl
          subst hr
          have hf2 : firstEl (([42] : List UInt8) ++ 42 :: rb) = 2 := by rw [hf, htb]; omega
          have hfb : firstEl (42 :: rb) = 1 := by rw [fe42, ht1]; rfl
          obtain ⟨_, fs', hfs, rfl⟩ := elems_ne (42 :: rb) (by simp) _ hb
          rw [hfb] at hfs hq
          rw [hf2] at hk ⊢
          have hk' : ks = fs' := by
            have e1 : (([42] : List UInt8) ++ 42 :: rb).drop 2 = rb := rfl
            have e2 : (42 :: rb).drop 1 = rb := rfl
            rw [e1] at hk
            rw [e2, hk] at hfs
            exact Option.some.inj hfs
          subst hk'
          have e1 : (([42] : List UInt8)).drop 1 = [] := rfl
          rw [e1, elems_nil] at hg
          cases hg
          have hp2' : p2 = [] := hp2
          subst hp2'
          obtain ⟨q1, q2, rfl, hlq, hq2⟩ := hq
          refine ⟨p1 ++ q1, q2, by simp, ?_, hq2⟩
          show Lang [42, 42] _
          unfold Lang
          rw [if_pos (by decide)]
          intro x _
          unfold takes
          rw [if_pos (by decide)]
          rfl
    · exact plain (fe_app (c :: r) b n hn h0 (fun hc => by
        have hc' : c = 42 := hc
        have : ¬ n = (c :: r).length := fun e => hst ⟨hc', e⟩
        omega))

theorem joins_match (a b p q : List UInt8) (h : right (a ++ b) = 0) (h1 : matchL a p = true) (h2 : matchL b q = true) : matchL (a ++ b) (p ++ q) = true := by
  unfold matchL at h1 h2 ⊢
  rw [Bool.and_eq_true, decide_eq_true_eq] at h1 h2
  obtain ⟨h1, h1'⟩ := h1
  obtain ⟨h2, h2'⟩ := h2
  obtain ⟨es, e1, e2⟩ := right_some a h1
  obtain ⟨fs, f1, f2⟩ := right_some b h2
  obtain ⟨hs, g1, g2⟩ := right_some _ h
  rw [decide_eq_true h, Bool.true_and, g2, mt_iff]
  rw [e2, mt_iff] at h1'
  rw [f2, mt_iff] at h2'
  exact joins es a e1 b fs f1 hs g1 p q h1' h2'

end Go.Proofs.YtlabdaomgogflaaDoor
