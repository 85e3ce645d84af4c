/- Sorting and compacting gives the strictly increasing list of the elements; merging two such lists by a test; no program. -/
import Derived.Test.YtfljmnjcoagbmaaSets
import Derived.Lib.RowBridge
namespace Go.Proofs.Ytfljmnjcoagbmaa

/-- The elements in increasing order, each once. -/
def sortU (l : List Int) : List Int := Lib.compact (l.mergeSort fun x y => decide (x ≤ y))

theorem compact_up (d : Array Int) (hs : ∀ i j, i < j → j < d.size → d[i]! ≤ d[j]!) : ∀ m, m ≤ d.size →
    Up (Lib.compactUpTo d m) ∧ (∀ x, x ∈ Lib.compactUpTo d m ↔ ∃ j, j < m ∧ d[j]! = x)
  | 0, _ => ⟨by simp [Lib.compactUpTo]; exact up_nil, fun x => by simp [Lib.compactUpTo]⟩
  | m + 1, hm => by
    obtain ⟨h1, h2⟩ := compact_up d hs m (by omega)
    rw [Lib.compactUpTo_succ]
    by_cases hk : Lib.keeps d m = true
    · rw [if_pos hk]
      have hlt : ∀ j, j < m → d[j]! < d[m]! := by
        intro j hj
        have hk' : m = 0 ∨ d[m]! ≠ d[m - 1]! := by simpa [Lib.keeps] using hk
        have hne : d[m]! ≠ d[m - 1]! := by
          rcases hk' with h | h
          · omega
          · exact h
        have a1 := hs (m - 1) m (by omega) (by omega)
        have a2 : d[j]! ≤ d[m - 1]! := by
          by_cases he : j = m - 1
          · rw [he]; exact Int.le_refl _
          · exact hs j (m - 1) (by omega) (by omega)
        omega
      refine ⟨?_, fun x => ?_⟩
      · unfold Up at *
        rw [List.pairwise_append]
        refine ⟨h1, by simp, fun a ha b hb => ?_⟩
        obtain ⟨j, hj, rfl⟩ := (h2 a).1 ha
        rw [List.mem_singleton] at hb
        subst hb
        exact hlt j hj
      · rw [List.mem_append, h2, List.mem_singleton]
        constructor
        · rintro (⟨j, hj, e⟩ | e)
          · exact ⟨j, by omega, e⟩
          · exact ⟨m, by omega, e.symm⟩
        · rintro ⟨j, hj, e⟩
          by_cases hjm : j = m
          · subst hjm; exact Or.inr e.symm
          · exact Or.inl ⟨j, by omega, e⟩
    · rw [if_neg hk, List.append_nil]
      refine ⟨h1, fun x => ?_⟩
      rw [h2]
      constructor
      · rintro ⟨j, hj, e⟩
        exact ⟨j, by omega, e⟩
      · rintro ⟨j, hj, e⟩
        by_cases hjm : j = m
        · subst hjm
          have hk' : ¬ (j = 0 ∨ d[j]! ≠ d[j - 1]!) := by simpa [Lib.keeps] using hk
          have h0 : j ≠ 0 := fun h => hk' (Or.inl h)
          have he : d[j]! = d[j - 1]! := Classical.not_not.1 fun h => hk' (Or.inr h)
          exact ⟨j - 1, by omega, by rw [← he, e]⟩
        · exact ⟨j, by omega, e⟩

theorem merge_sorted (l : List Int) : (l.mergeSort fun x y => decide (x ≤ y)).Pairwise fun x y => decide (x ≤ y) = true :=
  List.pairwise_mergeSort (fun a b c h1 h2 => by simp at *; omega) (fun a b => by simp; omega) l
theorem sortU_spec (l : List Int) : Up (sortU l) ∧ ∀ x, x ∈ sortU l ↔ x ∈ l := by
  have hp := merge_sorted l
  obtain ⟨s, hs⟩ : ∃ s, (l.mergeSort fun x y => decide (x ≤ y)) = s := ⟨_, rfl⟩
  have hm : ∀ x, x ∈ s ↔ x ∈ l := fun x => by rw [← hs]; exact List.mem_mergeSort
  unfold sortU
  rw [hs] at hp ⊢
  have h := compact_up s.toArray (fun i j hij hj => by
    have hj' : j < s.length := by simpa using hj
    have := List.pairwise_iff_getElem.1 hp i j (by omega) hj' hij
    simp [getElem!_pos, show i < s.length by omega, hj']
    simpa using this) s.length (by simp)
  refine ⟨h.1, fun x => ?_⟩
  show x ∈ Lib.compactUpTo s.toArray s.length ↔ _
  rw [h.2, ← hm]
  constructor
  · rintro ⟨j, hj, rfl⟩
    simp [getElem!_pos, hj]
  · intro hx
    obtain ⟨j, hj, rfl⟩ := List.getElem_of_mem hx
    exact ⟨j, hj, by simp [getElem!_pos, hj]⟩
theorem up_sort (l : List Int) : Up (sortU l) := (sortU_spec l).1
theorem mem_sort (l : List Int) (x : Int) : x ∈ sortU l ↔ x ∈ l := (sortU_spec l).2 x
theorem sortU_len (l : List Int) : (sortU l).length ≤ l.length := by
  have := Lib.compact_length_le (l.mergeSort fun x y => decide (x ≤ y))
  rw [List.length_mergeSort] at this
  exact this

/-- One element, if it is to be kept. -/
def keepS (b : Bool) (x : Int) : List Int := if b = true then [x] else []
/-- The elements of two increasing lists for which f holds, which is told in which of the lists they are. -/
def mergeF (f : Bool → Bool → Bool) : List Int → List Int → List Int
  | [], [] => []
  | x :: a, [] => keepS (f true false) x ++ mergeF f a []
  | [], y :: b => keepS (f false true) y ++ mergeF f [] b
  | x :: a, y :: b => if x < y then keepS (f true false) x ++ mergeF f a (y :: b) else if y < x then keepS (f false true) y ++ mergeF f (x :: a) b else keepS (f true true) x ++ mergeF f a b
termination_by a b => a.length + b.length

theorem mem_keep (b : Bool) (x m : Int) : m ∈ keepS b x ↔ m = x ∧ b = true := by
  unfold keepS
  cases b <;> simp
theorem up_keep (b : Bool) (x : Int) (l : List Int) (h : Up l) (hx : ∀ y ∈ l, x < y) : Up (keepS b x ++ l) := by
  unfold keepS
  cases b
  · simpa using h
  · exact up_cons.2 ⟨hx, h⟩
theorem mergeF_spec (f : Bool → Bool → Bool) (a b : List Int) (ha : Up a) (hb : Up b) : Up (mergeF f a b) ∧ ∀ m, m ∈ mergeF f a b ↔ (m ∈ a ∨ m ∈ b) ∧ f (decide (m ∈ a)) (decide (m ∈ b)) = true := by
  induction a, b using mergeF.induct with
  | case1 => exact ⟨by simp [mergeF]; exact up_nil, fun m => by simp [mergeF]⟩
  | case2 x a ih =>
    have ha' := up_cons.1 ha
    obtain ⟨h1, h2⟩ := ih ha'.2 hb
    rw [mergeF]
    have hlt : ∀ y ∈ mergeF f a [], x < y := fun y hy => by
      rcases ((h2 y).1 hy).1 with h | h
      · exact ha'.1 y h
      · simp at h
    refine ⟨up_keep _ _ _ h1 hlt, fun m => ?_⟩
    rw [List.mem_append, mem_keep, h2]
    by_cases hm : m = x
    · subst hm
      have hna : m ∉ a := fun h => by have := ha'.1 m h; omega
      simp [hna]
    · simp [hm]
  | case3 y b ih =>
    have hb' := up_cons.1 hb
    obtain ⟨h1, h2⟩ := ih ha hb'.2
    rw [mergeF]
    have hlt : ∀ z ∈ mergeF f [] b, y < z := fun z hz => by
      rcases ((h2 z).1 hz).1 with h | h
      · simp at h
      · exact hb'.1 z h
    refine ⟨up_keep _ _ _ h1 hlt, fun m => ?_⟩
    rw [List.mem_append, mem_keep, h2]
    by_cases hm : m = y
    · subst hm
      have hnb : m ∉ b := fun h => by have := hb'.1 m h; omega
      simp [hnb]
    · simp [hm]
  | case4 x a y b hxy ih =>
    have ha' := up_cons.1 ha
    have hb' := up_cons.1 hb
    obtain ⟨h1, h2⟩ := ih ha'.2 hb
    rw [mergeF, if_pos hxy]
    have hlt : ∀ z ∈ mergeF f a (y :: b), x < z := fun z hz => by
      rcases ((h2 z).1 hz).1 with h | h
      · exact ha'.1 z h
      · rcases List.mem_cons.1 h with rfl | h
        · exact hxy
        · have := hb'.1 z h; omega
    refine ⟨up_keep _ _ _ h1 hlt, fun m => ?_⟩
    rw [List.mem_append, mem_keep, h2]
    by_cases hm : m = x
    · subst hm
      have hna : m ∉ a := fun h => by have := ha'.1 m h; omega
      have hnb : m ∉ b := fun h => by have := hb'.1 m h; omega
      have hny : m ≠ y := by omega
      simp [hna, hnb, hny]
    · simp [hm]
  | case5 x a y b hxy hyx ih =>
    have ha' := up_cons.1 ha
    have hb' := up_cons.1 hb
    obtain ⟨h1, h2⟩ := ih ha hb'.2
    rw [mergeF, if_neg hxy, if_pos hyx]
    have hlt : ∀ z ∈ mergeF f (x :: a) b, y < z := fun z hz => by
      rcases ((h2 z).1 hz).1 with h | h
      · rcases List.mem_cons.1 h with rfl | h
        · exact hyx
        · have := ha'.1 z h; omega
      · exact hb'.1 z h
    refine ⟨up_keep _ _ _ h1 hlt, fun m => ?_⟩
    rw [List.mem_append, mem_keep, h2]
    by_cases hm : m = y
    · subst hm
      have hna : m ∉ a := fun h => by have := ha'.1 m h; omega
      have hnb : m ∉ b := fun h => by have := hb'.1 m h; omega
      have hny : m ≠ x := by omega
      simp [hna, hnb, hny]
    · simp [hm]
  | case6 x a y b hxy hyx ih =>
    have ha' := up_cons.1 ha
    have hb' := up_cons.1 hb
    have he : x = y := by omega
    subst he
    obtain ⟨h1, h2⟩ := ih ha'.2 hb'.2
    rw [mergeF, if_neg hxy, if_neg hyx]
    have hlt : ∀ z ∈ mergeF f a b, x < z := fun z hz => by
      rcases ((h2 z).1 hz).1 with h | h
      · exact ha'.1 z h
      · exact hb'.1 z h
    refine ⟨up_keep _ _ _ h1 hlt, fun m => ?_⟩
    rw [List.mem_append, mem_keep, h2]
    by_cases hm : m = x
    · subst hm
      have hna : m ∉ a := fun h => by have := ha'.1 m h; omega
      have hnb : m ∉ b := fun h => by have := hb'.1 m h; omega
      simp [hna, hnb]
    · simp [hm]

theorem merge_and (a b : List Int) : mergeF (fun p q => p && q) (sortU a) (sortU b) = andS a b := by
  obtain ⟨h1, h2⟩ := mergeF_spec (fun p q => p && q) _ _ (up_sort a) (up_sort b)
  refine up_ext _ _ h1 (up_and a b) fun m => ?_
  rw [h2, mem_and]
  simp [mem_sort]
  exact fun h _ => Or.inl h
theorem merge_or (a b : List Int) : mergeF (fun p q => p || q) (sortU a) (sortU b) = orS a b := by
  obtain ⟨h1, h2⟩ := mergeF_spec (fun p q => p || q) _ _ (up_sort a) (up_sort b)
  refine up_ext _ _ h1 (up_or a b) fun m => ?_
  rw [h2, mem_or]
  simp [mem_sort]
theorem merge_minus (a b : List Int) : mergeF (fun p q => p && !q) (sortU a) (sortU b) = minusS a b := by
  obtain ⟨h1, h2⟩ := mergeF_spec (fun p q => p && !q) _ _ (up_sort a) (up_sort b)
  refine up_ext _ _ h1 (up_minus a b) fun m => ?_
  rw [h2, mem_minus]
  simp [mem_sort]
  exact fun h _ => Or.inl h

end Go.Proofs.Ytfljmnjcoagbmaa
