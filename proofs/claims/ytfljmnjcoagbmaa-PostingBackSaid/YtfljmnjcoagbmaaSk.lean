/- A map that counts in how many lists a number is; what a range over it collects; no program. -/
import Derived.Test.YtfljmnjcoagbmaaS2
import Derived.Maps.OwnOps
import Derived.Maps.OwnSet
import Derived.Maps.RangeWalk
import Derived.Maps.Ext
import Derived.Lib.SlKeysI
namespace Go.Proofs.Ytfljmnjcoagbmaa
open Go.RowKit Go.Maps

/-- D holds, at each number, how many it is counted. -/
def Counts (D : DataW Unit) (F : Int → Nat) : Prop := IsMap D ∧ ∀ x : Int, D.atKey (.int .i64 x) (.lit (.int .i64 0)) = .lit (.int .i64 (F x : Int)) ∧ (has D (.int .i64 x) = true ↔ 0 < F x)
theorem Counts.start : Counts (.map []) fun _ => 0 := ⟨isMap_empty, fun x => ⟨rfl, by simp [has]⟩⟩
theorem lit_ne {x y : Int} (h : y ≠ x) : (Lit.int .i64 y) ≠ (Lit.int .i64 x) := fun e => h (by injection e)
theorem Counts.put {D : DataW Unit} {F G : Int → Nat} (h : Counts D F) (x : Int) (f : Nat) (hf : F x = f) (hG : ∀ y, G y = if y = x then f + 1 else F y) :
    Counts (D.put (.int .i64 x) (.lit (.int .i64 ((f : Int) + 1)))) G := by
  refine ⟨?_, fun y => ?_⟩
  · obtain ⟨es, rfl⟩ := h.1
    exact ⟨_, rfl⟩
  · by_cases hy : y = x
    · subst hy
      have hg : G y = f + 1 := by rw [hG, if_pos rfl]
      have hk : WideAt.IsKeyLit (.int .i64 y) := trivial
      rw [atKey_put_same h.1 hk, has_put_same h.1 hk, hg]
      exact ⟨by simp, by simp⟩
    · have hg : G y = F y := by rw [hG, if_neg hy]
      rw [atKey_put_other (lit_ne hy), has_put_other (lit_ne hy), hg]
      exact h.2 y
theorem Counts.same {D : DataW Unit} {F G : Int → Nat} (h : Counts D F) (hG : ∀ y, G y = F y) : Counts D G := by
  have : G = F := funext hG
  rw [this]
  exact h
theorem Counts.is {D : DataW Unit} {F : Int → Nat} (h : Counts D F) {x c : Int} (hat : D.atKey (.int .i64 x) (.lit (.int .i64 0)) = .lit (.int .i64 c)) : c = (F x : Int) := by
  rw [(h.2 x).1] at hat
  injection hat with e
  injection e with _ e
  exact e.symm

/-- Counted after j lists and i elements of the set S of the next. -/
def cntF (ls : List (List Int)) (S : List Int) (j i : Nat) (y : Int) : Nat := inP (ls.take j) y + (if y ∈ S.take i then 1 else 0)
theorem cnt_zero (ls : List (List Int)) (S : List Int) (j : Nat) (y : Int) : cntF ls S j 0 y = inP (ls.take j) y := by simp [cntF]
theorem cnt_step (ls : List (List Int)) (S : List Int) (j i : Nat) (x : Int) (hS : Up S) (hx : S[i]? = some x) (y : Int) :
    cntF ls S j (i + 1) y = if y = x then cntF ls S j i x + 1 else cntF ls S j i y := by
  have hnot : x ∉ S.take i := by
    intro hm
    obtain ⟨k, hk, e⟩ := List.getElem_of_mem hm
    rw [List.length_take] at hk
    rw [List.getElem_take] at e
    have := up_at S hS k i _ x (by omega) (List.getElem?_eq_getElem (by omega)) hx
    omega
  unfold cntF
  rw [take_at S i x hx]
  by_cases hy : y = x
  · subst hy
    simp [hnot]
  · simp [hy]
theorem cnt_end (ls : List (List Int)) (l : List Int) (j m : Nat) (hl : ls[j]? = some l) (hm : (sortU l).length = m) (y : Int) : cntF ls (sortU l) j m y = inP (ls.take (j + 1)) y := by
  unfold cntF
  rw [List.take_of_length_le (l := sortU l) (i := m) (by omega), inP_at ls j l y hl]
  by_cases hy : y ∈ l
  · rw [if_pos hy, if_pos ((mem_sort l y).2 hy)]
  · rw [if_neg hy, if_neg fun h => hy ((mem_sort l y).1 h)]
theorem cnt_le (ls : List (List Int)) (S : List Int) (j i : Nat) (y : Int) (n : Nat) (hn : ls.length = n) : cntF ls S j i y ≤ n + 1 := by
  have h1 := inP_le (ls.take j) y
  rw [List.length_take] at h1
  unfold cntF
  split <;> omega

/-- What has been collected: the numbers that are no longer to come and are counted k times at least. -/
def Coll (D : DataW Unit) (F : Int → Nat) (k : Int) (left : Lit → Bool) (out : List Int) : Prop := out.Nodup ∧ ∀ x, x ∈ out ↔ (has D (.int .i64 x) = true ∧ left (.int .i64 x) = false ∧ k ≤ (F x : Int))
theorem Coll.start (D : DataW Unit) (F : Int → Nat) (k : Int) : Coll D F k (has D) [] := ⟨List.nodup_nil, fun x => by cases has D (.int .i64 x) <;> simp⟩
theorem left_at (left : Lit → Bool) (x y : Int) : (left (.int .i64 y) && !(Lit.int .i64 y).sameKey (.int .i64 x)) = false ↔ (left (.int .i64 y) = false ∨ y = x) := by
  by_cases hy : y = x <;> simp [Lit.sameKey, hy]
theorem Coll.yes {D : DataW Unit} {F : Int → Nat} {k : Int} {left : Lit → Bool} {out : List Int} (h : Coll D F k left out) {x : Int} (hlk : left (.int .i64 x) = true) (hhas : has D (.int .i64 x) = true) (hk : k ≤ (F x : Int)) :
    Coll D F k (fun z => left z && !z.sameKey (.int .i64 x)) (out ++ [x]) := by
  have hnew : x ∉ out := fun hx => by have := ((h.2 x).1 hx).2.1; rw [hlk] at this; cases this
  refine ⟨List.nodup_append.2 ⟨h.1, by simp, fun a ha b hb => by simp at hb; subst hb; exact fun e => hnew (e ▸ ha)⟩, fun y => ?_⟩
  rw [List.mem_append, List.mem_singleton, h.2, left_at]
  constructor
  · rintro (⟨h1, h2, h3⟩ | rfl)
    · exact ⟨h1, Or.inl h2, h3⟩
    · exact ⟨hhas, Or.inr rfl, hk⟩
  · rintro ⟨h1, h2 | rfl, h3⟩
    · exact Or.inl ⟨h1, h2, h3⟩
    · exact Or.inr rfl
theorem Coll.no {D : DataW Unit} {F : Int → Nat} {k : Int} {left : Lit → Bool} {out : List Int} (h : Coll D F k left out) {x : Int} (hk : ¬ k ≤ (F x : Int)) :
    Coll D F k (fun z => left z && !z.sameKey (.int .i64 x)) out := by
  refine ⟨h.1, fun y => ?_⟩
  rw [h.2, left_at]
  constructor
  · rintro ⟨h1, h2, h3⟩
    exact ⟨h1, Or.inl h2, h3⟩
  · rintro ⟨h1, h2 | rfl, h3⟩
    · exact ⟨h1, h2, h3⟩
    · exact absurd h3 hk
theorem srt_up (l : List Int) (h : l.Nodup) : Up (srt l) := by
  have h1 := merge_sorted l
  have h2 : (srt l).Nodup := (List.mergeSort_perm l _).nodup_iff.2 h
  unfold Up
  have h3 := h1.and h2
  refine List.Pairwise.imp ?_ h3
  rintro a b ⟨h4, h5⟩
  simp at h4
  have : a ≠ b := h5
  omega
theorem srt_mem (l : List Int) (x : Int) : x ∈ srt l ↔ x ∈ l := List.mem_mergeSort
theorem Coll.sorted {D : DataW Unit} {ls : List (List Int)} {k : Int} {left : Lit → Bool} {out : List Int} (h : Coll D (inP ls) k left out) (hD : Counts D (inP ls)) (hl : ∀ kl, left kl = false) : srt out = leastS k ls := by
  refine up_ext _ _ (srt_up out h.1) (up_least k ls) fun m => ?_
  rw [srt_mem, h.2, mem_least, (hD.2 m).2, hl]
  constructor
  · rintro ⟨h1, _, h3⟩
    refine ⟨?_, h3⟩
    unfold inP at h1
    obtain ⟨l, hlm⟩ := List.exists_mem_of_length_pos h1
    rw [List.mem_filter] at hlm
    exact ⟨l, hlm.1, by simpa using hlm.2⟩
  · rintro ⟨h1, h3⟩
    exact ⟨inP_pos ls m h1, rfl, h3⟩

section
variable {P : Program} {k : TypeId} {R : Value → Option (DataW Unit × List MemPlace)} {w w' : World} {b r n : Nat} {D : DataW Unit}
theorem ownsMap_below (h : w.ownsMap P k R b n D) (hb : Below w.heap.size w w') : w'.ownsMap P k R b n D := by
  have hlt := h.lt
  obtain ⟨es, clock, h1, h2⟩ := h
  exact ⟨es, clock, (hb.block b hlt).trans h1, h2⟩
theorem ranges_below {left : Lit → Bool} {cnt B : Nat} (h : w.ranges P k R b r n D left cnt) (hb : Below B w w') (h1 : b < B) (h2 : r < B) : w'.ranges P k R b r n D left cnt := by
  obtain ⟨es, clock, since, seen, c0, e1, e2, e3, e4, e5, e6⟩ := h
  exact ⟨es, clock, since, seen, c0, (hb.block b h1).trans e1, e2, e3, e4, (hb.block r h2).trans e5, e6⟩
theorem Sl.turned {A : Option Addr} {m c : Nat} {xs : List Value} (h : Sl w A m c xs) (hm : w.ownsMap P k R b n D) (hg : w.grownBy w' (some b)) : Sl w' A m c xs := by
  obtain ⟨es, clock, hb, _⟩ := hm
  refine ⟨h.1, h.2.1, h.2.2.1, h.2.2.2.1, fun j u hu => ?_⟩
  obtain ⟨ad, hA, hlt, hc⟩ := h.2.2.2.2 j u hu
  refine ⟨ad, hA, Nat.lt_of_lt_of_le hlt hg.size, ?_⟩
  have hblk : (ad.add j).block = ad.block := Go.ChangeShapes.block_add ad j
  rw [World.cell?_of_block]
  · exact hc
  · refine hg.block _ (by rw [hblk]; exact hlt) fun e => ?_
    have e' : (ad.add j).block = b := Option.some.inj e
    unfold World.cell? at hc
    rw [e', hb] at hc
    cases hc
theorem Own.turned {B e : Nat} {v : Value} {xs : List Value} (h : Own w B e v xs) (hg : w.grownBy w' (some r)) (hr : r < B) : Own w' B e v xs := by
  obtain ⟨h1, h2⟩ := h
  refine ⟨h1, ?_⟩
  rcases h2 with h2 | ⟨g, cap, cur, hv, hgB, hh, rest⟩
  · exact Or.inl h2
  · exact Or.inr ⟨g, cap, cur, hv, hgB, (hg.block g (lt_of_block hh) (fun e => by have := Option.some.inj e; omega)).trans hh, rest⟩
end

end Go.Proofs.Ytfljmnjcoagbmaa
