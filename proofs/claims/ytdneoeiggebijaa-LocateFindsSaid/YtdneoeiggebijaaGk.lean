/- A map of slices by code: what is grouped in it; what a range over it collects; no function of a program. -/
import Derived.Test.YtdneoeiggebijaaT3
import Derived.Maps.OwnRows
import Derived.Maps.OwnOps
import Derived.Maps.OwnSet
import Derived.Maps.RangeWalk
namespace Go.Proofs.Ytdneoeiggebijaa
open Go.RowKit Go.Maps
open Go.ChangeShapes (lits)

/-- D holds, at each number, the list that F has there, if that is not empty. -/
def Groups (D : DataW Unit) (F : Int → List Int) : Prop :=
  IsMap D ∧ ∀ x : Int, D.atKey (.int .i64 x) .nil = (if F x = [] then .nil else .slice (lits .i64 (F x)) []) ∧ (has D (.int .i64 x) = true ↔ F x ≠ [])
theorem Groups.start : Groups (.map []) fun _ => [] := ⟨isMap_empty, fun x => ⟨rfl, by simp [has]⟩⟩
theorem lit_ne {x y : Int} (h : y ≠ x) : (Lit.int .i64 y) ≠ (Lit.int .i64 x) := fun e => h (by injection e)
theorem lits_inj : ∀ (a b : List Int), lits (H := Unit) .i64 a = lits .i64 b → a = b
  | [], [], _ => rfl
  | [], _ :: _, h => by simp [lits] at h
  | _ :: _, [], h => by simp [lits] at h
  | x :: a, y :: b, h => by
    simp only [lits, List.map_cons, List.cons.injEq] at h
    obtain ⟨h1, h2⟩ := h
    have e : x = y := by injection h1 with h1; injection h1
    rw [e, lits_inj a b h2]
theorem Groups.is {D : DataW Unit} {F : Int → List Int} (h : Groups D F) {x : Int} {w : World} {base : Nat} {e : TypeId} {v : Value} {zs : List Int} (ho : w.ownsInts base e .i64 v zs) (hat : D.atKey (.int .i64 x) .nil = rowDatum .i64 v zs) : zs = F x := by
  rw [(h.2 x).1] at hat
  rcases ho.datum (H := Unit) with ⟨h1, h2⟩ | h1
  · rw [h1] at hat
    by_cases hF : F x = []
    · rw [h2, hF]
    · rw [if_neg hF] at hat; cases hat
  · rw [h1] at hat
    by_cases hF : F x = []
    · rw [if_pos hF] at hat; cases hat
    · rw [if_neg hF] at hat
      injection hat with e1
      exact (lits_inj _ _ e1).symm
theorem Groups.put {D : DataW Unit} {F G : Int → List Int} (h : Groups D F) (x : Int) (l : List Int) (hl : l ≠ []) (hG : ∀ y, G y = if y = x then l else F y) : Groups (D.put (.int .i64 x) (.slice (lits .i64 l) [])) G := by
  refine ⟨?_, fun y => ?_⟩
  · obtain ⟨es, rfl⟩ := h.1
    exact ⟨_, rfl⟩
  · by_cases hy : y = x
    · subst hy
      have hg : G y = l := by rw [hG, if_pos rfl]
      have hk : WideAt.IsKeyLit (.int .i64 y) := trivial
      rw [atKey_put_same h.1 hk, has_put_same h.1 hk, hg]
      exact ⟨by rw [if_neg hl], by simp [hl]⟩
    · have hg : G y = F y := by rw [hG, if_neg hy]
      rw [atKey_put_other (lit_ne hy), has_put_other (lit_ne hy), hg]
      exact h.2 y
theorem Groups.same {D : DataW Unit} {F G : Int → List Int} (h : Groups D F) (hG : ∀ y, G y = F y) : Groups D G := by
  have : G = F := funext hG
  rw [this]
  exact h

/-- What has been collected: the numbers that are there and no longer to come. -/
def Coll (D : DataW Unit) (left : Lit → Bool) (out : List Int) : Prop := out.Nodup ∧ ∀ x, x ∈ out ↔ (has D (.int .i64 x) = true ∧ left (.int .i64 x) = false)
theorem Coll.start (D : DataW Unit) : Coll D (has D) [] := ⟨List.nodup_nil, fun x => by cases has D (.int .i64 x) <;> simp⟩
theorem left_at (left : Lit → Bool) (x y : Int) : (left (.int .i64 y) && !(Lit.int .i64 y).sameKey (.int .i64 x)) = false ↔ (left (.int .i64 y) = false ∨ y = x) := by
  by_cases hy : y = x <;> simp [Lit.sameKey, hy]
theorem Coll.yes {D : DataW Unit} {left : Lit → Bool} {out : List Int} (h : Coll D left out) {x : Int} (hlk : left (.int .i64 x) = true) (hhas : has D (.int .i64 x) = true) :
    Coll D (fun z => left z && !z.sameKey (.int .i64 x)) (out ++ [x]) := by
  have hnew : x ∉ out := fun hx => by have := ((h.2 x).1 hx).2; rw [hlk] at this; cases this
  refine ⟨List.nodup_append.2 ⟨h.1, by simp, fun a ha b hb => by simp at hb; subst hb; exact fun e => hnew (e ▸ ha)⟩, fun y => ?_⟩
  rw [List.mem_append, List.mem_singleton, h.2, left_at]
  constructor
  · rintro (⟨h1, h2⟩ | rfl)
    · exact ⟨h1, Or.inl h2⟩
    · exact ⟨hhas, Or.inr rfl⟩
  · rintro ⟨h1, h2 | rfl⟩
    · exact Or.inl ⟨h1, h2⟩
    · exact Or.inr rfl
/-- The row sorted. -/
def srt (l : List Int) : List Int := l.mergeSort fun x y => decide (x ≤ y)
theorem srt_len (l : List Int) : (srt l).length = l.length := List.length_mergeSort l
theorem merge_sorted (l : List Int) : (srt l).Pairwise (fun x y => decide (x ≤ y) = true) :=
  List.pairwise_mergeSort (fun a b c h1 h2 => by simp at *; omega) (fun a b => by simp; omega) l
theorem srt_up (l : List Int) (h : l.Nodup) : Up (srt l) := by
  have h1 := merge_sorted l
  have h2 : (srt l).Nodup := (List.mergeSort_perm l _).nodup_iff.2 h
  unfold Up
  have h3 := h1.and h2
  refine List.Pairwise.imp ?_ h3
  rintro a b ⟨h4, h5⟩
  simp at h4
  have : a ≠ b := h5
  omega
theorem srt_mem (l : List Int) (x : Int) : x ∈ srt l ↔ x ∈ l := List.mem_mergeSort
theorem Coll.sorted {D : DataW Unit} {L : List Int} {left : Lit → Bool} {out : List Int} (h : Coll D left out) (hL : Up L) (hD : ∀ x, has D (.int .i64 x) = true ↔ x ∈ L) (hl : ∀ kl, left kl = false) : srt out = L := by
  refine up_ext _ _ (srt_up out h.1) hL fun m => ?_
  rw [srt_mem, h.2, hD, hl]
  simp

section
variable {P : Program} {k : TypeId} {R : Value → Option (DataW Unit × List MemPlace)} {w w' : World} {b r n : Nat} {D : DataW Unit}
theorem ownsMap_below (h : w.ownsMap P k R b n D) (hb : Below w.heap.size w w') : w'.ownsMap P k R b n D := by
  have hlt := h.lt
  obtain ⟨es, clock, h1, h2⟩ := h
  exact ⟨es, clock, (hb.block b hlt).trans h1, h2⟩
theorem ranges_below {left : Lit → Bool} {cnt B : Nat} (h : w.ranges P k R b r n D left cnt) (hb : Below B w w') (h1 : b < B) (h2 : r < B) : w'.ranges P k R b r n D left cnt := by
  obtain ⟨es, clock, since, seen, c0, e1, e2, e3, e4, e5, e6⟩ := h
  exact ⟨es, clock, since, seen, c0, (hb.block b h1).trans e1, e2, e3, e4, (hb.block r h2).trans e5, e6⟩
theorem Own.turned {B e : Nat} {v : Value} {xs : List Value} (h : Own w B e v xs) (hg : w.grownBy w' (some r)) (hr : r < B) : Own w' B e v xs := by
  obtain ⟨h1, h2⟩ := h
  refine ⟨h1, ?_⟩
  rcases h2 with h2 | ⟨g, cap, cur, hv, hgB, hh, rest⟩
  · exact Or.inl h2
  · exact Or.inr ⟨g, cap, cur, hv, hgB, (hg.block g (lt_of_block hh) (fun e => by have := Option.some.inj e; omega)).trans hh, rest⟩

variable {base e : Nat} {q : IntKind}
theorem ownsInts_below {v : Value} {zs : List Int} (h : w.ownsInts base e q v zs) (hb : Below w.heap.size w w') : w'.ownsInts base e q v zs := ⟨owns_below' h.1 hb, h.2⟩
theorem groups_below (h : w.ownsGroups P k base e q b n D) (hb : Below w.heap.size w w') : w'.ownsGroups P k base e q b n D := by
  obtain ⟨es, clock, hbk, F, hs, rfl, hbb, hlen, hap⟩ := h
  have hblt : b < w.heap.size := (Array.getElem?_eq_some_iff.1 hbk).1
  have hst : ∀ x ∈ es.toList, ∀ z, rowElem (H := Unit) w base e q x.val = some z → rowElem w' base e q x.val = some z := fun x hx z hz => by
    obtain ⟨zs, ho, rfl⟩ := rowElem_inv hz
    exact rowElem_mk (ownsInts_below ho hb)
  obtain ⟨F1, hmap, _⟩ := F.stay hst
  refine ⟨es, clock, (hb.block b hblt).trans hbk, F1, hs, by rw [hmap], hbb, fun x hx zs ho => ?_, hap⟩
  obtain ⟨y, hy⟩ := F.reads x hx
  obtain ⟨z, hz, _⟩ := Go.WideElems.rd_val hy
  obtain ⟨zs0, ho0, _⟩ := rowElem_inv hz
  rw [ho.unique (ownsInts_below ho0 hb)]
  exact hlen x hx zs0 ho0
/-- As a map that is only read: the elements' reader is that of the world in which they stand. -/
theorem groups_map (h : w.ownsGroups P k base e q b n D) : w.ownsMap P k (rowElem (H := Unit) w base e q) b n D := by
  obtain ⟨es, clock, hbk, F, hs, hD, _⟩ := h
  exact ⟨es, clock, hbk, F, hs, hD⟩
theorem groups_mono {m : Nat} (h : w.ownsGroups P k base e q b n D) (hm : n ≤ m) : w.ownsGroups P k base e q b m D := by
  obtain ⟨es, clock, hbk, F, hs, hD, hbb, hlen, hap⟩ := h
  exact ⟨es, clock, hbk, F, Nat.le_trans hs hm, hD, hbb, fun x hx zs ho => Nat.le_trans (hlen x hx zs ho) hm, hap⟩
/-- A group's slice, to be read. -/
theorem ownsInts_sl {v : Value} {zs : List Int} (h : w.ownsInts base 3 .i64 v zs) : ∃ A n c, v = .slice A n c ∧ Sl w A n c (numCells zs) ∧ ∀ ad, A = some ad → base ≤ ad.block := by
  have ho : Own w base 3 v (numCells zs) := by
    unfold Own
    rw [num_len]
    exact h.1
  obtain ⟨A, m, c, rfl, _, hs, hlo⟩ := ho.i
  exact ⟨A, m, c, rfl, hs, hlo⟩
end

/-- The lists of offsets so far. -/
theorem offs_step (d : List UInt8) (i : Nat) (m : Int) (h : tri d i = m) (y : Int) : offsN d y (i + 1) = if y = m then offsN d m i ++ [(i : Int)] else offsN d y i := by
  rw [offsN_succ, h]
  by_cases hy : y = m
  · subst hy; simp
  · rw [if_neg (fun e => hy e.symm), if_neg hy, List.append_nil]
theorem offs_mem (d : List UInt8) (x : Int) : offs d x ≠ [] ↔ x ∈ ofS d := by
  rw [mem_of]
  constructor
  · intro h
    obtain ⟨y, hy⟩ := List.exists_mem_of_ne_nil _ h
    obtain ⟨i, hi, e, _⟩ := (mem_offsN d x _ y).1 hy
    exact ⟨i, by omega, e⟩
  · rintro ⟨i, hi, e⟩ h
    have : (i : Int) ∈ offs d x := (mem_offsN d x _ _).2 ⟨i, by omega, e, rfl⟩
    rw [h] at this
    cases this

end Go.Proofs.Ytdneoeiggebijaa
