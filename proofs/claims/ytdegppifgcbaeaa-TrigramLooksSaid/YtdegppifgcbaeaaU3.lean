/- Walks of layer 6's program: slices.Clone and slices.Sort on slices of ints, as contracts on rows of the call's own. -/
import Derived.Test.YtdegppifgcbaeaaShelf
import Derived.Test.YtdegppifgcbaeaaGk
import Derived.Sort.OwnSortedInts
import Derived.Lib.OwnBridge
namespace Go.Proofs.Ytdegppifgcbaeaa
open Go.RowKit Go.Shelf Go.Sort

theorem num_map (l : List Int) : numCells l = l.map (Value.int .i64) := rfl
theorem add_at (g o j : Nat) : (⟨g, o, none⟩ : Addr).add j = ⟨g, o + j, none⟩ := by
  unfold Addr.add
  split
  · rename_i h; rw [h]; rfl
  · rfl
theorem addr_plain {W : World} {ad : Addr} {v : Value} (h : W.cell? (ad.add 0) = some v) : ∃ g o, ad = ⟨g, o, none⟩ := by
  obtain ⟨g, o, sp⟩ := ad
  have hsp : sp = none := by simpa [Addr.add] using World.cell?_spot h
  subst hsp
  exact ⟨g, o, rfl⟩
/-- A slice of ints that came in, in the shelf's words. -/
theorem Sl.shelf {w : World} {ad : Addr} {n c : Nat} {l : List Int} (h : Sl w (some ad) n c (numCells l)) (h0 : 0 < n) :
    ∃ g o, ad = ⟨g, o, none⟩ ∧ ∀ j, j < l.length → w.cell? ⟨g, o + j, none⟩ = some (.int .i64 (l.getD j 0)) := by
  have hlen := h.nlen
  obtain ⟨ad', z, e, hz, hc⟩ := num_cell h.reads h0
  cases e
  obtain ⟨g, o, rfl⟩ := addr_plain hc
  refine ⟨g, o, rfl, fun j hj => ?_⟩
  obtain ⟨ad', z, e, hz, hc⟩ := num_cell h.reads (show j < n by omega)
  cases e
  rw [List.getD_eq_getElem?_getD, hz]
  rw [add_at] at hc
  exact hc

/-- A slice of the call's own, of the elements, for slices.Clone's argument. -/
theorem clone31 (A : Option Addr) (n c : Nat) (l : List Int) (w : World) (h : Sl w A n c (numCells l)) (hn : n ≤ 17592186044416) :
    Calls Try.prog 31 #[.slice A n c] w (GotI w l) := by
  have hlen := h.nlen
  have own : ∀ {e : Ending} {v : Value} {w' : World}, e = .returned v → w'.ownsRow w.heap.size 3 1 v n (l.map (Value.int .i64)) → Below w.heap.size w w' → GotI w l e w' := by
    intro e v w' he ho hb
    refine GrewI.got ⟨v, he, ?_, hb⟩
    unfold Own
    rw [num_len, hlen]
    exact ho
  cases A with
  | none =>
    have hc := h.2.2.1 rfl
    have hnc := h.1
    obtain rfl : n = 0 := by omega
    obtain rfl : l = [] := List.eq_nil_of_length_eq_zero hlen
    refine (Try.slices_Clone_int_nil 0 c w).mono ?_
    rintro e w' ⟨rfl, rfl⟩
    exact own rfl (World.ownsRow_nil _ _ _ _) (Below.refl _ _)
  | some ad =>
    by_cases h0 : n = 0
    · subst h0
      obtain rfl : l = [] := List.eq_nil_of_length_eq_zero hlen
      refine (Try.slices_Clone_int_zero ad c w).mono ?_
      rintro e w' ⟨v, rfl, ho, hv, hb⟩
      exact own rfl ho hb
    · obtain ⟨g, o, rfl, hc⟩ := h.shelf (by omega)
      refine (Try.slices_Clone_int g o n c l w (by omega) (by omega) hc).mono ?_
      rintro e w' ⟨v, rfl, ho, hv, hb⟩
      rw [List.take_of_length_le (by omega)] at ho
      exact own rfl ho hb

theorem sort35 (v : Value) (l : List Int) (B : Nat) (w : World) (h : Own w B 3 v (numCells l)) (hn : l.length ≤ 1000000) :
    Calls Try.prog 35 #[v] w fun e w' => e = .returned (.tuple #[]) ∧ Own w' B 3 v (numCells (srt l)) ∧ Below B w w' := by
  obtain ⟨n, hl⟩ : ∃ n, l.length = n := ⟨_, rfl⟩
  unfold Own at h ⊢
  rw [num_len, hl, num_map] at h
  rw [num_len, srt_len, hl, num_map]
  rcases h.2 with ⟨rfl, h0⟩ | ⟨g, cap, cur, rfl, hbase, hb, h1, h2, h3, h4⟩
  · obtain rfl : l = [] := List.eq_nil_of_length_eq_zero (by omega)
    refine (Try.slices_Sort_int_none none 0 w).mono ?_
    rintro e w' ⟨rfl, rfl⟩
    have e : srt [] = [] := List.eq_nil_of_length_eq_zero (srt_len [])
    refine ⟨rfl, ?_, Below.refl _ _⟩
    rw [e, ← hl]
    exact World.ownsRow_nil _ _ _ _
  · subst hl
    have hlt : g < w.heap.size := (Array.getElem?_eq_some_iff.1 hb).1
    have hH : Holds (Value.int .i64) w g 0 l.toArray := holds_of_blockI hb (by simpa using h4)
    refine (Try.slices_Sort_int g 0 cap l w hH hlt (by omega)).mono ?_
    rintro e w' ⟨rfl, k, os, rfl⟩
    exact ⟨rfl, ownsRow_sortedI (n := k) (os := os) (ts := srt l) (srt_len l) hbase hb h1 h2 h3, (Below.refl B w).grown (grownBy_sortedI _) (by omega) (fun j hj => by cases hj; exact hbase)⟩

end Go.Proofs.Ytdegppifgcbaeaa
