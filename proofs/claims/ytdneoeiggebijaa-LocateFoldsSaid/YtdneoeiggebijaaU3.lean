/- Walks of layer 6's program: slices.Clone and slices.Sort on slices of ints, as contracts on rows of the call's own. -/
import Derived.Test.YtdneoeiggebijaaShelf
import Derived.Test.YtdneoeiggebijaaGk
import Derived.Sort.OwnSortedInts
import Derived.Lib.OwnBridge
namespace Go.Proofs.Ytdneoeiggebijaa
open Go.RowKit Go.Shelf Go.Sort

theorem num_map (l : List Int) : numCells l = l.map (Value.int .i64) := rfl
theorem add_at (g o j : Nat) : (⟨g, o, none⟩ : Addr).add j = ⟨g, o + j, none⟩ := by
  unfold Addr.add
  split
  · rename_i h; rw [h]; rfl
  · rfl
theorem addr_plain {W : World} {ad : Addr} {v : Value} (h : W.cell? (ad.add 0) = some v) : ∃ g o, ad = ⟨g, o, none⟩ := by
  obtain ⟨g, o, sp⟩ := ad
  have hsp : sp = none := by simpa [Addr.add] using World.cell?_spot h
  subst hsp
  exact ⟨g, o, rfl⟩
/-- A slice of ints that came in, in the shelf's words. -/
theorem Sl.shelf {w : World} {ad : Addr} {n c : Nat} {l : List Int} (h : Sl w (some ad) n c (numCells l)) (h0 : 0 < n) :
    ∃ g o, ad = ⟨g, o, none⟩ ∧ ∀ j, j < l.length → w.cell? ⟨g, o + j, none⟩ = some (.int .i64 (l.getD j 0)) := by
  have hlen := h.nlen
  obtain ⟨ad', z, e, hz, hc⟩ := num_cell h.reads h0
  cases e
  obtain ⟨g, o, rfl⟩ := addr_plain hc
  refine ⟨g, o, rfl, fun j hj => ?_⟩
  obtain ⟨ad', z, e, hz, hc⟩ := num_cell h.reads (show j < n by omega)
  cases e
  rw [List.getD_eq_getElem?_getD, hz]
  rw [add_at] at hc
  exact hc

theorem sort44 (v : Value) (l : List Int) (B : Nat) (w : World) (h : Own w B 3 v (numCells l)) (hn : l.length ≤ 1000000) :
    Calls Try.prog 44 #[v] w fun e w' => e = .returned (.tuple #[]) ∧ Own w' B 3 v (numCells (srt l)) ∧ Below B w w' := by
  obtain ⟨n, hl⟩ : ∃ n, l.length = n := ⟨_, rfl⟩
  unfold Own at h ⊢
  rw [num_len, hl, num_map] at h
  rw [num_len, srt_len, hl, num_map]
  rcases h.2 with ⟨rfl, h0⟩ | ⟨g, cap, cur, rfl, hbase, hb, h1, h2, h3, h4⟩
  · obtain rfl : l = [] := List.eq_nil_of_length_eq_zero (by omega)
    refine (Try.slices_Sort_int_none none 0 w).mono ?_
    rintro e w' ⟨rfl, rfl⟩
    have e : srt [] = [] := List.eq_nil_of_length_eq_zero (srt_len [])
    refine ⟨rfl, ?_, Below.refl _ _⟩
    rw [e, ← hl]
    exact World.ownsRow_nil _ _ _ _
  · subst hl
    have hlt : g < w.heap.size := (Array.getElem?_eq_some_iff.1 hb).1
    have hH : Holds (Value.int .i64) w g 0 l.toArray := holds_of_blockI hb (by simpa using h4)
    refine (Try.slices_Sort_int g 0 cap l w hH hlt (by omega)).mono ?_
    rintro e w' ⟨rfl, k, os, rfl⟩
    exact ⟨rfl, ownsRow_sortedI (n := k) (os := os) (ts := srt l) (srt_len l) hbase hb h1 h2 h3, (Below.refl B w).grown (grownBy_sortedI _) (by omega) (fun j hj => by cases hj; exact hbase)⟩

end Go.Proofs.Ytdneoeiggebijaa

