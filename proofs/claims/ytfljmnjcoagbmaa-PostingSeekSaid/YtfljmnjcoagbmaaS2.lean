/- Walks of layer 5's program: the elements sorted, each once (set). -/
import Derived.Test.YtfljmnjcoagbmaaShelf
import Derived.Test.YtfljmnjcoagbmaaSu
import Derived.Test.YtfljmnjcoagbmaaS1
import Derived.Sort.OwnSortedInts
import Derived.Lib.OwnBridge
namespace Go.Proofs.Ytfljmnjcoagbmaa
open Go.RowKit Go.Shelf Go.Sort

theorem num_map (l : List Int) : numCells l = l.map (Value.int .i64) := rfl
theorem add_at (g o j : Nat) : (⟨g, o, none⟩ : Addr).add j = ⟨g, o + j, none⟩ := by
  unfold Addr.add
  split
  · rename_i h; rw [h]; rfl
  · rfl
theorem addr_plain {W : World} {ad : Addr} {v : Value} (h : W.cell? (ad.add 0) = some v) : ∃ g o, ad = ⟨g, o, none⟩ := by
  obtain ⟨g, o, sp⟩ := ad
  have hsp : sp = none := by simpa [Addr.add] using World.cell?_spot h
  subst hsp
  exact ⟨g, o, rfl⟩
/-- A slice of ints that came in, in the shelf's words. -/
theorem Sl.shelf {w : World} {ad : Addr} {n c : Nat} {l : List Int} (h : Sl w (some ad) n c (numCells l)) (h0 : 0 < n) :
    ∃ g o, ad = ⟨g, o, none⟩ ∧ ∀ j, j < l.length → w.cell? ⟨g, o + j, none⟩ = some (.int .i64 (l.getD j 0)) := by
  have hlen := h.nlen
  obtain ⟨ad', z, e, hz, hc⟩ := num_cell h.reads h0
  cases e
  obtain ⟨g, o, rfl⟩ := addr_plain hc
  refine ⟨g, o, rfl, fun j hj => ?_⟩
  obtain ⟨ad', z, e, hz, hc⟩ := num_cell h.reads (show j < n by omega)
  cases e
  rw [List.getD_eq_getElem?_getD, hz]
  rw [add_at] at hc
  exact hc

/-- A slice of the call's own, of the elements, nil or not, for slices.Clone's argument. -/
theorem clone52 (A : Option Addr) (n c : Nat) (l : List Int) (w : World) (h : Sl w A n c (numCells l)) (hn : n ≤ 1000000) :
    Calls Try.prog 52 #[.slice A n c] w fun e w' => ∃ v, e = .returned v ∧ w'.ownsRow w.heap.size 3 1 v n (l.map (Value.int .i64)) ∧ (v = .slice none 0 0 → n = 0) ∧ Below w.heap.size w w' := by
  have hlen := h.nlen
  cases A with
  | none =>
    have hc := h.2.2.1 rfl
    have hnc := h.1
    obtain rfl : n = 0 := by omega
    obtain rfl : l = [] := List.eq_nil_of_length_eq_zero hlen
    refine (Try.slices_Clone_int_nil 0 c w).mono ?_
    rintro e w' ⟨rfl, rfl⟩
    exact ⟨_, rfl, World.ownsRow_nil _ _ _ _, fun _ => rfl, Below.refl _ _⟩
  | some ad =>
    by_cases h0 : n = 0
    · subst h0
      obtain rfl : l = [] := List.eq_nil_of_length_eq_zero hlen
      refine (Try.slices_Clone_int_zero ad c w).mono ?_
      rintro e w' ⟨v, rfl, ho, hv, hb⟩
      exact ⟨v, rfl, ho, fun h => absurd h hv, hb⟩
    · obtain ⟨g, o, rfl, hc⟩ := h.shelf (by omega)
      refine (Try.slices_Clone_int g o n c l w (by omega) (by omega) hc).mono ?_
      rintro e w' ⟨v, rfl, ho, hv, hb⟩
      rw [List.take_of_length_le (by omega)] at ho
      exact ⟨v, rfl, ho, fun h => absurd h hv, hb⟩

/-- The row sorted. -/
def srt (l : List Int) : List Int := l.mergeSort fun x y => decide (x ≤ y)
theorem srt_len (l : List Int) : (srt l).length = l.length := List.length_mergeSort l

theorem sort38 (v : Value) (n : Nat) (l : List Int) (B : Nat) (w : World) (h : w.ownsRow B 3 1 v n (l.map (Value.int .i64))) (hn : n ≤ 1000000) :
    Calls Try.prog 38 #[v] w fun e w' => e = .returned (.tuple #[]) ∧ w'.ownsRow B 3 1 v n ((srt l).map (Value.int .i64)) ∧ Below B w w' := by
  have hl : l.length = n := by simpa using h.1
  rcases h.2 with ⟨rfl, rfl⟩ | ⟨g, cap, cur, rfl, hbase, hb, h1, h2, h3, h4⟩
  · obtain rfl : l = [] := List.eq_nil_of_length_eq_zero hl
    refine (Try.slices_Sort_int_none none 0 w).mono ?_
    rintro e w' ⟨rfl, rfl⟩
    have e : srt [] = [] := List.eq_nil_of_length_eq_zero (srt_len [])
    exact ⟨rfl, by rw [e]; exact World.ownsRow_nil _ _ _ _, Below.refl _ _⟩
  · subst hl
    have hlt : g < w.heap.size := (Array.getElem?_eq_some_iff.1 hb).1
    have hH : Holds (Value.int .i64) w g 0 l.toArray := holds_of_blockI hb (by simpa using h4)
    refine (Try.slices_Sort_int g 0 cap l w hH hlt (by omega)).mono ?_
    rintro e w' ⟨rfl, k, os, rfl⟩
    exact ⟨rfl, ownsRow_sortedI (n := k) (os := os) (ts := srt l) (srt_len l) hbase hb h1 h2 h3, (Below.refl B w).grown (grownBy_sortedI _) (by omega) (fun j hj => by cases hj; exact hbase)⟩

theorem compact53 (v : Value) (n : Nat) (l : List Int) (B : Nat) (w : World) (h : w.ownsRow B 3 1 v n (l.map (Value.int .i64))) (hn : n ≤ 1000000) :
    Calls Try.prog 53 #[v] w fun e w' => ∃ v', e = .returned v' ∧ w'.ownsRow B 3 1 v' (Lib.compact l).length ((Lib.compact l).map (Value.int .i64)) ∧ Below B w w' := by
  have hl : l.length = n := by simpa using h.1
  rcases h.2 with ⟨rfl, rfl⟩ | ⟨g, cap, cur, rfl, hbase, hb, h1, h2, h3, h4⟩
  · obtain rfl : l = [] := List.eq_nil_of_length_eq_zero hl
    refine (Try.slices_Compact_int_empty none 0 w).mono ?_
    rintro e w' ⟨rfl, rfl⟩
    exact ⟨_, rfl, World.ownsRow_nil _ _ _ _, Below.refl _ _⟩
  · subst hl
    have hH : Holds (Value.int .i64) w g 0 l.toArray := holds_of_blockI hb (by simpa using h4)
    have hle := Lib.compact_length_le l
    refine (Try.slices_Compact_int g 0 cap l w hH (by omega) h1).mono ?_
    rintro e w' ⟨rfl, q, rfl⟩
    have hc := Lib.ownsRow_putRow (q := q) (k := (Lib.compact l).length) (ys := Lib.compact l ++ List.replicate (l.length - (Lib.compact l).length) 0) h (by simp; omega) (by omega)
    rw [List.take_left] at hc
    exact ⟨_, rfl, hc, Lib.below_putRow (Below.refl B w) hbase⟩

set_option maxRecDepth 20000 in
set_option maxHeartbeats 1600000 in
theorem set37 (A : Option Addr) (n c : Nat) (l : List Int) (w : World) (h : Sl w A n c (numCells l)) (hn : n ≤ 1000000) :
    Calls Try.prog 37 #[.slice A n c] w (GrewI w (sortU l)) := by
  have H := hide h
  clear h
  go_enter Try.func37, Try.ntmps37
  go_wp2_with fail
  refine (clone52 A n c l _ H.out hn).mono ?_
  rintro e w1 ⟨v1, rfl, ho1, -, hb1⟩
  have O1 := hide ho1
  have B1 := hide hb1
  clear ho1 hb1
  go_wp2_with fail
  refine (sort38 v1 n l _ _ O1.out hn).mono ?_
  rintro e w2 ⟨rfl, ho2, hb2⟩
  have O2 := hide ho2
  have B2 := hide (B1.out.trans hb2)
  clear ho2 hb2 O1 B1
  go_wp2_with fail
  refine (compact53 v1 n (srt l) _ _ O2.out hn).mono ?_
  rintro e w3 ⟨v3, rfl, ho3, hb3⟩
  have O3 := hide ho3
  have B3 := hide (B2.out.trans hb3)
  clear ho3 hb3 O2 B2
  go_wp2
  go_ret
  refine ⟨v3, rfl, ?_, B3.out⟩
  have := O3.out
  unfold Own
  rw [num_len]
  exact this

end Go.Proofs.Ytfljmnjcoagbmaa
