/- Layer 9: O7, O8. -/
import Derived.Test.YtkghbhcjgogaeaaDoorGq
import Derived.Deep.RegionWith
/-! ### O7 -/
namespace Go.Proofs.YtkghbhcjgogaeaaDoor
open Go.RowKit

theorem row1_lit (w : World) : Row1 ((w.alloc (.cells #[.int .i64 0, .int .u64 0, .int .u64 0, .int .u64 0, .int .u64 0] 84)).drew) w.heap.size 0 := by
  have h := five_new w (.int .i64 0) (.int .u64 0) (.int .u64 0) (.int .u64 0) (.int .u64 0) 84
  refine ⟨h.1, fun j hj => ?_⟩
  obtain ⟨_, h0, h1, h2, h3, h4⟩ := h
  match j, hj with
  | 0, _ => exact h0
  | 1, _ => exact h1
  | 2, _ => exact h2
  | 3, _ => exact h3
  | 4, _ => exact h4
theorem undrew {B : Nat} {w w' : World} (h : Below B w.drew w') : Below B w w' := ⟨h.os, h.tape, h.output, h.size, h.block⟩
theorem frz6 {Wd w6 : World} {o : Obj} {B : Nat} (hb : Below (Wd.alloc o).drew.heap.size (Wd.alloc o).drew w6) (hB : B < Wd.heap.size) (hf : Wd.frozen? ⟨B, 0, none⟩ = false) : w6.frozen? ⟨B, 0, none⟩ = false := by
  refine (hb.frozen (p := ⟨B, 0, none⟩) (by show B < _; simp; omega)).trans ?_
  exact ((bel_alloc Wd o).frozen (p := ⟨B, 0, none⟩) hB).trans hf
set_option maxRecDepth 100000 in
set_option maxHeartbeats 8000000 in
theorem add76_zero (n0 B b r c : Nat) (W : World) (hb : Box n0 W B (.slice none 0 0) 0) (hn0 : n0 ≤ W.heap.size) (hb0 : b ≠ 0) (hb6 : b < 2305843009213693952) (hr : Row1 W r b) (hc : 1 ≤ c ∧ c ≤ 9223372036854775807) :
    Calls Tryd.prog 76 #[.pointer (some ⟨B, 0, none⟩), .agg #[.slice (some ⟨r, 0, none⟩) 1 c]] W (AddV n0 W B (.slice none 0 0) 0 b) := by
  obtain ⟨i0, hi, hz0, hz1, hz2⟩ := info_parts info84
  have hBlt := hb.lt
  have HB := hide hb
  have HR := hide hr
  have Hb6 := hide hb6
  have Hb0 := hide hb0
  clear hb hr hb6 hb0
  go_enter Tryd.func76, Tryd.ntmps76
  go_wp2
  obtain ⟨W3, hW3⟩ : ∃ W3, ((W.alloc (.cells #[.slice (some ⟨r, 0, none⟩) 1 c] 52)).alloc (.cells #[.slice none 0 0] 52)).alloc (.cells #[.slice none 0 0] 52) = W3 := ⟨_, rfl⟩
  have h3 : W3.heap.size = W.heap.size + 3 := by rw [← hW3]; simp
  have b3 : Below W.heap.size W W3 := by rw [← hW3]; exact bnew (bnew (bnew (Below.refl _ _) _) _) _
  have k1 : W3.heap[W.heap.size + 1]? = some (.cells #[.slice none 0 0] 52 (0, 0)) := by
    rw [← hW3]
    have := heap_alloc_new (W.alloc (.cells #[.slice (some ⟨r, 0, none⟩) 1 c] 52)) (.cells #[.slice none 0 0] 52)
    rw [World.size_alloc] at this
    exact (Below.heap_alloc _ _ _ (by simp)).trans this
  have k2 : W3.heap[W.heap.size + 1 + 1]? = some (.cells #[.slice none 0 0] 52 (0, 0)) := by
    rw [← hW3]
    have := heap_alloc_new ((W.alloc (.cells #[.slice (some ⟨r, 0, none⟩) 1 c] 52)).alloc (.cells #[.slice none 0 0] 52)) (.cells #[.slice none 0 0] 52)
    rw [World.size_alloc, World.size_alloc] at this
    exact this
  rw [hW3]
  clear hW3
  have K1 := hide k1
  have K2 := hide k2
  have H3 := hide h3
  have B3 := hide b3
  have Hn := hide hc
  clear k1 k2 h3 b3 hc
  go_loopw [15] (fun y wr => (y = .int .i64 0 ∧ wr = W3) ∨ (y = .int .i64 1 ∧ ∃ g cap u n cu, W.heap.size + 4 ≤ g ∧ wr.heap[B]? = some (.cells #[.slice (some ⟨g, 0, none⟩) 1 cap] 52 (0, 0)) ∧ wr.ownsRow n0 84 5 (.slice (some ⟨g, 0, none⟩) 1 cap) 1 (rowC (0 ||| b)) ∧ Turns (fun k => k = B ∨ k = W.heap.size + 1 + 1) W3 wr ∧
    wr.heap[W.heap.size + 1 + 1]? = some (.cells #[.slice u n cu] 52 (0, 0)) ∧ SetV wr (.slice u n cu) (diffN b 0) ∧ (∀ k, (Value.slice u n cu).ownBlock = some k → W.heap.size + 3 ≤ k))) (fun y _ => 1 - (intOf y).toNat)
  case atStart => exact Or.inl ⟨rfl, rfl⟩
  case round =>
    rcases hrel with ⟨rfl, rfl⟩ | ⟨rfl, g, cap, u, n, cu, hgl, hbx, ho, ht, q2, hsv, hfar⟩
    · obtain ⟨w3, hw3⟩ : ∃ w3, w3 = wr := ⟨wr, rfl⟩
      subst hw3
      obtain ⟨_, t0, t1, t2, t3, t4⟩ := (HR.out.below B3.out).five
      go_wp2
      obtain ⟨W4, hW4⟩ : ∃ W4, w3.alloc (.cells #[.int .i64 0, .int .u64 (b : Int), .int .u64 0, .int .u64 0, .int .u64 0] 84) = W4 := ⟨_, rfl⟩
      have b4 : Below w3.heap.size w3 W4 := by rw [← hW4]; exact bnew (Below.refl _ _) _
      have h4 : W4.heap.size = w3.heap.size + 1 := by rw [← hW4]; simp
      have row4 : W4.heap[w3.heap.size]? = some (.cells (rowC b).toArray 84 (0, 0)) := by rw [← hW4]; exact heap_alloc_new _ _
      rw [hW4]
      have cB : W4.cell? ⟨B, 0, none⟩ = some (.slice none 0 0) := cell_of_one (HB.out.below (bgo B3.out b4)).2.1
      have fB : W4.frozen? ⟨B, 0, none⟩ = false := free_of_one (HB.out.below (bgo B3.out b4)).2.1
      obtain ⟨⟨_, r0, r1, r2, r3, r4⟩, _⟩ := rowA_five row4
      have B4 := hide b4
      have H4 := hide h4
      have R4 := hide row4
      have HE := hide (fun j => (show (W4.drewN j).cell? ⟨B, 0, none⟩ = some (.slice none 0 0) from cB))
      clear hW4 b4 h4 row4 t0 t1 t2 t3 t4
      go_quiet ((go_at_call 88; exact quiet_left (search88_none _ _ _)))
      obtain ⟨Wd, hWd⟩ : ∃ Wd, W4.drewN nq = Wd := ⟨_, rfl⟩
      rw [hWd]
      have bd : Below W4.heap.size W4 Wd := by rw [← hWd]; exact Drawn.below ⟨nq, rfl⟩ _
      have hdz : Wd.heap.size = W4.heap.size := by rw [← hWd]; rfl
      have cBd : Wd.cell? ⟨B, 0, none⟩ = some (.slice none 0 0) := by rw [← hWd]; exact cB
      have fBd : Wd.frozen? ⟨B, 0, none⟩ = false := by rw [← hWd]; exact fB
      have r0d : Wd.cell? ⟨w3.heap.size, 0, none⟩ = some (.int .i64 0) := by rw [← hWd]; exact r0
      have Bd := hide bd
      have Hdz := hide hdz
      have hBd : B < Wd.heap.size := by rw [hdz, H4.out, H3.out]; omega
      clear hWd bd hdz cB fB r0 r1 r2 r3 r4
      go_wp2
      go_region_with (go_at_call 89; refine (insert89 _ 0 _ (row1_lit _)).mono ?_; rintro e w6 ⟨g, cap, rfl, ho6, hb6⟩; have hcB6 := (hb6.cell (p := ⟨B, 0, none⟩) (by simp; omega)).trans ((World.cell?_alloc_lt Wd _ ⟨B, 0, none⟩ hBd).trans cBd); have hfB6 := frz6 hb6 hBd fBd)
      all_goals
        have H6 := hide hb6
        have O6b := hide ho6
        have hgl : W.heap.size + 4 ≤ g := by
          have := (World.ownsRow.lt ho6 g rfl).1
          simp at this
          rw [Hdz.out, H4.out, H3.out] at this
          omega
        have hgB : g ≠ B := by omega
        have h6s := hb6.size
        simp at h6s
        have hBw : B ≠ w3.heap.size := by rw [H3.out]; omega
        obtain ⟨w5, hw5⟩ : ∃ w5, w6.setCell ⟨B, 0, none⟩ (.slice (some ⟨g, 0, none⟩) 1 cap) = w5 := ⟨_, rfl⟩
        have key : ∀ k, k < Wd.heap.size → k ≠ B → w5.heap[k]? = Wd.heap[k]? := fun k hk hne => by
          rw [← hw5]
          exact (Below.heap_setCell w6 ⟨B, 0, none⟩ _ k hne).trans ((hb6.block k (by simp; omega)).trans (Below.heap_alloc Wd _ k hk))
        have Bx5 := hide (show w5.heap[B]? = some (.cells #[.slice (some ⟨g, 0, none⟩) 1 cap] 52 (0, 0)) by
          rw [← hw5]
          exact one_setCell ((hb6.block B (by simp; omega)).trans ((Below.heap_alloc Wd _ B hBd).trans ((Bd.out.block B (by rw [H4.out, H3.out]; omega)).trans (HB.out.below (bgo B3.out B4.out)).2.1))))
        have cB5 := cell_of_one Bx5.out
        have R5 := hide ((key w3.heap.size (by rw [Hdz.out, H4.out]; omega) (fun e => hBw e.symm)).trans ((Bd.out.block _ (by rw [H4.out]; omega)).trans R4.out))
        obtain ⟨⟨_, r0, r1, r2, r3, r4⟩, _⟩ := rowA_five R5.out
        have O5 := hide (show w5.ownsRow n0 84 5 (.slice (some ⟨g, 0, none⟩) 1 cap) 1 (rowC 0) by
          rw [← hw5]
          exact ownsRow_setCell_other (a := ⟨B, 0, none⟩) (owns_mono O6b.out (by simp; rw [Hdz.out, H4.out, H3.out]; omega)) (fun e => hgB (Option.some.inj e)) _)
        have h56 : w5.heap.size = w6.heap.size := by rw [← hw5]; simp [World.setCell]
        have hlo : W.heap.size + 4 ≤ w5.heap.size := by rw [h56]; have := Hdz.out; have := H4.out; have := H3.out; omega
        have hBlt5 : B < w5.heap.size := by omega
        have B35 := hide (show Turns (fun k => k = B) w3 w5 by
          rw [← hw5]
          have b1 : Below w3.heap.size w3 w6 := bgo (bgo B4.out Bd.out) (bgo (bel_alloc Wd _) (undrew H6.out))
          exact (Turns.of_below b1).set fun _ => rfl)
        rw [hw5]
        have hglt : g < w5.heap.size := (World.ownsRow.lt O5.out g rfl).2
        have hB5lt : B < w5.heap.size := hBlt5
        clear hw5 key ho6 hb6 h56 hcB6 hfB6 cBd fBd r0d
        obtain ⟨N, hN⟩ : ∃ N, w5.heap.size + 1 = N := ⟨_, rfl⟩
        have hRB : w3.heap.size < w5.heap.size := by rw [H3.out]; omega
        have hgR : w3.heap.size ≠ g := by rw [H3.out]; omega
        have hBR : B ≠ g := fun e => hgB e.symm
        have HKs := hide (show ∀ X Y, ((X.cell? ⟨B, 0, none⟩ = some (.slice (some ⟨g, 0, none⟩) 1 cap) ∧ X.cell? ⟨w3.heap.size, 0, none⟩ = some (.int .i64 0) ∧ X.cell? ⟨w3.heap.size, 1, none⟩ = some (.int .u64 (b : Int)) ∧ X.cell? ⟨w3.heap.size, 2, none⟩ = some (.int .u64 0) ∧ X.cell? ⟨w3.heap.size, 3, none⟩ = some (.int .u64 0) ∧ X.cell? ⟨w3.heap.size, 4, none⟩ = some (.int .u64 0)) ∧ (X.heap.size ≤ N → Below w5.heap.size w5 X)) → Below X.heap.size X Y → (Y.cell? ⟨B, 0, none⟩ = some (.slice (some ⟨g, 0, none⟩) 1 cap) ∧ Y.cell? ⟨w3.heap.size, 0, none⟩ = some (.int .i64 0) ∧ Y.cell? ⟨w3.heap.size, 1, none⟩ = some (.int .u64 (b : Int)) ∧ Y.cell? ⟨w3.heap.size, 2, none⟩ = some (.int .u64 0) ∧ Y.cell? ⟨w3.heap.size, 3, none⟩ = some (.int .u64 0) ∧ Y.cell? ⟨w3.heap.size, 4, none⟩ = some (.int .u64 0)) ∧ (Y.heap.size ≤ N → Below w5.heap.size w5 Y) from fun X Y ⟨⟨c0, c1, c2, c3, c4, c5⟩, hX⟩ hb => by
          have key : ∀ p v, X.cell? p = some v → Y.cell? p = some v := fun p v h => (hb.cell (p := p) (World.block_lt_of_cell? _ _ h)).trans h
          exact ⟨⟨key _ _ c0, key _ _ c1, key _ _ c2, key _ _ c3, key _ _ c4, key _ _ c5⟩, fun hy => bgo (hX (by have := hb.size; omega)) hb⟩)
        have HKt := hide (show ∀ X Y, ((X.cell? ⟨B, 0, none⟩ = some (.slice (some ⟨g, 0, none⟩) 1 cap) ∧ X.cell? ⟨w3.heap.size, 0, none⟩ = some (.int .i64 0) ∧ X.cell? ⟨w3.heap.size, 1, none⟩ = some (.int .u64 (b : Int)) ∧ X.cell? ⟨w3.heap.size, 2, none⟩ = some (.int .u64 0) ∧ X.cell? ⟨w3.heap.size, 3, none⟩ = some (.int .u64 0) ∧ X.cell? ⟨w3.heap.size, 4, none⟩ = some (.int .u64 0)) ∧ (X.heap.size ≤ N → Below w5.heap.size w5 X)) → Turns (fun k => k = g) X Y → N < Y.heap.size → (Y.cell? ⟨B, 0, none⟩ = some (.slice (some ⟨g, 0, none⟩) 1 cap) ∧ Y.cell? ⟨w3.heap.size, 0, none⟩ = some (.int .i64 0) ∧ Y.cell? ⟨w3.heap.size, 1, none⟩ = some (.int .u64 (b : Int)) ∧ Y.cell? ⟨w3.heap.size, 2, none⟩ = some (.int .u64 0) ∧ Y.cell? ⟨w3.heap.size, 3, none⟩ = some (.int .u64 0) ∧ Y.cell? ⟨w3.heap.size, 4, none⟩ = some (.int .u64 0)) ∧ (Y.heap.size ≤ N → Below w5.heap.size w5 Y) from fun X Y ⟨⟨c0, c1, c2, c3, c4, c5⟩, hX⟩ ht hn => by
          have key : ∀ p v, p.block ≠ g → X.cell? p = some v → Y.cell? p = some v := fun p v hp h => (World.cell?_of_block (a := p) (ht.block _ (World.block_lt_of_cell? _ _ h) hp)).trans h
          exact ⟨⟨key ⟨B, 0, none⟩ _ hBR c0, key ⟨w3.heap.size, 0, none⟩ _ hgR c1, key ⟨w3.heap.size, 1, none⟩ _ hgR c2, key ⟨w3.heap.size, 2, none⟩ _ hgR c3, key ⟨w3.heap.size, 3, none⟩ _ hgR c4, key ⟨w3.heap.size, 4, none⟩ _ hgR c5⟩, fun hy => by omega⟩)
        have HS0 := hide (show (w5.drew.cell? ⟨B, 0, none⟩ = some (.slice (some ⟨g, 0, none⟩) 1 cap) ∧ w5.drew.cell? ⟨w3.heap.size, 0, none⟩ = some (.int .i64 0) ∧ w5.drew.cell? ⟨w3.heap.size, 1, none⟩ = some (.int .u64 (b : Int)) ∧ w5.drew.cell? ⟨w3.heap.size, 2, none⟩ = some (.int .u64 0) ∧ w5.drew.cell? ⟨w3.heap.size, 3, none⟩ = some (.int .u64 0) ∧ w5.drew.cell? ⟨w3.heap.size, 4, none⟩ = some (.int .u64 0)) ∧ (w5.drew.heap.size ≤ N → Below w5.heap.size w5 w5.drew) from ⟨⟨cB5, r0, r1, r2, r3, r4⟩, fun _ => bel_drew _⟩)
        have HC2 := hide (fun X (hs : (X.cell? ⟨B, 0, none⟩ = some (.slice (some ⟨g, 0, none⟩) 1 cap) ∧ X.cell? ⟨w3.heap.size, 0, none⟩ = some (.int .i64 0) ∧ X.cell? ⟨w3.heap.size, 1, none⟩ = some (.int .u64 (b : Int)) ∧ X.cell? ⟨w3.heap.size, 2, none⟩ = some (.int .u64 0) ∧ X.cell? ⟨w3.heap.size, 3, none⟩ = some (.int .u64 0) ∧ X.cell? ⟨w3.heap.size, 4, none⟩ = some (.int .u64 0)) ∧ (X.heap.size ≤ N → Below w5.heap.size w5 X)) (hn : X.heap.size ≤ N) (h5 : w5.heap.size ≤ X.heap.size) => (radd90 n0 g cap 0 b X (owns_below' O5.out (hs.2 hn)) (by decide) Hb6.out).mono (R' := fun e w' => e = .returned (.agg #[.int .i64 0, .int .u64 (diffN b 0 : Nat), .int .u64 0, .int .u64 0, .int .u64 0]) ∧ w'.ownsRow n0 84 5 (.slice (some ⟨g, 0, none⟩) 1 cap) 1 (rowC (0 ||| b)) ∧ Turns (fun k => k = g) X w' ∧ N < w'.heap.size) fun e w' ⟨he, h1, h2, h3⟩ => ⟨he, h1, h2, by omega⟩)
        have HS1 := hide (HKs.out w5.drew (w5.alloc (.cells #[.int .i64 0, .int .u64 0, .int .u64 0, .int .u64 0, .int .u64 0] 84)).drew HS0.out (by have := bel_alloc w5.drew (.cells #[.int .i64 0, .int .u64 0, .int .u64 0, .int .u64 0, .int .u64 0] 84); exact this))
        have HC3 := hide ((HC2.out _ HS1.out (by simp; omega) (by simp)).mono (R' := fun e w' => e = .returned (.agg #[.int .i64 0, .int .u64 (diffN b 0 : Nat), .int .u64 0, .int .u64 0, .int .u64 0]) ∧ w'.ownsRow n0 84 5 (.slice (some ⟨g, 0, none⟩) 1 cap) 1 (rowC (0 ||| b)) ∧ Turns (fun k => k = g) (w5.alloc (.cells #[.int .i64 0, .int .u64 0, .int .u64 0, .int .u64 0, .int .u64 0] 84)).drew w' ∧ N < w'.heap.size ∧
          FiveF w' w5.heap.size (.int .i64 0) (.int .u64 0) (.int .u64 0) (.int .u64 0) (.int .u64 0)) fun e w' ⟨he, h1, h2, h3⟩ => ⟨he, h1, h2, h3, rowA_five (x := 0) ((h2.block w5.heap.size (by simp) (by omega)).trans (heap_alloc_new w5 _))⟩)
        have HKp := hide (show ∀ X u0 u1 u2 u3 u4, ((X.cell? ⟨B, 0, none⟩ = some (.slice (some ⟨g, 0, none⟩) 1 cap) ∧ X.cell? ⟨w3.heap.size, 0, none⟩ = some (.int .i64 0) ∧ X.cell? ⟨w3.heap.size, 1, none⟩ = some (.int .u64 (b : Int)) ∧ X.cell? ⟨w3.heap.size, 2, none⟩ = some (.int .u64 0) ∧ X.cell? ⟨w3.heap.size, 3, none⟩ = some (.int .u64 0) ∧ X.cell? ⟨w3.heap.size, 4, none⟩ = some (.int .u64 0)) ∧ (X.heap.size ≤ N → Below w5.heap.size w5 X)) → N < X.heap.size → ((((((X.setCell ⟨w5.heap.size, 0, none⟩ u0).setCell ⟨w5.heap.size, 1, none⟩ u1).setCell ⟨w5.heap.size, 2, none⟩ u2).setCell ⟨w5.heap.size, 3, none⟩ u3).setCell ⟨w5.heap.size, 4, none⟩ u4).cell? ⟨B, 0, none⟩ = some (.slice (some ⟨g, 0, none⟩) 1 cap) ∧ (((((X.setCell ⟨w5.heap.size, 0, none⟩ u0).setCell ⟨w5.heap.size, 1, none⟩ u1).setCell ⟨w5.heap.size, 2, none⟩ u2).setCell ⟨w5.heap.size, 3, none⟩ u3).setCell ⟨w5.heap.size, 4, none⟩ u4).cell? ⟨w3.heap.size, 0, none⟩ = some (.int .i64 0) ∧ (((((X.setCell ⟨w5.heap.size, 0, none⟩ u0).setCell ⟨w5.heap.size, 1, none⟩ u1).setCell ⟨w5.heap.size, 2, none⟩ u2).setCell ⟨w5.heap.size, 3, none⟩ u3).setCell ⟨w5.heap.size, 4, none⟩ u4).cell? ⟨w3.heap.size, 1, none⟩ = some (.int .u64 (b : Int)) ∧ (((((X.setCell ⟨w5.heap.size, 0, none⟩ u0).setCell ⟨w5.heap.size, 1, none⟩ u1).setCell ⟨w5.heap.size, 2, none⟩ u2).setCell ⟨w5.heap.size, 3, none⟩ u3).setCell ⟨w5.heap.size, 4, none⟩ u4).cell? ⟨w3.heap.size, 2, none⟩ = some (.int .u64 0) ∧ (((((X.setCell ⟨w5.heap.size, 0, none⟩ u0).setCell ⟨w5.heap.size, 1, none⟩ u1).setCell ⟨w5.heap.size, 2, none⟩ u2).setCell ⟨w5.heap.size, 3, none⟩ u3).setCell ⟨w5.heap.size, 4, none⟩ u4).cell? ⟨w3.heap.size, 3, none⟩ = some (.int .u64 0) ∧ (((((X.setCell ⟨w5.heap.size, 0, none⟩ u0).setCell ⟨w5.heap.size, 1, none⟩ u1).setCell ⟨w5.heap.size, 2, none⟩ u2).setCell ⟨w5.heap.size, 3, none⟩ u3).setCell ⟨w5.heap.size, 4, none⟩ u4).cell? ⟨w3.heap.size, 4, none⟩ = some (.int .u64 0)) ∧ ((((((X.setCell ⟨w5.heap.size, 0, none⟩ u0).setCell ⟨w5.heap.size, 1, none⟩ u1).setCell ⟨w5.heap.size, 2, none⟩ u2).setCell ⟨w5.heap.size, 3, none⟩ u3).setCell ⟨w5.heap.size, 4, none⟩ u4).heap.size ≤ N → Below w5.heap.size w5 (((((X.setCell ⟨w5.heap.size, 0, none⟩ u0).setCell ⟨w5.heap.size, 1, none⟩ u1).setCell ⟨w5.heap.size, 2, none⟩ u2).setCell ⟨w5.heap.size, 3, none⟩ u3).setCell ⟨w5.heap.size, 4, none⟩ u4)) from fun X u0 u1 u2 u3 u4 ⟨⟨c0, c1, c2, c3, c4, c5⟩, hX⟩ hn => by
          have e1 : B ≠ w5.heap.size := by omega
          have e2 : w3.heap.size ≠ w5.heap.size := by omega
          exact ⟨⟨(put5_cell (p := ⟨B, 0, none⟩) e1).trans c0, (put5_cell (p := ⟨w3.heap.size, 0, none⟩) e2).trans c1, (put5_cell (p := ⟨w3.heap.size, 1, none⟩) e2).trans c2, (put5_cell (p := ⟨w3.heap.size, 2, none⟩) e2).trans c3, (put5_cell (p := ⟨w3.heap.size, 3, none⟩) e2).trans c4, (put5_cell (p := ⟨w3.heap.size, 4, none⟩) e2).trans c5⟩, fun hy => by simp [World.setCell] at hy; omega⟩)
        go_wp2
        go_region_held3 (fun w' => (w'.cell? ⟨B, 0, none⟩ = some (.slice (some ⟨g, 0, none⟩) 1 cap) ∧ w'.cell? ⟨w3.heap.size, 0, none⟩ = some (.int .i64 0) ∧ w'.cell? ⟨w3.heap.size, 1, none⟩ = some (.int .u64 (b : Int)) ∧ w'.cell? ⟨w3.heap.size, 2, none⟩ = some (.int .u64 0) ∧ w'.cell? ⟨w3.heap.size, 3, none⟩ = some (.int .u64 0) ∧ w'.cell? ⟨w3.heap.size, 4, none⟩ = some (.int .u64 0)) ∧ (w'.heap.size ≤ N → Below w5.heap.size w5 w'))
          (first | (with_reducible exact HS0.out) | (with_reducible exact HS1.out) | (with_reducible exact HKt.out _ _ HS0.out ht8 hn8) | (with_reducible exact HKt.out _ _ HS1.out ht8 hn8) | (with_reducible exact HKs.out _ _ (HKt.out _ _ HS0.out ht8 hn8) (bel_alloc _ _)) | (with_reducible exact HKp.out _ _ _ _ _ _ (HKt.out _ _ HS1.out ht8 hn8) hn8))
          (first
            | (go_at_call 90; (with_reducible refine HC3.out.mono ?_); rintro e w8 ⟨rfl, ho8, ht8, hn8, ⟨⟨hz8, z0, z1, z2, z3, z4⟩, y0, y1, y2, y3, y4⟩⟩)
            | (go_at_call 90; (with_reducible refine (HC2.out _ HS0.out (by simp; omega) (by simp)).mono ?_); rintro e w8 ⟨rfl, ho8, ht8, hn8⟩))
        rotate_left
        · have F9 := put5_five (u0 := .int .i64 0) (u1 := .int .u64 (diffN b 0 : Nat)) (u2 := .int .u64 0) (u3 := .int .u64 0) (u4 := .int .u64 0) (show FiveF w8 w5.heap.size (.int .i64 0) (.int .u64 0) (.int .u64 0) (.int .u64 0) (.int .u64 0) from ⟨⟨hz8, z0, z1, z2, z3, z4⟩, y0, y1, y2, y3, y4⟩)
          have O9 := put5_own (b := w5.heap.size) (u0 := .int .i64 0) (u1 := .int .u64 (diffN b 0 : Nat)) (u2 := .int .u64 0) (u3 := .int .u64 0) (u4 := .int .u64 0) ho8 (fun e => by simp [Value.ownBlock] at e; omega)
          have T9 := put5_turns (b := w5.heap.size) (u0 := .int .i64 0) (u1 := .int .u64 (diffN b 0 : Nat)) (u2 := .int .u64 0) (u3 := .int .u64 0) (u4 := .int .u64 0) (((Turns.refl (fun k => k = g) w5).alloc _).drew.trans ht8 (r := fun k => k = g) (fun _ _ h => h) (fun _ _ h => h)) (by omega)
          unfold put5 at F9 O9 T9
          generalize (((((w8.setCell ⟨w5.heap.size, 0, none⟩ (.int .i64 0)).setCell ⟨w5.heap.size, 1, none⟩ (.int .u64 (diffN b 0 : Nat))).setCell ⟨w5.heap.size, 2, none⟩ (.int .u64 0)).setCell ⟨w5.heap.size, 3, none⟩ (.int .u64 0)).setCell ⟨w5.heap.size, 4, none⟩ (.int .u64 0)) = wx at F9 O9 T9 ⊢
          have Bx9 := hide ((T9.block B (by omega) hBR).trans Bx5.out)
          have T3 := B35.out.trans T9 (r := fun k => k = B) (fun _ _ h => h) (fun i hi h => absurd hi (by rw [H3.out, h]; omega))
          have K9 := hide ((T3.block (W.heap.size + 1 + 1) (by rw [H3.out]; omega) (by omega)).trans K2.out)
          have hcK := cell_of_one K9.out
          have hfK := free_of_one K9.out
          obtain ⟨_, x0, x1, x2, x3, x4⟩ := F9
          have O99 := hide O9
          have T99 := hide T3
          have hx3 := T3.size
          clear O9 T9 T3 HC2 HC3 HS0 HS1 HKs HKt HKp ho8 ht8 cB5 r0 r1 r2 r3 r4
          by_cases hd0 : diffN b 0 = 0
          · have heq := fun w => eq82 9998 (diffN b 0 : Nat) 0 true (by rw [hd0]; rfl) w
            have Hd0 := hide hd0
            clear hd0
            go_wp2
            go_roundw
            case rel => exact Or.inr ⟨rfl, g, cap, none, 0, 0, hgl, Bx9.out, O99.out, T99.out.wide fun _ h => Or.inl h, K9.out, by rw [Hd0.out]; exact Or.inl ⟨rfl, none, 0, rfl, by omega⟩, fun k hk => by cases hk⟩
            case measure => simp [intOf]
          · have heq := fun w => eq82 9998 (diffN b 0 : Nat) 0 false (by simp; omega) w
            have Hd0 := hide hd0
            clear hd0
            go_wp2_with (at_builtin; refine wp_push_row rfl (.tmp 58) (.tmp 60) 50 rfl i0 _ _ Tryd.underlying50 hi hz0 hz1 hz2 rfl (by decide) _ _ _ _ _ _ (rowC_one (diffN b 0)) rfl _ rfl rfl ?_)
            intro g6 cap6 w6 hg6 ho6 hb6
            have O6 := hide ho6
            have B6 := hide hb6
            have hcK6 := (hb6.cell (p := ⟨W.heap.size + 1 + 1, 0, none⟩) (by rw [H3.out] at hx3; show W.heap.size + 1 + 1 < _; omega)).trans hcK
            have hfK6 := (hb6.frozen (p := ⟨W.heap.size + 1 + 1, 0, none⟩) (by rw [H3.out] at hx3; show W.heap.size + 1 + 1 < _; omega)).trans hfK
            clear ho6 hb6
            go_wp2
            go_roundw
            case rel =>
              have hgk : g6 ≠ W.heap.size + 1 + 1 := by rw [H3.out] at hx3; omega
              have T98 := hide ((T99.out.trans (Turns.of_below B6.out (p := fun k => k = B)) (r := fun k => k = B ∨ k = W.heap.size + 1 + 1) (fun _ _ h => Or.inl h) fun _ _ h => Or.inl h))
              refine Or.inr ⟨rfl, g, cap, some ⟨g6, 0, none⟩, 1, cap6, hgl, ?_, ?_, ?_, ?_, ?_, ?_⟩
              · exact (Below.heap_setCell w6 ⟨W.heap.size + 1 + 1, 0, none⟩ _ B (by show B ≠ W.heap.size + 1 + 1; omega)).trans ((B6.out.block B (by rw [H3.out] at hx3; omega)).trans Bx9.out)
              · exact ownsRow_setCell_other (owns_below' O99.out B6.out) (fun e => by simp [Value.ownBlock] at e; omega) _
              · exact T98.out.set fun _ => Or.inr rfl
              · exact one_setCell ((B6.out.block _ (by rw [H3.out] at hx3; omega)).trans K9.out)
              · exact Acc.set (n0 := wx.heap.size) (Or.inr ⟨Hd0.out, ownsRow_setCell_other O6.out (fun e => by simp [Value.ownBlock] at e; omega) _⟩)
              · intro k hk
                simp [Value.ownBlock] at hk
                rw [H3.out] at hx3
                omega
            case measure => simp [intOf]
        · have F9 := five_new w8 (.int .i64 0) (.int .u64 (diffN b 0 : Nat)) (.int .u64 0) (.int .u64 0) (.int .u64 0) 84
          have O9 := ho8.alloc (.cells #[.int .i64 0, .int .u64 (diffN b 0 : Nat), .int .u64 0, .int .u64 0, .int .u64 0] 84)
          have T9 := ((Turns.refl (fun k => k = g) w5).drew.trans ht8 (r := fun k => k = g) (fun _ _ h => h) (fun _ _ h => h)).alloc (.cells #[.int .i64 0, .int .u64 (diffN b 0 : Nat), .int .u64 0, .int .u64 0, .int .u64 0] 84)
          generalize w8.alloc (.cells #[.int .i64 0, .int .u64 (diffN b 0 : Nat), .int .u64 0, .int .u64 0, .int .u64 0] 84) = wx at F9 O9 T9 ⊢
          have Bx9 := hide ((T9.block B (by omega) hBR).trans Bx5.out)
          have T3 := B35.out.trans T9 (r := fun k => k = B) (fun _ _ h => h) (fun i hi h => absurd hi (by rw [H3.out, h]; omega))
          have K9 := hide ((T3.block (W.heap.size + 1 + 1) (by rw [H3.out]; omega) (by omega)).trans K2.out)
          have hcK := cell_of_one K9.out
          have hfK := free_of_one K9.out
          obtain ⟨_, x0, x1, x2, x3, x4⟩ := F9
          have O99 := hide O9
          have T99 := hide T3
          have hx3 := T3.size
          clear O9 T9 T3 HC2 HC3 HS0 HS1 HKs HKt HKp ho8 ht8 cB5 r0 r1 r2 r3 r4
          by_cases hd0 : diffN b 0 = 0
          · have heq := fun w => eq82 9998 (diffN b 0 : Nat) 0 true (by rw [hd0]; rfl) w
            have Hd0 := hide hd0
            clear hd0
            go_wp2
            go_roundw
            case rel => exact Or.inr ⟨rfl, g, cap, none, 0, 0, hgl, Bx9.out, O99.out, T99.out.wide fun _ h => Or.inl h, K9.out, by rw [Hd0.out]; exact Or.inl ⟨rfl, none, 0, rfl, by omega⟩, fun k hk => by cases hk⟩
            case measure => simp [intOf]
          · have heq := fun w => eq82 9998 (diffN b 0 : Nat) 0 false (by simp; omega) w
            have Hd0 := hide hd0
            clear hd0
            go_wp2_with (at_builtin; refine wp_push_row rfl (.tmp 58) (.tmp 60) 50 rfl i0 _ _ Tryd.underlying50 hi hz0 hz1 hz2 rfl (by decide) _ _ _ _ _ _ (rowC_one (diffN b 0)) rfl _ rfl rfl ?_)
            intro g6 cap6 w6 hg6 ho6 hb6
            have O6 := hide ho6
            have B6 := hide hb6
            have hcK6 := (hb6.cell (p := ⟨W.heap.size + 1 + 1, 0, none⟩) (by rw [H3.out] at hx3; show W.heap.size + 1 + 1 < _; omega)).trans hcK
            have hfK6 := (hb6.frozen (p := ⟨W.heap.size + 1 + 1, 0, none⟩) (by rw [H3.out] at hx3; show W.heap.size + 1 + 1 < _; omega)).trans hfK
            clear ho6 hb6
            go_wp2
            go_roundw
            case rel =>
              have hgk : g6 ≠ W.heap.size + 1 + 1 := by rw [H3.out] at hx3; omega
              have T98 := hide ((T99.out.trans (Turns.of_below B6.out (p := fun k => k = B)) (r := fun k => k = B ∨ k = W.heap.size + 1 + 1) (fun _ _ h => Or.inl h) fun _ _ h => Or.inl h))
              refine Or.inr ⟨rfl, g, cap, some ⟨g6, 0, none⟩, 1, cap6, hgl, ?_, ?_, ?_, ?_, ?_, ?_⟩
              · exact (Below.heap_setCell w6 ⟨W.heap.size + 1 + 1, 0, none⟩ _ B (by show B ≠ W.heap.size + 1 + 1; omega)).trans ((B6.out.block B (by rw [H3.out] at hx3; omega)).trans Bx9.out)
              · exact ownsRow_setCell_other (owns_below' O99.out B6.out) (fun e => by simp [Value.ownBlock] at e; omega) _
              · exact T98.out.set fun _ => Or.inr rfl
              · exact one_setCell ((B6.out.block _ (by rw [H3.out] at hx3; omega)).trans K9.out)
              · exact Acc.set (n0 := wx.heap.size) (Or.inr ⟨Hd0.out, ownsRow_setCell_other O6.out (fun e => by simp [Value.ownBlock] at e; omega) _⟩)
              · intro k hk
                simp [Value.ownBlock] at hk
                rw [H3.out] at hx3
                omega
            case measure => simp [intOf]
    · have hK1 := hide ((ht.block (W.heap.size + 1) (by rw [H3.out]; omega) (by omega)).trans K1.out)
      have hcF := cell_of_one q2
      have hcR := cell_of_one hK1.out
      have hfR := free_of_one hK1.out
      have hs := World.cell?_setCell_same' wr ⟨W.heap.size + 1, 0, none⟩ (.slice u n cu) (by rw [hcR]; rfl)
      have X := hide hbx
      have O := hide ho
      have T := hide ht
      have V := hide hsv
      have Fa := hide hfar
      clear hbx ho ht hsv hfar q2
      go_wp2
      refine bodyPost_ret (v := .agg #[.slice u n cu]) (by simp [results, Tryd.results76, go_sem, hs]) rfl ⟨_, .slice (some ⟨g, 0, none⟩) 1 cap, rfl, ?_, ⟨HB.out.1, ?_, ?_⟩, ?_, Or.inr fun k e => by have e2 : g = k := Option.some.inj e; omega⟩
      · exact setv_off V.out (fun e => by have := Fa.out _ e; omega)
      · exact (Below.heap_setCell wr ⟨W.heap.size + 1, 0, none⟩ _ B (by show B ≠ W.heap.size + 1; omega)).trans X.out
      · refine Or.inr ⟨?_, ownsRow_setCell_other (a := ⟨W.heap.size + 1, 0, none⟩) O.out (fun e => (show g ≠ W.heap.size + 1 by omega) (Option.some.inj e)) _⟩
        intro h
        exact Hb0.out (Nat.or_eq_zero_iff.1 h).2
      · refine (((Turns.of_below (p := fun _ => False) B3.out).trans T.out (r := fun k => k = B ∨ (Value.slice none 0 0).ownBlock = some k) (fun _ _ h => False.elim h) fun k hk h => ?_)).set fun h => absurd h (by show ¬ W.heap.size + 1 < _; omega)
        rcases h with rfl | rfl
        · exact Or.inl rfl
        · omega
/-- add, whatever the sets. -/
theorem add76 (n0 B a b : Nat) (v x : Value) (W : World) (hb : Box n0 W B v a) (hn0 : n0 ≤ W.heap.size) (ha : a < 2305843009213693952) (hb6 : b < 2305843009213693952) (hx : SetV W x b) : Calls Tryd.prog 76 #[.pointer (some ⟨B, 0, none⟩), .agg #[x]] W (AddV n0 W B v a b) := by
  by_cases hb0 : b = 0
  · subst hb0; exact add76_none n0 B a v x W hb hx
  · rcases hx with ⟨h, _⟩ | ⟨_, r, c, rfl, hc1, hc2, hlt, hc⟩
    · exact absurd h hb0
    · rcases hb.2.2 with ⟨h, rfl⟩ | ⟨ha0, hown⟩
      · subst h
        exact add76_zero n0 B b r c W hb hn0 hb0 hb6 ⟨hlt, hc⟩ ⟨hc1, hc2⟩
      · obtain ⟨g, cap, rfl, _, _⟩ := World.ownsRow.form hown (by omega)
        exact add76_some n0 B a b g cap r c W hb ha0 ha hb0 hb6 ⟨hlt, hc⟩ ⟨hc1, hc2⟩
end Go.Proofs.YtkghbhcjgogaeaaDoor
/-! ### O8 -/
namespace Go.Proofs.YtkghbhcjgogaeaaDoor
open Go.RowKit

theorem fields84 : (Tryd.prog.fieldsOf 84).toList.map (fun f => (f.name, f.type, f.offset)) = [("number", 3, 0), ("bits", 82, 1)] := by kernel_rfl
theorem eq84 (x y : Nat) (b : Bool) (h : ((x : Int) == (y : Int)) = b) (w : World) :
    (Op.equalIn 10000 84 (.agg #[.int .i64 0, .int .u64 (x : Int), .int .u64 0, .int .u64 0, .int .u64 0]) (.agg #[.int .i64 0, .int .u64 (y : Int), .int .u64 0, .int .u64 0, .int .u64 0])).run Tryd.prog w = .ok b w := by
  have e := eq82 9997 x y b h w
  rw [run_equalIn_agg w 9999 84 _ _ (by kernel_rfl) (by kernel_rfl)]
  simp [go_sem, e]
  cases b <;> rfl

set_option maxRecDepth 100000 in
set_option maxHeartbeats 2000000 in
theorem equal78_len (A1 A2 : Option Addr) (n1 c1 n2 c2 : Nat) (h : n1 ≠ n2) (W : World) : Calls Tryd.prog 78 #[.slice A1 n1 c1, .slice A2 n2 c2] W fun e w' => e = .returned (.bool false) ∧ Drawn W w' := by
  have hn : ((n1 : Int) != (n2 : Int)) = true := by rw [bne_iff_ne]; omega
  go_enter Tryd.func78, Tryd.ntmps78
  go_wp2
  go_ret
  exact ⟨rfl, Drawn.refl _⟩
set_option maxRecDepth 100000 in
set_option maxHeartbeats 2000000 in
theorem equal78_zero (A1 A2 : Option Addr) (c1 c2 : Nat) (W : World) : Calls Tryd.prog 78 #[.slice A1 0 c1, .slice A2 0 c2] W fun e w' => e = .returned (.bool true) ∧ Drawn W w' := by
  go_enter Tryd.func78, Tryd.ntmps78
  go_wp2
  go_loop [13] (fun x => x = .int .i64 0) (fun _ => 0)
  case atStart => rfl
  case round =>
    subst hrel
    go_wp2
    go_ret
    exact ⟨rfl, Drawn.refl _⟩
set_option maxRecDepth 100000 in
set_option maxHeartbeats 4000000 in
theorem equal78_one (g1 g2 c1 c2 x y : Nat) (q : Bool) (hq : ((x : Int) == (y : Int)) = q) (W : World) (h1 : Row1 W g1 x) (h2 : Row1 W g2 y) :
    Calls Tryd.prog 78 #[.slice (some ⟨g1, 0, none⟩) 1 c1, .slice (some ⟨g2, 0, none⟩) 1 c2] W fun e w' => e = .returned (.bool q) ∧ Drawn W w' := by
  have heq := fun w => eq84 x y q hq w
  have Hq := hide hq
  have H1 := hide h1
  have H2 := hide h2
  clear hq h1 h2
  go_enter Tryd.func78, Tryd.ntmps78
  go_wp2
  go_loopw [13] (fun z wr => (z = .int .i64 0 ∧ Drawn W wr) ∨ (z = .int .i64 1 ∧ q = true ∧ Drawn W wr)) (fun z _ => 1 - (intOf z).toNat)
  case atStart => exact Or.inl ⟨rfl, Drawn.refl _⟩
  case round =>
    rcases hrel with ⟨rfl, hd⟩ | ⟨rfl, hqt, hd⟩
    · obtain ⟨w1, hw1⟩ : ∃ w1, w1 = wr := ⟨wr, rfl⟩
      subst hw1
      obtain ⟨_, s0, s1, s2, s3, s4⟩ := (H1.out.below (by obtain ⟨k, rfl⟩ := hd; exact Drawn.below ⟨k, rfl⟩ _ : Below W.heap.size W w1)).five
      obtain ⟨_, t0, t1, t2, t3, t4⟩ := (H2.out.below (by obtain ⟨k, rfl⟩ := hd; exact Drawn.below ⟨k, rfl⟩ _ : Below W.heap.size W w1)).five
      have D := hide hd
      clear hd
      cases q with
      | true =>
        go_wp2
        go_quiet (fail)
        go_wp2
        go_roundw
        case rel => exact Or.inr ⟨rfl, by simp, D.out.more _⟩
        case measure => simp [intOf]
      | false =>
        go_wp2
        go_quiet (fail)
        go_wp2
        go_ret
        exact ⟨rfl, D.out.more _⟩
    · subst hqt
      have D := hide hd
      clear hd
      go_wp2
      go_ret
      exact ⟨rfl, D.out⟩
/-- Equal, whatever the sets. -/
theorem equal78 (v1 v2 : Value) (x y : Nat) (W : World) (h1 : SetV W v1 x) (h2 : SetV W v2 y) (q : Bool) (hq : decide (x = y) = q) : Calls Tryd.prog 78 #[v1, v2] W fun e w' => e = .returned (.bool q) ∧ Drawn W w' := by
  rcases h1 with ⟨rfl, A1, c1, rfl, k1⟩ | ⟨n1, g1, c1, rfl, k1, k2, l1, r1⟩
  · rcases h2 with ⟨rfl, A2, c2, rfl, j1⟩ | ⟨n2, g2, c2, rfl, j1, j2, l2, r2⟩
    · rw [← hq]; exact equal78_zero A1 A2 c1 c2 W
    · rw [← hq, decide_eq_false (fun e => n2 e.symm)]; exact equal78_len A1 _ 0 c1 1 c2 (by omega) W
  · rcases h2 with ⟨rfl, A2, c2, rfl, j1⟩ | ⟨n2, g2, c2, rfl, j1, j2, l2, r2⟩
    · rw [← hq, decide_eq_false n1]; exact equal78_len _ A2 1 c1 0 c2 (by omega) W
    · refine equal78_one g1 g2 c1 c2 x y q ?_ W ⟨l1, r1⟩ ⟨l2, r2⟩
      rw [← hq, Bool.eq_iff_iff]
      simp
      omega
end Go.Proofs.YtkghbhcjgogaeaaDoor
