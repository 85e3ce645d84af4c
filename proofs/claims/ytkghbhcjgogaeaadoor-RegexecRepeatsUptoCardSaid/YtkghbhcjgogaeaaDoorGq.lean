/- Layer 9: O5, O6. -/
import Derived.Test.YtkghbhcjgogaeaaDoorGo
import Derived.Laws.BitsAllLaws
import Derived.Laws.ResultCell
import Derived.Deep.RegionHeld3
/-! ### O5 -/
namespace Go.Proofs.YtkghbhcjgogaeaaDoor
open Go.RowKit

/-- The offsets of b that are not in a. -/
def diffN (b a : Nat) : Nat := b &&& (18446744073709551615 - a)
theorem diff_bit {b a : Nat} (_hb : b < 18446744073709551616) (ha : a < 18446744073709551616) (j : Nat) : (diffN b a).testBit j = (b.testBit j && !a.testBit j) := by
  unfold diffN
  rw [Nat.testBit_and, show 18446744073709551615 - a = 2 ^ 64 - (a + 1) by omega, Nat.testBit_two_pow_sub_succ (by omega : a < 2 ^ 64)]
  by_cases h : j < 64
  · simp [h]
  · have : b.testBit j = false := Nat.testBit_lt_two_pow (Nat.lt_of_lt_of_le (by omega : b < 2 ^ 64) (Nat.pow_le_pow_right (by omega) (by omega)))
    rw [this]; simp
theorem diff_le (b a : Nat) : diffN b a ≤ b := Nat.and_le_left
theorem rowC_at (x i : Nat) (hi : i < 4) : (rowC x)[1 + i]? = some (.int .u64 ((if i = 0 then x else 0 : Nat) : Int)) := by
  match i, hi with
  | 0, _ => rfl
  | 1, _ => rfl
  | 2, _ => rfl
  | 3, _ => rfl
theorem rowC_set (x v i : Nat) (hi : i < 4) (h : i ≠ 0 → v = 0) : (rowC x).set (1 + i) (.int .u64 (v : Int)) = rowC (if i = 0 then v else x) := by
  match i, hi with
  | 0, _ => rfl
  | 1, _ => rw [h (by omega)]; rfl
  | 2, _ => rw [h (by omega)]; rfl
  | 3, _ => rw [h (by omega)]; rfl
theorem rowA_at {w : World} {H x : Nat} (h : w.heap[H]? = some (.cells (rowC x).toArray 84 (0, 0))) (j : Nat) : w.cell? ⟨H, j, none⟩ = (rowC x)[j]? ∧ w.frozen? ⟨H, j, none⟩ = false := by
  constructor
  · simp [World.cell?, h]
  · simp [World.frozen?, h]

/-- Block b holds the five cells, and may be written. -/
def FiveF (w : World) (b : Nat) (c0 c1 c2 c3 c4 : Value) : Prop := Five w b c0 c1 c2 c3 c4 ∧ w.frozen? ⟨b, 0, none⟩ = false ∧ w.frozen? ⟨b, 1, none⟩ = false ∧ w.frozen? ⟨b, 2, none⟩ = false ∧ w.frozen? ⟨b, 3, none⟩ = false ∧ w.frozen? ⟨b, 4, none⟩ = false
theorem fiveF_new (w : World) (c0 c1 c2 c3 c4 : Value) (T : TypeId) : FiveF (w.alloc (.cells #[c0, c1, c2, c3, c4] T)) w.heap.size c0 c1 c2 c3 c4 := by
  refine ⟨five_new w c0 c1 c2 c3 c4 T, ?_, ?_, ?_, ?_, ?_⟩ <;> (rw [World.frozen?_alloc_mark]; simp)
theorem FiveF.at_ {w w' : World} {b B : Nat} {c0 c1 c2 c3 c4 : Value} (h : FiveF w b c0 c1 c2 c3 c4) (hb : Below B w w') (hlt : b < B) : FiveF w' b c0 c1 c2 c3 c4 := by
  obtain ⟨⟨h0, h1, h2, h3, h4, h5⟩, f0, f1, f2, f3, f4⟩ := h
  have key : ∀ k : Nat, w'.cell? ⟨b, k, none⟩ = w.cell? ⟨b, k, none⟩ := fun k => hb.cell (p := ⟨b, k, none⟩) hlt
  have fkey : ∀ k : Nat, w'.frozen? ⟨b, k, none⟩ = w.frozen? ⟨b, k, none⟩ := fun k => hb.frozen (p := ⟨b, k, none⟩) hlt
  exact ⟨⟨Nat.lt_of_lt_of_le h0 hb.size, (key _).trans h1, (key _).trans h2, (key _).trans h3, (key _).trans h4, (key _).trans h5⟩, (fkey _).trans f0, (fkey _).trans f1, (fkey _).trans f2, (fkey _).trans f3, (fkey _).trans f4⟩
/-- Five cells stored. -/
def put5 (w : World) (b : Nat) (u0 u1 u2 u3 u4 : Value) : World := ((((w.setCell ⟨b, 0, none⟩ u0).setCell ⟨b, 1, none⟩ u1).setCell ⟨b, 2, none⟩ u2).setCell ⟨b, 3, none⟩ u3).setCell ⟨b, 4, none⟩ u4
theorem set_off (w : World) (b j k : Nat) (u : Value) (h : j ≠ k) : (w.setCell ⟨b, j, none⟩ u).cell? ⟨b, k, none⟩ = w.cell? ⟨b, k, none⟩ := World.cell?_setCell_other _ _ _ _ (fun e => h (congrArg Addr.off e))
theorem put5_five {w : World} {b : Nat} {c0 c1 c2 c3 c4 : Value} (h : FiveF w b c0 c1 c2 c3 c4) (u0 u1 u2 u3 u4 : Value) : Five (put5 w b u0 u1 u2 u3 u4) b u0 u1 u2 u3 u4 := by
  obtain ⟨⟨h0, h1, h2, h3, h4, h5⟩, _⟩ := h
  unfold put5
  refine ⟨by simpa [World.setCell] using h0, ?_, ?_, ?_, ?_, ?_⟩
  · rw [set_off _ _ _ _ _ (by decide), set_off _ _ _ _ _ (by decide), set_off _ _ _ _ _ (by decide), set_off _ _ _ _ _ (by decide)]
    exact World.cell?_setCell_same _ _ _ h1
  · rw [set_off _ _ _ _ _ (by decide), set_off _ _ _ _ _ (by decide), set_off _ _ _ _ _ (by decide)]
    exact World.cell?_setCell_same _ _ _ (by rw [set_off _ _ _ _ _ (by decide)]; exact h2)
  · rw [set_off _ _ _ _ _ (by decide), set_off _ _ _ _ _ (by decide)]
    exact World.cell?_setCell_same _ _ _ (by rw [set_off _ _ _ _ _ (by decide), set_off _ _ _ _ _ (by decide)]; exact h3)
  · rw [set_off _ _ _ _ _ (by decide)]
    exact World.cell?_setCell_same _ _ _ (by rw [set_off _ _ _ _ _ (by decide), set_off _ _ _ _ _ (by decide), set_off _ _ _ _ _ (by decide)]; exact h4)
  · exact World.cell?_setCell_same _ _ _ (by rw [set_off _ _ _ _ _ (by decide), set_off _ _ _ _ _ (by decide), set_off _ _ _ _ _ (by decide), set_off _ _ _ _ _ (by decide)]; exact h5)
theorem put5_below {B b : Nat} {w w' : World} {u0 u1 u2 u3 u4 : Value} (h : Below B w w') (hb : B ≤ b) : Below B w (put5 w' b u0 u1 u2 u3 u4) :=
  ((((h.setCell (by exact hb) _).setCell (by exact hb) _).setCell (by exact hb) _).setCell (by exact hb) _).setCell (by exact hb) _
theorem put5_cell {w : World} {b : Nat} {u0 u1 u2 u3 u4 : Value} {p : Addr} (h : p.block ≠ b) : (put5 w b u0 u1 u2 u3 u4).cell? p = w.cell? p := by
  unfold put5
  have key : ∀ (W : World) (j : Nat) (u : Value), (W.setCell ⟨b, j, none⟩ u).cell? p = W.cell? p := fun W j u => World.cell?_setCell_other _ _ _ _ (fun e => h (congrArg Addr.block e).symm)
  rw [key, key, key, key, key]
theorem put5_rxv {w : World} {b B : Nat} {u0 u1 u2 u3 u4 v : Value} {r : Rx} (h : RxV w (fun g => B ≤ g) v r) (hb : b < B) (B' : Nat) (hB : B' ≤ B) : RxV (put5 w b u0 u1 u2 u3 u4) (fun g => B' ≤ g) v r :=
  h.map (fun p hp _ => put5_cell (by omega)) fun g hg _ => Nat.le_trans hB hg

theorem load_five84 {W : World} {b : Nat} {c0 c1 c2 c3 c4 : Value} (h : Five W b c0 c1 c2 c3 c4) : (loadVar 84 ⟨b, 0, none⟩).run Tryd.prog W = .ok (.agg #[c0, c1, c2, c3, c4]) W := by
  obtain ⟨h0, h1, h2, h3, h4, h5⟩ := h
  go_simp
theorem load_five25 {W : World} {b : Nat} {c0 c1 c2 c3 c4 : Value} (h : Five W b c0 c1 c2 c3 c4) : (loadVar 25 ⟨b, 0, none⟩).run Tryd.prog W = .ok (.agg #[c0, c1, c2, c3, c4]) W := by
  obtain ⟨h0, h1, h2, h3, h4, h5⟩ := h
  go_simp
theorem put5_own {w : World} {b B e n sz : Nat} {v : Value} {xs : List Value} {u0 u1 u2 u3 u4 : Value} (h : w.ownsRow B e sz v n xs) (hb : v.ownBlock ≠ some b) : (put5 w b u0 u1 u2 u3 u4).ownsRow B e sz v n xs :=
  ownsRow_setCell_other (a := ⟨b, 4, none⟩) (ownsRow_setCell_other (a := ⟨b, 3, none⟩) (ownsRow_setCell_other (a := ⟨b, 2, none⟩) (ownsRow_setCell_other (a := ⟨b, 1, none⟩) (ownsRow_setCell_other (a := ⟨b, 0, none⟩) h hb _) hb _) hb _) hb _) hb _
theorem put5_turns {p : Nat → Prop} {w w' : World} {b : Nat} {u0 u1 u2 u3 u4 : Value} (h : Turns p w w') (hb : w.heap.size ≤ b) : Turns p w (put5 w' b u0 u1 u2 u3 u4) :=
  ((((h.set (a := ⟨b, 0, none⟩) fun hx => absurd hx (by show ¬ b < _; omega)).set (a := ⟨b, 1, none⟩) fun hx => absurd hx (by show ¬ b < _; omega)).set (a := ⟨b, 2, none⟩) fun hx => absurd hx (by show ¬ b < _; omega)).set (a := ⟨b, 3, none⟩) fun hx => absurd hx (by show ¬ b < _; omega)).set (a := ⟨b, 4, none⟩) fun hx => absurd hx (by show ¬ b < _; omega)
/-- A result in a box alone. -/
theorem res_box84 {fn : Func} {p : Tmp} (h : fn.results = #[.cell p 84]) (tmps : Array Value) (W : World) (b : Nat) (c0 c1 c2 c3 c4 : Value) (hp : tmps.getD p undef = .pointer (some ⟨b, 0, none⟩)) (hf : Five W b c0 c1 c2 c3 c4) :
    (results fn tmps).run Tryd.prog W = .ok (.agg #[c0, c1, c2, c3, c4]) W := by
  have hp' : tmps[p]?.getD undef = .pointer (some ⟨b, 0, none⟩) := by simpa using hp
  simp [results, h, hp', asAddr, load_five84 hf]
theorem res_box25 {fn : Func} {p : Tmp} (h : fn.results = #[.cell p 25]) (tmps : Array Value) (W : World) (b : Nat) (c0 c1 c2 c3 c4 : Value) (hp : tmps.getD p undef = .pointer (some ⟨b, 0, none⟩)) (hf : Five W b c0 c1 c2 c3 c4) :
    (results fn tmps).run Tryd.prog W = .ok (.agg #[c0, c1, c2, c3, c4]) W := by
  have hp' : tmps[p]?.getD undef = .pointer (some ⟨b, 0, none⟩) := by simpa using hp
  simp [results, h, hp', asAddr, load_five25 hf]
theorem rowA_five {w : World} {H x : Nat} (h : w.heap[H]? = some (.cells (rowC x).toArray 84 (0, 0))) : FiveF w H (.int .i64 0) (.int .u64 (x : Int)) (.int .u64 0) (.int .u64 0) (.int .u64 0) :=
  ⟨⟨lt_of_block h, (rowA_at h 0).1, (rowA_at h 1).1, (rowA_at h 2).1, (rowA_at h 3).1, (rowA_at h 4).1⟩, (rowA_at h 0).2, (rowA_at h 1).2, (rowA_at h 2).2, (rowA_at h 3).2, (rowA_at h 4).2⟩
/-- Behind the two stores of a round. -/
theorem radd_step {n0 g cap a b H i x z p q : Nat} {W w1 : World} (hgH : g < H) (hi : i < 4) (h0 : i = 0 → x = a ∧ z = b) (h1 : 0 < i → x = a ||| b ∧ z = diffN b a) (hp : (if i = 0 then x else 0) = p) (hq : (if i = 0 then z else 0) = q) (hH : W.heap.size ≤ H)
    (hO : w1.ownsRow n0 84 5 (.slice (some ⟨g, 0, none⟩) 1 cap) 1 (rowC x)) (hz : w1.heap[H]? = some (.cells (rowC z).toArray 84 (0, 0))) (hr : w1.heap[H + 1]? = some (.cells (rowC 0).toArray 84 (0, 0))) (ht : Turns (fun k => k = g) W w1) :
    ((w1.setCell ⟨g, 1 + i, none⟩ (.int .u64 ((p ||| q : Nat) : Int))).setCell ⟨H, 1 + i, none⟩ (.int .u64 ((diffN q p : Nat) : Int))).drew.ownsRow n0 84 5 (.slice (some ⟨g, 0, none⟩) 1 cap) 1 (rowC (a ||| b)) ∧
    ((w1.setCell ⟨g, 1 + i, none⟩ (.int .u64 ((p ||| q : Nat) : Int))).setCell ⟨H, 1 + i, none⟩ (.int .u64 ((diffN q p : Nat) : Int))).drew.heap[H]? = some (.cells (rowC (diffN b a)).toArray 84 (0, 0)) ∧
    ((w1.setCell ⟨g, 1 + i, none⟩ (.int .u64 ((p ||| q : Nat) : Int))).setCell ⟨H, 1 + i, none⟩ (.int .u64 ((diffN q p : Nat) : Int))).drew.heap[H + 1]? = some (.cells (rowC 0).toArray 84 (0, 0)) ∧
    Turns (fun k => k = g) W ((w1.setCell ⟨g, 1 + i, none⟩ (.int .u64 ((p ||| q : Nat) : Int))).setCell ⟨H, 1 + i, none⟩ (.int .u64 ((diffN q p : Nat) : Int))).drew := by
  have ex : rowC (a ||| b) = (rowC x).set (1 + i) (.int .u64 ((p ||| q : Nat) : Int)) := by
    rw [rowC_set x _ i hi (fun h => by rw [← hp, ← hq, if_neg h, if_neg h]; rfl)]
    by_cases e : i = 0
    · obtain ⟨rfl, rfl⟩ := h0 e
      rw [if_pos e] at hp hq ⊢
      rw [hp, hq]
    · rw [if_neg e, (h1 (by omega)).1]
  have ez : rowC (diffN b a) = (rowC z).set (1 + i) (.int .u64 ((diffN q p : Nat) : Int)) := by
    rw [rowC_set z _ i hi (fun h => by rw [← hp, ← hq, if_neg h, if_neg h]; rfl)]
    by_cases e : i = 0
    · obtain ⟨rfl, rfl⟩ := h0 e
      rw [if_pos e] at hp hq ⊢
      rw [hp, hq]
    · rw [if_neg e, (h1 (by omega)).2]
  refine ⟨?_, ?_, ?_, ((ht.set fun _ => rfl).set fun h => by simp at h; omega).drew⟩
  · rw [ex]
    exact ownsRow_setCell_other (row_set hO (1 + i) _) (fun e => by simp [Value.ownBlock] at e; omega) _
  · rw [ez]
    have := Go.Joins.block_setCell (w := w1.setCell ⟨g, 1 + i, none⟩ (.int .u64 ((p ||| q : Nat) : Int))) (i := 1 + i) ((Below.heap_setCell _ _ _ _ (by show H ≠ g; omega)).trans hz) (.int .u64 ((diffN q p : Nat) : Int))
    rw [List.setIfInBounds_toArray] at this
    exact this
  · exact (Below.heap_setCell _ _ _ _ (by show H + 1 ≠ H; omega)).trans ((Below.heap_setCell _ _ _ _ (by show H + 1 ≠ g; omega)).trans hr)

set_option maxRecDepth 100000 in
set_option maxHeartbeats 4000000 in
theorem radd90 (n0 g cap a b : Nat) (W : World) (hO : W.ownsRow n0 84 5 (.slice (some ⟨g, 0, none⟩) 1 cap) 1 (rowC a)) (ha : a < 2305843009213693952) (hb : b < 2305843009213693952) :
    Calls Tryd.prog 90 #[.pointer (some ⟨g, 0, none⟩), .agg #[.int .i64 0, .int .u64 (b : Int), .int .u64 0, .int .u64 0, .int .u64 0]] W fun e w' =>
      e = .returned (.agg #[.int .i64 0, .int .u64 (diffN b a : Nat), .int .u64 0, .int .u64 0, .int .u64 0]) ∧ w'.ownsRow n0 84 5 (.slice (some ⟨g, 0, none⟩) 1 cap) 1 (rowC (a ||| b)) ∧ Turns (fun k => k = g) W w' ∧ W.heap.size + 2 ≤ w'.heap.size := by
  have hg : g < W.heap.size := (World.ownsRow.lt hO g rfl).2
  have OO := hide hO
  have Ha := hide ha
  have Hb := hide hb
  clear hO ha hb
  go_enter Tryd.func90, Tryd.ntmps90
  go_wp2
  go_loopw [7] (fun y wr => ∃ i x z : Nat, i ≤ 4 ∧ x < 2305843009213693952 ∧ z < 2305843009213693952 ∧ y = .int .i64 (i : Int) ∧ (i = 0 → x = a ∧ z = b) ∧ (0 < i → x = a ||| b ∧ z = diffN b a) ∧ wr.ownsRow n0 84 5 (.slice (some ⟨g, 0, none⟩) 1 cap) 1 (rowC x) ∧
    wr.heap[W.heap.size]? = some (.cells (rowC z).toArray 84 (0, 0)) ∧ wr.heap[W.heap.size + 1]? = some (.cells (rowC 0).toArray 84 (0, 0)) ∧ Turns (fun k => k = g) W wr) (fun y _ => 4 - (intOf y).toNat)
  case atStart =>
    refine ⟨0, a, b, by omega, Ha.out, Hb.out, rfl, fun _ => ⟨rfl, rfl⟩, fun h => by omega, (OO.out.alloc _).alloc _, ?_, ?_, ((Turns.refl _ W).alloc _).alloc _⟩
    · exact (Below.heap_alloc _ _ _ (by simp)).trans (heap_alloc_new W _)
    · have := heap_alloc_new (W.alloc (.cells (rowC b).toArray 84)) (.cells (rowC 0).toArray 84)
      rw [World.size_alloc] at this
      exact this
  case round =>
    obtain ⟨i, x, z, hi, hx61, hz61, rfl, h0, h1, hO, hz, hr, ht⟩ := hrel
    obtain ⟨w1, hw1⟩ : ∃ w1, w1 = wr := ⟨wr, rfl⟩
    subst hw1
    have O := hide hO
    have Z := hide hz
    have R := hide hr
    have T := hide ht
    have H0 := hide h0
    have H1 := hide h1
    by_cases hlt : i < 4
    · obtain ⟨p, hp⟩ : ∃ p, (if i = 0 then x else 0) = p := ⟨_, rfl⟩
      obtain ⟨q, hq⟩ : ∃ q, (if i = 0 then z else 0) = q := ⟨_, rfl⟩
      have hp61 : p < 2305843009213693952 := by rw [← hp]; split <;> omega
      have hq61 : q < 2305843009213693952 := by rw [← hq]; split <;> omega
      have c1 : w1.cell? ⟨g, 1 + i, none⟩ = some (.int .u64 (p : Int)) := by rw [← hp]; exact (World.ownsRow.cellAt hO (1 + i) (by omega)).trans (rowC_at x i hlt)
      have c2 : w1.frozen? ⟨g, 1 + i, none⟩ = false := World.ownsRow.frozenAt hO (1 + i)
      have c3 : w1.cell? ⟨W.heap.size, 1 + i, none⟩ = some (.int .u64 (q : Int)) := by rw [← hq]; exact (rowA_at hz (1 + i)).1.trans (rowC_at z i hlt)
      have c4 : w1.frozen? ⟨W.heap.size, 1 + i, none⟩ = false := (rowA_at hz (1 + i)).2
      have hd : decide ((i : Int) < 4) = true := decide_eq_true (by omega)
      have Hp := hide hp
      have Hq := hide hq
      clear hO hz hr ht h0 h1 hp hq
      go_wp2
      have eo : bits .or .u64 (p : Int) (q : Int) = ((p ||| q : Nat) : Int) := bits_or_u64_nat p q (by omega) (by omega)
      have ea : bits .andNot .u64 (q : Int) (p : Int) = ((diffN q p : Nat) : Int) := u64_andNot_nat q p (by omega) (by omega)
      have hi4 : (i : Int) < 4 := by omega
      have hi0 : (0 : Int) ≤ (i : Int) := by omega
      go_still_tail 13, (by kernel_rfl)
      change wpList _ _ _ _ _ w1.drew
      go_wp2
      go_roundw
      case rel =>
        obtain ⟨k1, k2, k3, k4⟩ := radd_step hg hlt H0.out H1.out Hp.out Hq.out (Nat.le_refl _) O.out Z.out R.out T.out
        exact ⟨i + 1, a ||| b, diffN b a, by omega, Nat.or_lt_two_pow (n := 61) Ha.out Hb.out, Nat.lt_of_le_of_lt (diff_le b a) Hb.out, by go_num, fun h => by omega, fun _ => ⟨rfl, rfl⟩, k1, k2, k3, k4⟩
      case measure => simp [intOf]; omega
    · obtain ⟨rfl, rfl⟩ := h1 (by omega)
      obtain ⟨⟨_, t0, t1, t2, t3, t4⟩, _⟩ := rowA_five hz
      have HR5 := hide (rowA_five hr)
      obtain ⟨⟨_, r0, r1, r2, r3, r4⟩, f0, f1, f2, f3, f4⟩ := HR5.out

      clear hO hz hr ht h0 h1
      go_wp2
      refine bodyPost_ret (res_box84 rfl _ _ (W.heap.size + 1) _ _ _ _ _ rfl (put5_five HR5.out (.int .i64 0) (.int .u64 (diffN b a : Nat)) (.int .u64 0) (.int .u64 0) (.int .u64 0))) rfl ⟨rfl, ?_, ?_, ?_⟩
      · exact put5_own O.out (fun e => by simp [Value.ownBlock] at e; omega)
      · exact put5_turns T.out (by omega)
      · have := lt_of_block R.out
        simp [World.setCell]
        omega
end Go.Proofs.YtkghbhcjgogaeaaDoor
/-! ### O6 -/
namespace Go.Proofs.YtkghbhcjgogaeaaDoor
open Go.RowKit

/-- What add has done. -/
def AddV (n0 : Nat) (W : World) (B : Nat) (v : Value) (a b : Nat) (e : Ending) (W' : World) : Prop :=
  ∃ u v', e = .returned (.agg #[u]) ∧ SetV W' u (diffN b a) ∧ Box n0 W' B v' (a ||| b) ∧ Turns (fun k => k = B ∨ v.ownBlock = some k) W W' ∧ (v'.ownBlock = v.ownBlock ∨ ∀ k, v'.ownBlock = some k → W.heap.size ≤ k)
theorem SetV.row {W : World} {v : Value} {m : Nat} (h : SetV W v m) (hm : m ≠ 0) : ∃ r c, v = .slice (some ⟨r, 0, none⟩) 1 c ∧ Row1 W r m := by
  rcases h with ⟨h0, _⟩ | ⟨_, b, c, hv, _, _, hlt, hc⟩
  · exact absurd h0 hm
  · exact ⟨b, c, hv, hlt, hc⟩
theorem SetV.nil {W : World} {v : Value} (h : SetV W v 0) : ∃ A c, v = .slice A 0 c := by
  rcases h with ⟨_, A, c, hv, _⟩ | ⟨h0, _⟩
  · exact ⟨A, c, hv⟩
  · exact absurd rfl h0

theorem eq82 (n : Nat) (x y : Int) (b : Bool) (h : (x == y) = b) (w : World) : (Op.equalIn (n + 2) 82 (.agg #[.int .u64 x, .int .u64 0, .int .u64 0, .int .u64 0]) (.agg #[.int .u64 y, .int .u64 0, .int .u64 0, .int .u64 0])).run Tryd.prog w = .ok b w := by
  unfold Op.equalIn
  cases b
  · simp [run_underlying Tryd.underlying82, Sem.run_bind, go_sem, List.range']
    simpa using h
  · simp [run_underlying Tryd.underlying82, Sem.run_bind, go_sem, List.range']
    simpa using h
theorem Turns.wide {p q : Nat → Prop} {A B : World} (h : Turns p A B) (hp : ∀ k, p k → q k) : Turns q A B := ⟨h.os, h.tape, h.output, h.size, fun k hk hn => h.block k hk fun x => hn (hp k x)⟩
theorem setv_off {W : World} {v : Value} {m b : Nat} {u : Value} (h : SetV W v m) (hb : v.ownBlock ≠ some b) : SetV (W.setCell ⟨b, 0, none⟩ u) v m := by
  rcases h with h | ⟨h0, g, c, hv, h1, h2, hlt, hc⟩
  · exact Or.inl h
  · subst hv
    refine Or.inr ⟨h0, g, c, rfl, h1, h2, by simpa [World.setCell] using hlt, fun j hj => ?_⟩
    exact (World.cell?_setCell_other _ _ _ _ (fun e => hb (congrArg some (congrArg Addr.block e).symm))).trans (hc j hj)
theorem bel_alloc (w : World) (o : Obj) : Below w.heap.size w (w.alloc o) := bnew (Below.refl _ _) o
set_option maxRecDepth 100000 in
set_option maxHeartbeats 4000000 in
theorem add76_none (n0 B a : Nat) (v x : Value) (W : World) (hb : Box n0 W B v a) (hx : SetV W x 0) : Calls Tryd.prog 76 #[.pointer (some ⟨B, 0, none⟩), .agg #[x]] W (AddV n0 W B v a 0) := by
  obtain ⟨A, c, rfl⟩ := hx.nil
  have HB := hide hb
  have s0 := heap_alloc_new ((W.alloc (.cells #[.slice A 0 c] 52)).alloc (.cells #[.slice none 0 0] 52)) (.cells #[.slice none 0 0] 52)
  clear hb hx
  go_enter Tryd.func76, Tryd.ntmps76
  go_wp2
  go_loop [15] (fun y => y = .int .i64 0) (fun _ => 0)
  case atStart => rfl
  case round =>
    subst hrel
    go_wp2
    refine bodyPost_ret (v := .agg #[.slice none 0 0]) (by simp [results, Tryd.results76, go_sem]) rfl ⟨_, v, rfl, ?_, ?_, ?_, Or.inl rfl⟩
    · rw [show diffN 0 a = 0 by unfold diffN; exact Nat.zero_and _]
      exact Or.inl ⟨rfl, Option.none, 0, rfl, by omega⟩
    · rw [Nat.or_zero]
      exact HB.out.below (bnew (bnew (bnew (Below.refl _ _) _) _) _)
    · exact (((Turns.refl _ W).alloc _).alloc _).alloc _

set_option maxRecDepth 100000 in
set_option maxHeartbeats 8000000 in
theorem add76_some (n0 B a b g cap r c : Nat) (W : World) (hb : Box n0 W B (.slice (some ⟨g, 0, none⟩) 1 cap) a) (ha0 : a ≠ 0) (ha : a < 2305843009213693952) (hb0 : b ≠ 0) (hb6 : b < 2305843009213693952) (hr : Row1 W r b) (hc : 1 ≤ c ∧ c ≤ 9223372036854775807) :
    Calls Tryd.prog 76 #[.pointer (some ⟨B, 0, none⟩), .agg #[.slice (some ⟨r, 0, none⟩) 1 c]] W (AddV n0 W B (.slice (some ⟨g, 0, none⟩) 1 cap) a b) := by
  obtain ⟨i0, hi, hz0, hz1, hz2⟩ := info_parts info84
  have hown : W.ownsRow n0 84 5 (.slice (some ⟨g, 0, none⟩) 1 cap) 1 (rowC a) := by
    rcases hb.2.2 with ⟨h, _⟩ | ⟨_, h⟩
    · exact absurd h ha0
    · exact h
  have hgB : g ≠ B := fun e => own_far hown hb.2.1 (by decide) (by rw [e]; rfl)
  have hBlt := hb.lt
  have hglt : g < W.heap.size := (World.ownsRow.lt hown g rfl).2
  have HB := hide hb
  have HO := hide hown
  have HR := hide hr
  have Ha := hide ha
  have Hb6 := hide hb6
  have Ha0 := hide ha0
  have Hb0 := hide hb0
  clear hb hown hr ha hb6 ha0 hb0
  go_enter Tryd.func76, Tryd.ntmps76
  go_wp2
  obtain ⟨W3, hW3⟩ : ∃ W3, ((W.alloc (.cells #[.slice (some ⟨r, 0, none⟩) 1 c] 52)).alloc (.cells #[.slice none 0 0] 52)).alloc (.cells #[.slice none 0 0] 52) = W3 := ⟨_, rfl⟩
  have h3 : W3.heap.size = W.heap.size + 3 := by rw [← hW3]; simp
  have b3 : Below W.heap.size W W3 := by rw [← hW3]; exact bnew (bnew (bnew (Below.refl _ _) _) _) _
  have k1 : W3.heap[W.heap.size + 1]? = some (.cells #[.slice none 0 0] 52 (0, 0)) := by
    rw [← hW3]
    have := heap_alloc_new (W.alloc (.cells #[.slice (some ⟨r, 0, none⟩) 1 c] 52)) (.cells #[.slice none 0 0] 52)
    rw [World.size_alloc] at this
    exact (Below.heap_alloc _ _ _ (by simp)).trans this
  have k2 : W3.heap[W.heap.size + 1 + 1]? = some (.cells #[.slice none 0 0] 52 (0, 0)) := by
    rw [← hW3]
    have := heap_alloc_new ((W.alloc (.cells #[.slice (some ⟨r, 0, none⟩) 1 c] 52)).alloc (.cells #[.slice none 0 0] 52)) (.cells #[.slice none 0 0] 52)
    rw [World.size_alloc, World.size_alloc] at this
    exact this
  rw [hW3]
  clear hW3
  have K1 := hide k1
  have K2 := hide k2
  have H3 := hide h3
  have B3 := hide b3
  have Hn := hide hc
  clear k1 k2 h3 b3 hc
  go_loopw [15] (fun y wr => (y = .int .i64 0 ∧ wr = W3) ∨ (y = .int .i64 1 ∧ ∃ u n cu, wr.heap[B]? = some (.cells #[.slice (some ⟨g, 0, none⟩) 1 cap] 52 (0, 0)) ∧ wr.ownsRow n0 84 5 (.slice (some ⟨g, 0, none⟩) 1 cap) 1 (rowC (a ||| b)) ∧ Turns (fun k => k = g ∨ k = W.heap.size + 1 + 1) W3 wr ∧
    wr.heap[W.heap.size + 1 + 1]? = some (.cells #[.slice u n cu] 52 (0, 0)) ∧ SetV wr (.slice u n cu) (diffN b a) ∧ (∀ k, (Value.slice u n cu).ownBlock = some k → W.heap.size + 3 ≤ k))) (fun y _ => 1 - (intOf y).toNat)
  case atStart => exact Or.inl ⟨rfl, rfl⟩
  case round =>
    rcases hrel with ⟨rfl, rfl⟩ | ⟨rfl, u, n, cu, hbx, ho, ht, q2, hsv, hfar⟩
    · obtain ⟨w3, hw3⟩ : ∃ w3, w3 = wr := ⟨wr, rfl⟩
      subst hw3
      obtain ⟨_, t0, t1, t2, t3, t4⟩ := (HR.out.below B3.out).five
      go_wp2
      obtain ⟨W4, hW4⟩ : ∃ W4, w3.alloc (.cells #[.int .i64 0, .int .u64 (b : Int), .int .u64 0, .int .u64 0, .int .u64 0] 84) = W4 := ⟨_, rfl⟩
      have b4 : Below w3.heap.size w3 W4 := by rw [← hW4]; exact bnew (Below.refl _ _) _
      have h4 : W4.heap.size = w3.heap.size + 1 := by rw [← hW4]; simp
      have row4 : W4.heap[w3.heap.size]? = some (.cells (rowC b).toArray 84 (0, 0)) := by rw [← hW4]; exact heap_alloc_new _ _
      rw [hW4]
      have cB : W4.cell? ⟨B, 0, none⟩ = some (.slice (some ⟨g, 0, none⟩) 1 cap) := cell_of_one (HB.out.below (bgo B3.out b4)).2.1
      obtain ⟨⟨_, r0, r1, r2, r3, r4⟩, _⟩ := rowA_five row4
      have B4 := hide b4
      have H4 := hide h4
      have R4 := hide row4
      have HC := hide (search88_one g cap a W4.drew ⟨by show g < W4.heap.size; have := B3.out.size; have := b4.size; omega, fun j hj => (World.ownsRow.cellAt (owns_below' HO.out (bgo B3.out b4)) j (by omega))⟩)
      have HK := hide (show ∀ w', Below W4.drew.heap.size W4.drew w' → w'.cell? ⟨B, 0, none⟩ = some (.slice (some ⟨g, 0, none⟩) 1 cap) ∧ w'.cell? ⟨w3.heap.size, 0, none⟩ = some (.int .i64 0) from fun w' hb => by
        have key : ∀ p v, W4.cell? p = some v → w'.cell? p = some v := fun p v h => (hb.cell (p := p) (World.block_lt_of_cell? _ _ h)).trans h
        exact ⟨key _ _ cB, key _ _ r0⟩)
      clear hW4 b4 h4 row4 t0 t1 t2 t3 t4
      go_region_held3 (fun w' => w'.cell? ⟨B, 0, none⟩ = some (.slice (some ⟨g, 0, none⟩) 1 cap) ∧ w'.cell? ⟨w3.heap.size, 0, none⟩ = some (.int .i64 0))
        (first | go_keep | exact HK.out _ hb5)
        (first | (go_at_call 88; refine HC.out.mono ?_; rintro e w5 ⟨rfl, hb5⟩))
      have B5 := hide ((show Below W4.heap.size W4 W4.drew from bel_drew _).trans hb5)
      have hsz5 := hb5.size
      have hbB5 := HB.out.below (bgo B3.out (bgo B4.out B5.out))
      have R5 := hide ((B5.out.block _ (by rw [H4.out]; omega)).trans R4.out)
      have cB5 := cell_of_one hbB5.2.1
      obtain ⟨⟨_, r0, r1, r2, r3, r4⟩, _⟩ := rowA_five R5.out
      have O5 := hide (owns_below' HO.out (bgo B3.out (bgo B4.out B5.out)))
      have HB5 := hide hbB5
      have hlo : W.heap.size + 4 ≤ w5.heap.size := by have := B5.out.size; rw [H4.out, H3.out] at this; omega
      have B35 := hide (Turns.of_below (p := fun k => k = g) (bgo B4.out B5.out))
      obtain ⟨N, hN⟩ : ∃ N, w5.heap.size + 1 = N := ⟨_, rfl⟩
      have hRB : w3.heap.size < w5.heap.size := by rw [H3.out]; omega
      have hgR : w3.heap.size ≠ g := by rw [H3.out]; omega
      have hBR : B ≠ g := fun e => hgB e.symm
      have HKs := hide (show ∀ X Y, ((X.cell? ⟨B, 0, none⟩ = some (.slice (some ⟨g, 0, none⟩) 1 cap) ∧ X.cell? ⟨w3.heap.size, 0, none⟩ = some (.int .i64 0) ∧ X.cell? ⟨w3.heap.size, 1, none⟩ = some (.int .u64 (b : Int)) ∧ X.cell? ⟨w3.heap.size, 2, none⟩ = some (.int .u64 0) ∧ X.cell? ⟨w3.heap.size, 3, none⟩ = some (.int .u64 0) ∧ X.cell? ⟨w3.heap.size, 4, none⟩ = some (.int .u64 0)) ∧ (X.heap.size ≤ N → Below w5.heap.size w5 X)) → Below X.heap.size X Y → (Y.cell? ⟨B, 0, none⟩ = some (.slice (some ⟨g, 0, none⟩) 1 cap) ∧ Y.cell? ⟨w3.heap.size, 0, none⟩ = some (.int .i64 0) ∧ Y.cell? ⟨w3.heap.size, 1, none⟩ = some (.int .u64 (b : Int)) ∧ Y.cell? ⟨w3.heap.size, 2, none⟩ = some (.int .u64 0) ∧ Y.cell? ⟨w3.heap.size, 3, none⟩ = some (.int .u64 0) ∧ Y.cell? ⟨w3.heap.size, 4, none⟩ = some (.int .u64 0)) ∧ (Y.heap.size ≤ N → Below w5.heap.size w5 Y) from fun X Y ⟨⟨c0, c1, c2, c3, c4, c5⟩, hX⟩ hb => by
        have key : ∀ p v, X.cell? p = some v → Y.cell? p = some v := fun p v h => (hb.cell (p := p) (World.block_lt_of_cell? _ _ h)).trans h
        exact ⟨⟨key _ _ c0, key _ _ c1, key _ _ c2, key _ _ c3, key _ _ c4, key _ _ c5⟩, fun hy => bgo (hX (by have := hb.size; omega)) hb⟩)
      have HKt := hide (show ∀ X Y, ((X.cell? ⟨B, 0, none⟩ = some (.slice (some ⟨g, 0, none⟩) 1 cap) ∧ X.cell? ⟨w3.heap.size, 0, none⟩ = some (.int .i64 0) ∧ X.cell? ⟨w3.heap.size, 1, none⟩ = some (.int .u64 (b : Int)) ∧ X.cell? ⟨w3.heap.size, 2, none⟩ = some (.int .u64 0) ∧ X.cell? ⟨w3.heap.size, 3, none⟩ = some (.int .u64 0) ∧ X.cell? ⟨w3.heap.size, 4, none⟩ = some (.int .u64 0)) ∧ (X.heap.size ≤ N → Below w5.heap.size w5 X)) → Turns (fun k => k = g) X Y → N < Y.heap.size → (Y.cell? ⟨B, 0, none⟩ = some (.slice (some ⟨g, 0, none⟩) 1 cap) ∧ Y.cell? ⟨w3.heap.size, 0, none⟩ = some (.int .i64 0) ∧ Y.cell? ⟨w3.heap.size, 1, none⟩ = some (.int .u64 (b : Int)) ∧ Y.cell? ⟨w3.heap.size, 2, none⟩ = some (.int .u64 0) ∧ Y.cell? ⟨w3.heap.size, 3, none⟩ = some (.int .u64 0) ∧ Y.cell? ⟨w3.heap.size, 4, none⟩ = some (.int .u64 0)) ∧ (Y.heap.size ≤ N → Below w5.heap.size w5 Y) from fun X Y ⟨⟨c0, c1, c2, c3, c4, c5⟩, hX⟩ ht hn => by
        have key : ∀ p v, p.block ≠ g → X.cell? p = some v → Y.cell? p = some v := fun p v hp h => (World.cell?_of_block (a := p) (ht.block _ (World.block_lt_of_cell? _ _ h) hp)).trans h
        exact ⟨⟨key ⟨B, 0, none⟩ _ hBR c0, key ⟨w3.heap.size, 0, none⟩ _ hgR c1, key ⟨w3.heap.size, 1, none⟩ _ hgR c2, key ⟨w3.heap.size, 2, none⟩ _ hgR c3, key ⟨w3.heap.size, 3, none⟩ _ hgR c4, key ⟨w3.heap.size, 4, none⟩ _ hgR c5⟩, fun hy => by omega⟩)
      have HS0 := hide (show (w5.drew.cell? ⟨B, 0, none⟩ = some (.slice (some ⟨g, 0, none⟩) 1 cap) ∧ w5.drew.cell? ⟨w3.heap.size, 0, none⟩ = some (.int .i64 0) ∧ w5.drew.cell? ⟨w3.heap.size, 1, none⟩ = some (.int .u64 (b : Int)) ∧ w5.drew.cell? ⟨w3.heap.size, 2, none⟩ = some (.int .u64 0) ∧ w5.drew.cell? ⟨w3.heap.size, 3, none⟩ = some (.int .u64 0) ∧ w5.drew.cell? ⟨w3.heap.size, 4, none⟩ = some (.int .u64 0)) ∧ (w5.drew.heap.size ≤ N → Below w5.heap.size w5 w5.drew) from ⟨⟨cB5, r0, r1, r2, r3, r4⟩, fun _ => bel_drew _⟩)
      have HC2 := hide (fun X (hs : (X.cell? ⟨B, 0, none⟩ = some (.slice (some ⟨g, 0, none⟩) 1 cap) ∧ X.cell? ⟨w3.heap.size, 0, none⟩ = some (.int .i64 0) ∧ X.cell? ⟨w3.heap.size, 1, none⟩ = some (.int .u64 (b : Int)) ∧ X.cell? ⟨w3.heap.size, 2, none⟩ = some (.int .u64 0) ∧ X.cell? ⟨w3.heap.size, 3, none⟩ = some (.int .u64 0) ∧ X.cell? ⟨w3.heap.size, 4, none⟩ = some (.int .u64 0)) ∧ (X.heap.size ≤ N → Below w5.heap.size w5 X)) (hn : X.heap.size ≤ N) (h5 : w5.heap.size ≤ X.heap.size) => (radd90 n0 g cap a b X (owns_below' O5.out (hs.2 hn)) Ha.out Hb6.out).mono (R' := fun e w' => e = .returned (.agg #[.int .i64 0, .int .u64 (diffN b a : Nat), .int .u64 0, .int .u64 0, .int .u64 0]) ∧ w'.ownsRow n0 84 5 (.slice (some ⟨g, 0, none⟩) 1 cap) 1 (rowC (a ||| b)) ∧ Turns (fun k => k = g) X w' ∧ N < w'.heap.size) fun e w' ⟨he, h1, h2, h3⟩ => ⟨he, h1, h2, by omega⟩)
      have HS1 := hide (HKs.out w5.drew (w5.alloc (.cells #[.int .i64 0, .int .u64 0, .int .u64 0, .int .u64 0, .int .u64 0] 84)).drew HS0.out (by have := bel_alloc w5.drew (.cells #[.int .i64 0, .int .u64 0, .int .u64 0, .int .u64 0, .int .u64 0] 84); exact this))
      have HC3 := hide ((HC2.out _ HS1.out (by simp; omega) (by simp)).mono (R' := fun e w' => e = .returned (.agg #[.int .i64 0, .int .u64 (diffN b a : Nat), .int .u64 0, .int .u64 0, .int .u64 0]) ∧ w'.ownsRow n0 84 5 (.slice (some ⟨g, 0, none⟩) 1 cap) 1 (rowC (a ||| b)) ∧ Turns (fun k => k = g) (w5.alloc (.cells #[.int .i64 0, .int .u64 0, .int .u64 0, .int .u64 0, .int .u64 0] 84)).drew w' ∧ N < w'.heap.size ∧
        FiveF w' w5.heap.size (.int .i64 0) (.int .u64 0) (.int .u64 0) (.int .u64 0) (.int .u64 0)) fun e w' ⟨he, h1, h2, h3⟩ => ⟨he, h1, h2, h3, rowA_five (x := 0) ((h2.block w5.heap.size (by simp) (by omega)).trans (heap_alloc_new w5 _))⟩)
      have HKp := hide (show ∀ X u0 u1 u2 u3 u4, ((X.cell? ⟨B, 0, none⟩ = some (.slice (some ⟨g, 0, none⟩) 1 cap) ∧ X.cell? ⟨w3.heap.size, 0, none⟩ = some (.int .i64 0) ∧ X.cell? ⟨w3.heap.size, 1, none⟩ = some (.int .u64 (b : Int)) ∧ X.cell? ⟨w3.heap.size, 2, none⟩ = some (.int .u64 0) ∧ X.cell? ⟨w3.heap.size, 3, none⟩ = some (.int .u64 0) ∧ X.cell? ⟨w3.heap.size, 4, none⟩ = some (.int .u64 0)) ∧ (X.heap.size ≤ N → Below w5.heap.size w5 X)) → N < X.heap.size → ((((((X.setCell ⟨w5.heap.size, 0, none⟩ u0).setCell ⟨w5.heap.size, 1, none⟩ u1).setCell ⟨w5.heap.size, 2, none⟩ u2).setCell ⟨w5.heap.size, 3, none⟩ u3).setCell ⟨w5.heap.size, 4, none⟩ u4).cell? ⟨B, 0, none⟩ = some (.slice (some ⟨g, 0, none⟩) 1 cap) ∧ (((((X.setCell ⟨w5.heap.size, 0, none⟩ u0).setCell ⟨w5.heap.size, 1, none⟩ u1).setCell ⟨w5.heap.size, 2, none⟩ u2).setCell ⟨w5.heap.size, 3, none⟩ u3).setCell ⟨w5.heap.size, 4, none⟩ u4).cell? ⟨w3.heap.size, 0, none⟩ = some (.int .i64 0) ∧ (((((X.setCell ⟨w5.heap.size, 0, none⟩ u0).setCell ⟨w5.heap.size, 1, none⟩ u1).setCell ⟨w5.heap.size, 2, none⟩ u2).setCell ⟨w5.heap.size, 3, none⟩ u3).setCell ⟨w5.heap.size, 4, none⟩ u4).cell? ⟨w3.heap.size, 1, none⟩ = some (.int .u64 (b : Int)) ∧ (((((X.setCell ⟨w5.heap.size, 0, none⟩ u0).setCell ⟨w5.heap.size, 1, none⟩ u1).setCell ⟨w5.heap.size, 2, none⟩ u2).setCell ⟨w5.heap.size, 3, none⟩ u3).setCell ⟨w5.heap.size, 4, none⟩ u4).cell? ⟨w3.heap.size, 2, none⟩ = some (.int .u64 0) ∧ (((((X.setCell ⟨w5.heap.size, 0, none⟩ u0).setCell ⟨w5.heap.size, 1, none⟩ u1).setCell ⟨w5.heap.size, 2, none⟩ u2).setCell ⟨w5.heap.size, 3, none⟩ u3).setCell ⟨w5.heap.size, 4, none⟩ u4).cell? ⟨w3.heap.size, 3, none⟩ = some (.int .u64 0) ∧ (((((X.setCell ⟨w5.heap.size, 0, none⟩ u0).setCell ⟨w5.heap.size, 1, none⟩ u1).setCell ⟨w5.heap.size, 2, none⟩ u2).setCell ⟨w5.heap.size, 3, none⟩ u3).setCell ⟨w5.heap.size, 4, none⟩ u4).cell? ⟨w3.heap.size, 4, none⟩ = some (.int .u64 0)) ∧ ((((((X.setCell ⟨w5.heap.size, 0, none⟩ u0).setCell ⟨w5.heap.size, 1, none⟩ u1).setCell ⟨w5.heap.size, 2, none⟩ u2).setCell ⟨w5.heap.size, 3, none⟩ u3).setCell ⟨w5.heap.size, 4, none⟩ u4).heap.size ≤ N → Below w5.heap.size w5 (((((X.setCell ⟨w5.heap.size, 0, none⟩ u0).setCell ⟨w5.heap.size, 1, none⟩ u1).setCell ⟨w5.heap.size, 2, none⟩ u2).setCell ⟨w5.heap.size, 3, none⟩ u3).setCell ⟨w5.heap.size, 4, none⟩ u4)) from fun X u0 u1 u2 u3 u4 ⟨⟨c0, c1, c2, c3, c4, c5⟩, hX⟩ hn => by
        have e1 : B ≠ w5.heap.size := by omega
        have e2 : w3.heap.size ≠ w5.heap.size := by omega
        exact ⟨⟨(put5_cell (p := ⟨B, 0, none⟩) e1).trans c0, (put5_cell (p := ⟨w3.heap.size, 0, none⟩) e2).trans c1, (put5_cell (p := ⟨w3.heap.size, 1, none⟩) e2).trans c2, (put5_cell (p := ⟨w3.heap.size, 2, none⟩) e2).trans c3, (put5_cell (p := ⟨w3.heap.size, 3, none⟩) e2).trans c4, (put5_cell (p := ⟨w3.heap.size, 4, none⟩) e2).trans c5⟩, fun hy => by simp [World.setCell] at hy; omega⟩)
      clear hbB5 hb5
      go_wp2
      go_region_held3 (fun w' => (w'.cell? ⟨B, 0, none⟩ = some (.slice (some ⟨g, 0, none⟩) 1 cap) ∧ w'.cell? ⟨w3.heap.size, 0, none⟩ = some (.int .i64 0) ∧ w'.cell? ⟨w3.heap.size, 1, none⟩ = some (.int .u64 (b : Int)) ∧ w'.cell? ⟨w3.heap.size, 2, none⟩ = some (.int .u64 0) ∧ w'.cell? ⟨w3.heap.size, 3, none⟩ = some (.int .u64 0) ∧ w'.cell? ⟨w3.heap.size, 4, none⟩ = some (.int .u64 0)) ∧ (w'.heap.size ≤ N → Below w5.heap.size w5 w'))
        (first | (with_reducible exact HS0.out) | (with_reducible exact HS1.out) | (with_reducible exact HKt.out _ _ HS0.out ht8 hn8) | (with_reducible exact HKt.out _ _ HS1.out ht8 hn8) | (with_reducible exact HKs.out _ _ (HKt.out _ _ HS0.out ht8 hn8) (bel_alloc _ _)) | (with_reducible exact HKp.out _ _ _ _ _ _ (HKt.out _ _ HS1.out ht8 hn8) hn8))
        (first
          | (go_at_call 90; (with_reducible refine HC3.out.mono ?_); rintro e w8 ⟨rfl, ho8, ht8, hn8, ⟨⟨hz8, z0, z1, z2, z3, z4⟩, y0, y1, y2, y3, y4⟩⟩)
          | (go_at_call 90; (with_reducible refine (HC2.out _ HS0.out (by simp; omega) (by simp)).mono ?_); rintro e w8 ⟨rfl, ho8, ht8, hn8⟩))
      rotate_left
      · have F9 := put5_five (u0 := .int .i64 0) (u1 := .int .u64 (diffN b a : Nat)) (u2 := .int .u64 0) (u3 := .int .u64 0) (u4 := .int .u64 0) (show FiveF w8 w5.heap.size (.int .i64 0) (.int .u64 0) (.int .u64 0) (.int .u64 0) (.int .u64 0) from ⟨⟨hz8, z0, z1, z2, z3, z4⟩, y0, y1, y2, y3, y4⟩)
        have O9 := put5_own (b := w5.heap.size) (u0 := .int .i64 0) (u1 := .int .u64 (diffN b a : Nat)) (u2 := .int .u64 0) (u3 := .int .u64 0) (u4 := .int .u64 0) ho8 (fun e => by simp [Value.ownBlock] at e; omega)
        have T9 := put5_turns (b := w5.heap.size) (u0 := .int .i64 0) (u1 := .int .u64 (diffN b a : Nat)) (u2 := .int .u64 0) (u3 := .int .u64 0) (u4 := .int .u64 0) ((B35.out.alloc _).drew.trans ht8 (r := fun k => k = g) (fun _ _ h => h) (fun _ _ h => h)) (by omega)
        unfold put5 at F9 O9 T9
        generalize (((((w8.setCell ⟨w5.heap.size, 0, none⟩ (.int .i64 0)).setCell ⟨w5.heap.size, 1, none⟩ (.int .u64 (diffN b a : Nat))).setCell ⟨w5.heap.size, 2, none⟩ (.int .u64 0)).setCell ⟨w5.heap.size, 3, none⟩ (.int .u64 0)).setCell ⟨w5.heap.size, 4, none⟩ (.int .u64 0)) = wx at F9 O9 T9 ⊢
        have Bx9 := hide ((T9.block B (by rw [H3.out]; omega) hBR).trans (HB.out.below B3.out).2.1)
        have K9 := hide ((T9.block (W.heap.size + 1 + 1) (by rw [H3.out]; omega) (by omega)).trans K2.out)
        have hcK := cell_of_one K9.out
        have hfK := free_of_one K9.out
        obtain ⟨_, x0, x1, x2, x3, x4⟩ := F9
        have O99 := hide O9
        have T99 := hide T9
        have hx3 := T9.size
        clear O9 T9 HC2 HC3 HS0 HS1 HKs HKt HKp ho8 ht8 HK HC hsz5 cB5 r0 r1 r2 r3 r4 cB
        by_cases hd0 : diffN b a = 0
        · have heq := fun w => eq82 9998 (diffN b a : Nat) 0 true (by rw [hd0]; rfl) w
          have Hd0 := hide hd0
          clear hd0
          go_wp2
          go_roundw
          case rel => exact Or.inr ⟨rfl, none, 0, 0, Bx9.out, O99.out, T99.out.wide fun _ h => Or.inl h, K9.out, by rw [Hd0.out]; exact Or.inl ⟨rfl, none, 0, rfl, by omega⟩, fun k hk => by cases hk⟩
          case measure => simp [intOf]
        · have heq := fun w => eq82 9998 (diffN b a : Nat) 0 false (by simp; omega) w
          have Hd0 := hide hd0
          clear hd0
          go_wp2_with (at_builtin; refine wp_push_row rfl (.tmp 58) (.tmp 60) 50 rfl i0 _ _ Tryd.underlying50 hi hz0 hz1 hz2 rfl (by decide) _ _ _ _ _ _ (rowC_one (diffN b a)) rfl _ rfl rfl ?_)
          intro g6 cap6 w6 hg6 ho6 hb6
          have O6 := hide ho6
          have B6 := hide hb6
          have hcK6 := (hb6.cell (p := ⟨W.heap.size + 1 + 1, 0, none⟩) (by rw [H3.out] at hx3; show W.heap.size + 1 + 1 < _; omega)).trans hcK
          have hfK6 := (hb6.frozen (p := ⟨W.heap.size + 1 + 1, 0, none⟩) (by rw [H3.out] at hx3; show W.heap.size + 1 + 1 < _; omega)).trans hfK
          clear ho6 hb6
          go_wp2
          go_roundw
          case rel =>
            have hgk : g6 ≠ W.heap.size + 1 + 1 := by rw [H3.out] at hx3; omega
            have T98 := hide ((T99.out.trans (Turns.of_below B6.out (p := fun k => k = g)) (r := fun k => k = g ∨ k = W.heap.size + 1 + 1) (fun _ _ h => Or.inl h) fun _ _ h => Or.inl h))
            refine Or.inr ⟨rfl, some ⟨g6, 0, none⟩, 1, cap6, ?_, ?_, ?_, ?_, ?_, ?_⟩
            · exact (Below.heap_setCell w6 ⟨W.heap.size + 1 + 1, 0, none⟩ _ B (by show B ≠ W.heap.size + 1 + 1; omega)).trans ((B6.out.block B (by rw [H3.out] at hx3; omega)).trans Bx9.out)
            · exact ownsRow_setCell_other (owns_below' O99.out B6.out) (fun e => by simp [Value.ownBlock] at e; omega) _
            · exact T98.out.set fun _ => Or.inr rfl
            · exact one_setCell ((B6.out.block _ (by rw [H3.out] at hx3; omega)).trans K9.out)
            · exact Acc.set (n0 := wx.heap.size) (Or.inr ⟨Hd0.out, ownsRow_setCell_other O6.out (fun e => by simp [Value.ownBlock] at e; omega) _⟩)
            · intro k hk
              simp [Value.ownBlock] at hk
              rw [H3.out] at hx3
              omega
          case measure => simp [intOf]
      · have F9 := five_new w8 (.int .i64 0) (.int .u64 (diffN b a : Nat)) (.int .u64 0) (.int .u64 0) (.int .u64 0) 84
        have O9 := ho8.alloc (.cells #[.int .i64 0, .int .u64 (diffN b a : Nat), .int .u64 0, .int .u64 0, .int .u64 0] 84)
        have T9 := (B35.out.drew.trans ht8 (r := fun k => k = g) (fun _ _ h => h) (fun _ _ h => h)).alloc (.cells #[.int .i64 0, .int .u64 (diffN b a : Nat), .int .u64 0, .int .u64 0, .int .u64 0] 84)
        generalize w8.alloc (.cells #[.int .i64 0, .int .u64 (diffN b a : Nat), .int .u64 0, .int .u64 0, .int .u64 0] 84) = wx at F9 O9 T9 ⊢
        have Bx9 := hide ((T9.block B (by rw [H3.out]; omega) hBR).trans (HB.out.below B3.out).2.1)
        have K9 := hide ((T9.block (W.heap.size + 1 + 1) (by rw [H3.out]; omega) (by omega)).trans K2.out)
        have hcK := cell_of_one K9.out
        have hfK := free_of_one K9.out
        obtain ⟨_, x0, x1, x2, x3, x4⟩ := F9
        have O99 := hide O9
        have T99 := hide T9
        have hx3 := T9.size
        clear O9 T9 HC2 HC3 HS0 HS1 HKs HKt HKp ho8 ht8 HK HC hsz5 cB5 r0 r1 r2 r3 r4 cB
        by_cases hd0 : diffN b a = 0
        · have heq := fun w => eq82 9998 (diffN b a : Nat) 0 true (by rw [hd0]; rfl) w
          have Hd0 := hide hd0
          clear hd0
          go_wp2
          go_roundw
          case rel => exact Or.inr ⟨rfl, none, 0, 0, Bx9.out, O99.out, T99.out.wide fun _ h => Or.inl h, K9.out, by rw [Hd0.out]; exact Or.inl ⟨rfl, none, 0, rfl, by omega⟩, fun k hk => by cases hk⟩
          case measure => simp [intOf]
        · have heq := fun w => eq82 9998 (diffN b a : Nat) 0 false (by simp; omega) w
          have Hd0 := hide hd0
          clear hd0
          go_wp2_with (at_builtin; refine wp_push_row rfl (.tmp 58) (.tmp 60) 50 rfl i0 _ _ Tryd.underlying50 hi hz0 hz1 hz2 rfl (by decide) _ _ _ _ _ _ (rowC_one (diffN b a)) rfl _ rfl rfl ?_)
          intro g6 cap6 w6 hg6 ho6 hb6
          have O6 := hide ho6
          have B6 := hide hb6
          have hcK6 := (hb6.cell (p := ⟨W.heap.size + 1 + 1, 0, none⟩) (by rw [H3.out] at hx3; show W.heap.size + 1 + 1 < _; omega)).trans hcK
          have hfK6 := (hb6.frozen (p := ⟨W.heap.size + 1 + 1, 0, none⟩) (by rw [H3.out] at hx3; show W.heap.size + 1 + 1 < _; omega)).trans hfK
          clear ho6 hb6
          go_wp2
          go_roundw
          case rel =>
            have hgk : g6 ≠ W.heap.size + 1 + 1 := by rw [H3.out] at hx3; omega
            have T98 := hide ((T99.out.trans (Turns.of_below B6.out (p := fun k => k = g)) (r := fun k => k = g ∨ k = W.heap.size + 1 + 1) (fun _ _ h => Or.inl h) fun _ _ h => Or.inl h))
            refine Or.inr ⟨rfl, some ⟨g6, 0, none⟩, 1, cap6, ?_, ?_, ?_, ?_, ?_, ?_⟩
            · exact (Below.heap_setCell w6 ⟨W.heap.size + 1 + 1, 0, none⟩ _ B (by show B ≠ W.heap.size + 1 + 1; omega)).trans ((B6.out.block B (by rw [H3.out] at hx3; omega)).trans Bx9.out)
            · exact ownsRow_setCell_other (owns_below' O99.out B6.out) (fun e => by simp [Value.ownBlock] at e; omega) _
            · exact T98.out.set fun _ => Or.inr rfl
            · exact one_setCell ((B6.out.block _ (by rw [H3.out] at hx3; omega)).trans K9.out)
            · exact Acc.set (n0 := wx.heap.size) (Or.inr ⟨Hd0.out, ownsRow_setCell_other O6.out (fun e => by simp [Value.ownBlock] at e; omega) _⟩)
            · intro k hk
              simp [Value.ownBlock] at hk
              rw [H3.out] at hx3
              omega
          case measure => simp [intOf]
    · have hK1 := hide ((ht.block (W.heap.size + 1) (by rw [H3.out]; omega) (by omega)).trans K1.out)
      have hcF := cell_of_one q2
      have hcR := cell_of_one hK1.out
      have hfR := free_of_one hK1.out
      have hs := World.cell?_setCell_same' wr ⟨W.heap.size + 1, 0, none⟩ (.slice u n cu) (by rw [hcR]; rfl)
      have X := hide hbx
      have O := hide ho
      have T := hide ht
      have V := hide hsv
      have Fa := hide hfar
      clear hbx ho ht hsv hfar q2
      go_wp2
      refine bodyPost_ret (v := .agg #[.slice u n cu]) (by simp [results, Tryd.results76, go_sem, hs]) rfl ⟨_, .slice (some ⟨g, 0, none⟩) 1 cap, rfl, ?_, ⟨HB.out.1, ?_, ?_⟩, ?_, Or.inl rfl⟩
      · exact setv_off V.out (fun e => by have := Fa.out _ e; omega)
      · exact (Below.heap_setCell wr ⟨W.heap.size + 1, 0, none⟩ _ B (by show B ≠ W.heap.size + 1; omega)).trans X.out
      · refine Or.inr ⟨?_, ownsRow_setCell_other (a := ⟨W.heap.size + 1, 0, none⟩) O.out (fun e => (show g ≠ W.heap.size + 1 by omega) (Option.some.inj e)) _⟩
        intro h
        exact Ha0.out (Nat.or_eq_zero_iff.1 h).1
      · refine (((Turns.of_below (p := fun _ => False) B3.out).trans T.out (r := fun k => k = B ∨ (Value.slice (some ⟨g, 0, none⟩) 1 cap).ownBlock = some k) (fun _ _ h => False.elim h) fun k hk h => ?_)).set fun h => absurd h (by show ¬ W.heap.size + 1 < _; omega)
        rcases h with rfl | rfl
        · exact Or.inr rfl
        · omega
end Go.Proofs.YtkghbhcjgogaeaaDoor
