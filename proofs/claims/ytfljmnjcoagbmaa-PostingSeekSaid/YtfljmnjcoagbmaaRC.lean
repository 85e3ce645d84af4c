/- The law of layer 5 on the operations of sets, over the contracts of what they call. -/
import Derived.Test.YtfljmnjcoagbmaaRB
namespace Go.Proofs.Ytfljmnjcoagbmaa
open Go.RowKit
open Go.Lib (byteCells)

set_option maxRecDepth 20000 in
set_option maxHeartbeats 6400000 in
theorem law7 (C : Cs) (A A' : Option Addr) (n c n' c' : Nat) (a b : List Int) (m : Int) (w : World) (h : Sl w A n c (numCells a)) (h' : Sl w A' n' c' (numCells b)) :
    Calls Try.prog 7 #[.slice A n c, .slice A' n' c', .int .i64 m] w fun e w' => e = .returned (.bool true) ∧ Below w.heap.size w w' := by
  have La := hide h.nlen
  have H := hide h
  have H' := hide h'
  have CC := hide C
  clear h h' C
  by_cases hb1 : 60 < n
  · go_enter Try.func7, Try.ntmps7
    go_wp2_with fail
    refine (CC.out.alive w).mono ?_
    rintro e w1 ⟨rfl, hb⟩
    have B1 := hide hb
    clear hb
    go_wp2
    go_ret
    exact ⟨rfl, B1.out⟩
  by_cases hb2 : 60 < n'
  · go_enter Try.func7, Try.ntmps7
    go_wp2_with fail
    refine (CC.out.alive w).mono ?_
    rintro e w1 ⟨rfl, hb⟩
    have B1 := hide hb
    clear hb
    go_wp2
    go_ret
    exact ⟨rfl, B1.out⟩
  by_cases ha : m ∈ a <;> by_cases hb : m ∈ b
  · have da : decide (m ∈ a) = true := decide_eq_true ha
    have db : decide (m ∈ b) = true := decide_eq_true hb
    have d1 : decide (m ∈ andS a b) = true := decide_eq_true (by rw [mem_and]; simp [ha, hb])
    have d2 : decide (m ∈ orS a b) = true := decide_eq_true (by rw [mem_or]; simp [ha, hb])
    have d3 : decide (m ∈ minusS a b) = false := decide_eq_false (by rw [mem_minus]; simp [ha, hb])
    clear ha hb
    go_enter Try.func7, Try.ntmps7
    go_wp2_with fail
    refine (CC.out.alive w).mono ?_
    rintro e w1 ⟨rfl, hb⟩
    have B1 := hide hb
    clear hb
    go_wp2_with fail
    with_reducible refine (rin31 _ A n c a m _ (H.out.below B1.out).reads (by omega)).mono ?_
    rintro e w2 ⟨rfl, rfl⟩
    rw [da]
    go_wp2_with fail
    with_reducible refine (rin31 _ A' n' c' b m _ (H'.out.below B1.out).reads (by omega)).mono ?_
    rintro e w2 ⟨rfl, rfl⟩
    rw [db]
    go_wp2_with fail
    with_reducible refine (CC.out.inter A A' n c n' c' a b _ (H.out.below B1.out) (H'.out.below B1.out) (by omega) (by omega)).mono ?_
    intro e w4 hg
    obtain ⟨A4, m4, c4, rfl, hm4, hs4, hb4⟩ := hg.sl
    have S4 := hide hs4
    have hm4c := hs4.2.1
    have hm4n := hs4.1
    have B4 := hide (bgo B1.out hb4)
    clear hg hs4 hb4 hm4
    go_wp2_with fail
    with_reducible refine (CC.out.union A A' n c n' c' a b _ (H.out.below B4.out) (H'.out.below B4.out) (by omega) (by omega)).mono ?_
    intro e w5 hg
    obtain ⟨A5, m5, c5, rfl, hm5, hs5, hb5⟩ := hg.sl
    have S5 := hide hs5
    have hm5c := hs5.2.1
    have hm5n := hs5.1
    have S45 := hide (S4.out.below hb5)
    have B5 := hide (bgo B4.out hb5)
    clear hg hs5 hb5 hm5 S4
    go_wp2_with fail
    with_reducible refine (CC.out.minus A A' n c n' c' a b _ (H.out.below B5.out) (H'.out.below B5.out) (by omega) (by omega)).mono ?_
    intro e w6 hg
    obtain ⟨A6, m6, c6, rfl, hm6, hs6, hb6⟩ := hg.sl
    have hm6b : m6 ≤ 60 := by
      have h1 := minusS_len a b
      rw [La.out] at h1
      omega
    have S6 := hide hs6
    have S46 := hide (S45.out.below hb6)
    have S56 := hide (S5.out.below hb6)
    have hm6c := hs6.2.1
    have B6 := hide (bgo B5.out hb6)
    clear hg hs6 hb6 hm6 S5 S45
    go_wp2_with fail
    with_reducible refine (rin31 _ A4 m4 c4 _ m _ S46.out.reads (by omega)).mono ?_
    rintro e w7 ⟨rfl, rfl⟩
    rw [d1]
    go_wp2_with fail
    with_reducible refine (rin31 _ A5 m5 c5 _ m _ S56.out.reads (by omega)).mono ?_
    rintro e w7 ⟨rfl, rfl⟩
    rw [d2]
    go_wp2_with fail
    with_reducible refine (rin31 _ A6 m6 c6 _ m _ S6.out.reads (by omega)).mono ?_
    rintro e w7 ⟨rfl, rfl⟩
    rw [d3]
    go_wp2_with fail
    with_reducible refine (CC.out.minus A A6 n c m6 c6 a _ _ (H.out.below B6.out) S6.out (by omega) (by omega)).mono ?_
    rw [minus_rest]
    intro e w7 hg
    obtain ⟨A7, m7, c7, rfl, -, hs7, hb7⟩ := hg.sl
    have S7 := hide hs7
    have S47 := hide (S46.out.below hb7)
    have S57 := hide (S56.out.below hb7)
    have S67 := hide (S6.out.below hb7)
    have B7 := hide (bgo B6.out hb7)
    clear hg hs7 hb7 S6 S46 S56
    go_wp2_with fail
    with_reducible refine (rsame13 A7 A4 m7 c7 m4 c4 _ _ S7.out S47.out).mono ?_
    rintro e w8 ⟨rfl, hd⟩
    have S48 := hide (S47.out.below (hd.below _))
    have S58 := hide (S57.out.below (hd.below _))
    have S68 := hide (S67.out.below (hd.below _))
    have B8 := hide (B7.out.trans (hd.below _))
    clear hd S7 S47 S57 S67
    go_wp2_with fail
    with_reducible refine (CC.out.union A6 A' m6 c6 n' c' _ b _ S68.out (H'.out.below B8.out) (by omega) (by omega)).mono ?_
    rw [or_rest]
    intro e w9 hg
    obtain ⟨A9, m9, c9, rfl, -, hs9, hb9⟩ := hg.sl
    have S9 := hide hs9
    have S49 := hide (S48.out.below hb9)
    have S59 := hide (S58.out.below hb9)
    have B9 := hide (bgo B8.out hb9)
    clear hg hs9 hb9 S68 S48 S58
    go_wp2_with fail
    with_reducible refine (rsame13 A9 A5 m9 c9 m5 c5 _ _ S9.out S59.out).mono ?_
    rintro e w10 ⟨rfl, hd⟩
    have S40 := hide (S49.out.below (hd.below _))
    have B10 := hide (B9.out.trans (hd.below _))
    clear hd S9 S59 S49
    go_wp2_with fail
    with_reducible refine (CC.out.inter A' A n' c' n c b a _ (H'.out.below B10.out) (H.out.below B10.out) (by omega) (by omega)).mono ?_
    rw [and_comm' a b]
    intro e w11 hg
    obtain ⟨A11, m11, c11, rfl, -, hs11, hb11⟩ := hg.sl
    have S11 := hide hs11
    have S41 := hide (S40.out.below hb11)
    have B11 := hide (bgo B10.out hb11)
    clear hg hs11 hb11 S40
    go_wp2_with fail
    with_reducible refine (rsame13 A11 A4 m11 c11 m4 c4 _ _ S11.out S41.out).mono ?_
    rintro e w12 ⟨rfl, hd⟩
    have B12 := hide (B11.out.trans (hd.below _))
    clear hd S11 S41
    go_wp2
    go_ret
    exact ⟨rfl, B12.out⟩
  · have da : decide (m ∈ a) = true := decide_eq_true ha
    have db : decide (m ∈ b) = false := decide_eq_false hb
    have d1 : decide (m ∈ andS a b) = false := decide_eq_false (by rw [mem_and]; simp [ha, hb])
    have d2 : decide (m ∈ orS a b) = true := decide_eq_true (by rw [mem_or]; simp [ha, hb])
    have d3 : decide (m ∈ minusS a b) = true := decide_eq_true (by rw [mem_minus]; simp [ha, hb])
    clear ha hb
    go_enter Try.func7, Try.ntmps7
    go_wp2_with fail
    refine (CC.out.alive w).mono ?_
    rintro e w1 ⟨rfl, hb⟩
    have B1 := hide hb
    clear hb
    go_wp2_with fail
    with_reducible refine (rin31 _ A n c a m _ (H.out.below B1.out).reads (by omega)).mono ?_
    rintro e w2 ⟨rfl, rfl⟩
    rw [da]
    go_wp2_with fail
    with_reducible refine (rin31 _ A' n' c' b m _ (H'.out.below B1.out).reads (by omega)).mono ?_
    rintro e w2 ⟨rfl, rfl⟩
    rw [db]
    go_wp2_with fail
    with_reducible refine (CC.out.inter A A' n c n' c' a b _ (H.out.below B1.out) (H'.out.below B1.out) (by omega) (by omega)).mono ?_
    intro e w4 hg
    obtain ⟨A4, m4, c4, rfl, hm4, hs4, hb4⟩ := hg.sl
    have S4 := hide hs4
    have hm4c := hs4.2.1
    have hm4n := hs4.1
    have B4 := hide (bgo B1.out hb4)
    clear hg hs4 hb4 hm4
    go_wp2_with fail
    with_reducible refine (CC.out.union A A' n c n' c' a b _ (H.out.below B4.out) (H'.out.below B4.out) (by omega) (by omega)).mono ?_
    intro e w5 hg
    obtain ⟨A5, m5, c5, rfl, hm5, hs5, hb5⟩ := hg.sl
    have S5 := hide hs5
    have hm5c := hs5.2.1
    have hm5n := hs5.1
    have S45 := hide (S4.out.below hb5)
    have B5 := hide (bgo B4.out hb5)
    clear hg hs5 hb5 hm5 S4
    go_wp2_with fail
    with_reducible refine (CC.out.minus A A' n c n' c' a b _ (H.out.below B5.out) (H'.out.below B5.out) (by omega) (by omega)).mono ?_
    intro e w6 hg
    obtain ⟨A6, m6, c6, rfl, hm6, hs6, hb6⟩ := hg.sl
    have hm6b : m6 ≤ 60 := by
      have h1 := minusS_len a b
      rw [La.out] at h1
      omega
    have S6 := hide hs6
    have S46 := hide (S45.out.below hb6)
    have S56 := hide (S5.out.below hb6)
    have hm6c := hs6.2.1
    have B6 := hide (bgo B5.out hb6)
    clear hg hs6 hb6 hm6 S5 S45
    go_wp2_with fail
    with_reducible refine (rin31 _ A4 m4 c4 _ m _ S46.out.reads (by omega)).mono ?_
    rintro e w7 ⟨rfl, rfl⟩
    rw [d1]
    go_wp2_with fail
    with_reducible refine (rin31 _ A5 m5 c5 _ m _ S56.out.reads (by omega)).mono ?_
    rintro e w7 ⟨rfl, rfl⟩
    rw [d2]
    go_wp2_with fail
    with_reducible refine (rin31 _ A6 m6 c6 _ m _ S6.out.reads (by omega)).mono ?_
    rintro e w7 ⟨rfl, rfl⟩
    rw [d3]
    go_wp2_with fail
    with_reducible refine (CC.out.minus A A6 n c m6 c6 a _ _ (H.out.below B6.out) S6.out (by omega) (by omega)).mono ?_
    rw [minus_rest]
    intro e w7 hg
    obtain ⟨A7, m7, c7, rfl, -, hs7, hb7⟩ := hg.sl
    have S7 := hide hs7
    have S47 := hide (S46.out.below hb7)
    have S57 := hide (S56.out.below hb7)
    have S67 := hide (S6.out.below hb7)
    have B7 := hide (bgo B6.out hb7)
    clear hg hs7 hb7 S6 S46 S56
    go_wp2_with fail
    with_reducible refine (rsame13 A7 A4 m7 c7 m4 c4 _ _ S7.out S47.out).mono ?_
    rintro e w8 ⟨rfl, hd⟩
    have S48 := hide (S47.out.below (hd.below _))
    have S58 := hide (S57.out.below (hd.below _))
    have S68 := hide (S67.out.below (hd.below _))
    have B8 := hide (B7.out.trans (hd.below _))
    clear hd S7 S47 S57 S67
    go_wp2_with fail
    with_reducible refine (CC.out.union A6 A' m6 c6 n' c' _ b _ S68.out (H'.out.below B8.out) (by omega) (by omega)).mono ?_
    rw [or_rest]
    intro e w9 hg
    obtain ⟨A9, m9, c9, rfl, -, hs9, hb9⟩ := hg.sl
    have S9 := hide hs9
    have S49 := hide (S48.out.below hb9)
    have S59 := hide (S58.out.below hb9)
    have B9 := hide (bgo B8.out hb9)
    clear hg hs9 hb9 S68 S48 S58
    go_wp2_with fail
    with_reducible refine (rsame13 A9 A5 m9 c9 m5 c5 _ _ S9.out S59.out).mono ?_
    rintro e w10 ⟨rfl, hd⟩
    have S40 := hide (S49.out.below (hd.below _))
    have B10 := hide (B9.out.trans (hd.below _))
    clear hd S9 S59 S49
    go_wp2_with fail
    with_reducible refine (CC.out.inter A' A n' c' n c b a _ (H'.out.below B10.out) (H.out.below B10.out) (by omega) (by omega)).mono ?_
    rw [and_comm' a b]
    intro e w11 hg
    obtain ⟨A11, m11, c11, rfl, -, hs11, hb11⟩ := hg.sl
    have S11 := hide hs11
    have S41 := hide (S40.out.below hb11)
    have B11 := hide (bgo B10.out hb11)
    clear hg hs11 hb11 S40
    go_wp2_with fail
    with_reducible refine (rsame13 A11 A4 m11 c11 m4 c4 _ _ S11.out S41.out).mono ?_
    rintro e w12 ⟨rfl, hd⟩
    have B12 := hide (B11.out.trans (hd.below _))
    clear hd S11 S41
    go_wp2
    go_ret
    exact ⟨rfl, B12.out⟩
  · have da : decide (m ∈ a) = false := decide_eq_false ha
    have db : decide (m ∈ b) = true := decide_eq_true hb
    have d1 : decide (m ∈ andS a b) = false := decide_eq_false (by rw [mem_and]; simp [ha, hb])
    have d2 : decide (m ∈ orS a b) = true := decide_eq_true (by rw [mem_or]; simp [ha, hb])
    have d3 : decide (m ∈ minusS a b) = false := decide_eq_false (by rw [mem_minus]; simp [ha, hb])
    clear ha hb
    go_enter Try.func7, Try.ntmps7
    go_wp2_with fail
    refine (CC.out.alive w).mono ?_
    rintro e w1 ⟨rfl, hb⟩
    have B1 := hide hb
    clear hb
    go_wp2_with fail
    with_reducible refine (rin31 _ A n c a m _ (H.out.below B1.out).reads (by omega)).mono ?_
    rintro e w2 ⟨rfl, rfl⟩
    rw [da]
    go_wp2_with fail
    with_reducible refine (rin31 _ A' n' c' b m _ (H'.out.below B1.out).reads (by omega)).mono ?_
    rintro e w2 ⟨rfl, rfl⟩
    rw [db]
    go_wp2_with fail
    with_reducible refine (CC.out.inter A A' n c n' c' a b _ (H.out.below B1.out) (H'.out.below B1.out) (by omega) (by omega)).mono ?_
    intro e w4 hg
    obtain ⟨A4, m4, c4, rfl, hm4, hs4, hb4⟩ := hg.sl
    have S4 := hide hs4
    have hm4c := hs4.2.1
    have hm4n := hs4.1
    have B4 := hide (bgo B1.out hb4)
    clear hg hs4 hb4 hm4
    go_wp2_with fail
    with_reducible refine (CC.out.union A A' n c n' c' a b _ (H.out.below B4.out) (H'.out.below B4.out) (by omega) (by omega)).mono ?_
    intro e w5 hg
    obtain ⟨A5, m5, c5, rfl, hm5, hs5, hb5⟩ := hg.sl
    have S5 := hide hs5
    have hm5c := hs5.2.1
    have hm5n := hs5.1
    have S45 := hide (S4.out.below hb5)
    have B5 := hide (bgo B4.out hb5)
    clear hg hs5 hb5 hm5 S4
    go_wp2_with fail
    with_reducible refine (CC.out.minus A A' n c n' c' a b _ (H.out.below B5.out) (H'.out.below B5.out) (by omega) (by omega)).mono ?_
    intro e w6 hg
    obtain ⟨A6, m6, c6, rfl, hm6, hs6, hb6⟩ := hg.sl
    have hm6b : m6 ≤ 60 := by
      have h1 := minusS_len a b
      rw [La.out] at h1
      omega
    have S6 := hide hs6
    have S46 := hide (S45.out.below hb6)
    have S56 := hide (S5.out.below hb6)
    have hm6c := hs6.2.1
    have B6 := hide (bgo B5.out hb6)
    clear hg hs6 hb6 hm6 S5 S45
    go_wp2_with fail
    with_reducible refine (rin31 _ A4 m4 c4 _ m _ S46.out.reads (by omega)).mono ?_
    rintro e w7 ⟨rfl, rfl⟩
    rw [d1]
    go_wp2_with fail
    with_reducible refine (rin31 _ A5 m5 c5 _ m _ S56.out.reads (by omega)).mono ?_
    rintro e w7 ⟨rfl, rfl⟩
    rw [d2]
    go_wp2_with fail
    with_reducible refine (rin31 _ A6 m6 c6 _ m _ S6.out.reads (by omega)).mono ?_
    rintro e w7 ⟨rfl, rfl⟩
    rw [d3]
    go_wp2_with fail
    with_reducible refine (CC.out.minus A A6 n c m6 c6 a _ _ (H.out.below B6.out) S6.out (by omega) (by omega)).mono ?_
    rw [minus_rest]
    intro e w7 hg
    obtain ⟨A7, m7, c7, rfl, -, hs7, hb7⟩ := hg.sl
    have S7 := hide hs7
    have S47 := hide (S46.out.below hb7)
    have S57 := hide (S56.out.below hb7)
    have S67 := hide (S6.out.below hb7)
    have B7 := hide (bgo B6.out hb7)
    clear hg hs7 hb7 S6 S46 S56
    go_wp2_with fail
    with_reducible refine (rsame13 A7 A4 m7 c7 m4 c4 _ _ S7.out S47.out).mono ?_
    rintro e w8 ⟨rfl, hd⟩
    have S48 := hide (S47.out.below (hd.below _))
    have S58 := hide (S57.out.below (hd.below _))
    have S68 := hide (S67.out.below (hd.below _))
    have B8 := hide (B7.out.trans (hd.below _))
    clear hd S7 S47 S57 S67
    go_wp2_with fail
    with_reducible refine (CC.out.union A6 A' m6 c6 n' c' _ b _ S68.out (H'.out.below B8.out) (by omega) (by omega)).mono ?_
    rw [or_rest]
    intro e w9 hg
    obtain ⟨A9, m9, c9, rfl, -, hs9, hb9⟩ := hg.sl
    have S9 := hide hs9
    have S49 := hide (S48.out.below hb9)
    have S59 := hide (S58.out.below hb9)
    have B9 := hide (bgo B8.out hb9)
    clear hg hs9 hb9 S68 S48 S58
    go_wp2_with fail
    with_reducible refine (rsame13 A9 A5 m9 c9 m5 c5 _ _ S9.out S59.out).mono ?_
    rintro e w10 ⟨rfl, hd⟩
    have S40 := hide (S49.out.below (hd.below _))
    have B10 := hide (B9.out.trans (hd.below _))
    clear hd S9 S59 S49
    go_wp2_with fail
    with_reducible refine (CC.out.inter A' A n' c' n c b a _ (H'.out.below B10.out) (H.out.below B10.out) (by omega) (by omega)).mono ?_
    rw [and_comm' a b]
    intro e w11 hg
    obtain ⟨A11, m11, c11, rfl, -, hs11, hb11⟩ := hg.sl
    have S11 := hide hs11
    have S41 := hide (S40.out.below hb11)
    have B11 := hide (bgo B10.out hb11)
    clear hg hs11 hb11 S40
    go_wp2_with fail
    with_reducible refine (rsame13 A11 A4 m11 c11 m4 c4 _ _ S11.out S41.out).mono ?_
    rintro e w12 ⟨rfl, hd⟩
    have B12 := hide (B11.out.trans (hd.below _))
    clear hd S11 S41
    go_wp2
    go_ret
    exact ⟨rfl, B12.out⟩
  · have da : decide (m ∈ a) = false := decide_eq_false ha
    have db : decide (m ∈ b) = false := decide_eq_false hb
    have d1 : decide (m ∈ andS a b) = false := decide_eq_false (by rw [mem_and]; simp [ha, hb])
    have d2 : decide (m ∈ orS a b) = false := decide_eq_false (by rw [mem_or]; simp [ha, hb])
    have d3 : decide (m ∈ minusS a b) = false := decide_eq_false (by rw [mem_minus]; simp [ha, hb])
    clear ha hb
    go_enter Try.func7, Try.ntmps7
    go_wp2_with fail
    refine (CC.out.alive w).mono ?_
    rintro e w1 ⟨rfl, hb⟩
    have B1 := hide hb
    clear hb
    go_wp2_with fail
    with_reducible refine (rin31 _ A n c a m _ (H.out.below B1.out).reads (by omega)).mono ?_
    rintro e w2 ⟨rfl, rfl⟩
    rw [da]
    go_wp2_with fail
    with_reducible refine (rin31 _ A' n' c' b m _ (H'.out.below B1.out).reads (by omega)).mono ?_
    rintro e w2 ⟨rfl, rfl⟩
    rw [db]
    go_wp2_with fail
    with_reducible refine (CC.out.inter A A' n c n' c' a b _ (H.out.below B1.out) (H'.out.below B1.out) (by omega) (by omega)).mono ?_
    intro e w4 hg
    obtain ⟨A4, m4, c4, rfl, hm4, hs4, hb4⟩ := hg.sl
    have S4 := hide hs4
    have hm4c := hs4.2.1
    have hm4n := hs4.1
    have B4 := hide (bgo B1.out hb4)
    clear hg hs4 hb4 hm4
    go_wp2_with fail
    with_reducible refine (CC.out.union A A' n c n' c' a b _ (H.out.below B4.out) (H'.out.below B4.out) (by omega) (by omega)).mono ?_
    intro e w5 hg
    obtain ⟨A5, m5, c5, rfl, hm5, hs5, hb5⟩ := hg.sl
    have S5 := hide hs5
    have hm5c := hs5.2.1
    have hm5n := hs5.1
    have S45 := hide (S4.out.below hb5)
    have B5 := hide (bgo B4.out hb5)
    clear hg hs5 hb5 hm5 S4
    go_wp2_with fail
    with_reducible refine (CC.out.minus A A' n c n' c' a b _ (H.out.below B5.out) (H'.out.below B5.out) (by omega) (by omega)).mono ?_
    intro e w6 hg
    obtain ⟨A6, m6, c6, rfl, hm6, hs6, hb6⟩ := hg.sl
    have hm6b : m6 ≤ 60 := by
      have h1 := minusS_len a b
      rw [La.out] at h1
      omega
    have S6 := hide hs6
    have S46 := hide (S45.out.below hb6)
    have S56 := hide (S5.out.below hb6)
    have hm6c := hs6.2.1
    have B6 := hide (bgo B5.out hb6)
    clear hg hs6 hb6 hm6 S5 S45
    go_wp2_with fail
    with_reducible refine (rin31 _ A4 m4 c4 _ m _ S46.out.reads (by omega)).mono ?_
    rintro e w7 ⟨rfl, rfl⟩
    rw [d1]
    go_wp2_with fail
    with_reducible refine (rin31 _ A5 m5 c5 _ m _ S56.out.reads (by omega)).mono ?_
    rintro e w7 ⟨rfl, rfl⟩
    rw [d2]
    go_wp2_with fail
    with_reducible refine (rin31 _ A6 m6 c6 _ m _ S6.out.reads (by omega)).mono ?_
    rintro e w7 ⟨rfl, rfl⟩
    rw [d3]
    go_wp2_with fail
    with_reducible refine (CC.out.minus A A6 n c m6 c6 a _ _ (H.out.below B6.out) S6.out (by omega) (by omega)).mono ?_
    rw [minus_rest]
    intro e w7 hg
    obtain ⟨A7, m7, c7, rfl, -, hs7, hb7⟩ := hg.sl
    have S7 := hide hs7
    have S47 := hide (S46.out.below hb7)
    have S57 := hide (S56.out.below hb7)
    have S67 := hide (S6.out.below hb7)
    have B7 := hide (bgo B6.out hb7)
    clear hg hs7 hb7 S6 S46 S56
    go_wp2_with fail
    with_reducible refine (rsame13 A7 A4 m7 c7 m4 c4 _ _ S7.out S47.out).mono ?_
    rintro e w8 ⟨rfl, hd⟩
    have S48 := hide (S47.out.below (hd.below _))
    have S58 := hide (S57.out.below (hd.below _))
    have S68 := hide (S67.out.below (hd.below _))
    have B8 := hide (B7.out.trans (hd.below _))
    clear hd S7 S47 S57 S67
    go_wp2_with fail
    with_reducible refine (CC.out.union A6 A' m6 c6 n' c' _ b _ S68.out (H'.out.below B8.out) (by omega) (by omega)).mono ?_
    rw [or_rest]
    intro e w9 hg
    obtain ⟨A9, m9, c9, rfl, -, hs9, hb9⟩ := hg.sl
    have S9 := hide hs9
    have S49 := hide (S48.out.below hb9)
    have S59 := hide (S58.out.below hb9)
    have B9 := hide (bgo B8.out hb9)
    clear hg hs9 hb9 S68 S48 S58
    go_wp2_with fail
    with_reducible refine (rsame13 A9 A5 m9 c9 m5 c5 _ _ S9.out S59.out).mono ?_
    rintro e w10 ⟨rfl, hd⟩
    have S40 := hide (S49.out.below (hd.below _))
    have B10 := hide (B9.out.trans (hd.below _))
    clear hd S9 S59 S49
    go_wp2_with fail
    with_reducible refine (CC.out.inter A' A n' c' n c b a _ (H'.out.below B10.out) (H.out.below B10.out) (by omega) (by omega)).mono ?_
    rw [and_comm' a b]
    intro e w11 hg
    obtain ⟨A11, m11, c11, rfl, -, hs11, hb11⟩ := hg.sl
    have S11 := hide hs11
    have S41 := hide (S40.out.below hb11)
    have B11 := hide (bgo B10.out hb11)
    clear hg hs11 hb11 S40
    go_wp2_with fail
    with_reducible refine (rsame13 A11 A4 m11 c11 m4 c4 _ _ S11.out S41.out).mono ?_
    rintro e w12 ⟨rfl, hd⟩
    have B12 := hide (B11.out.trans (hd.below _))
    clear hd S11 S41
    go_wp2
    go_ret
    exact ⟨rfl, B12.out⟩

end Go.Proofs.Ytfljmnjcoagbmaa
