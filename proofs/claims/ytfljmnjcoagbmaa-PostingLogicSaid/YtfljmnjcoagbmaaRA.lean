/- The laws of layer 5 on sets, packing and unpacking, over the contracts of what they call. -/
import Derived.Test.YtfljmnjcoagbmaaR9
namespace Go.Proofs.Ytfljmnjcoagbmaa
open Go.RowKit
open Go.Lib (byteCells)

/-- What the program's functions, and layer 3's reference, are walked to do. -/
structure Cs0 : Prop where
  valid : ∀ (A : Option Addr) (n c : Nat) (l : List Int) (w : World), Sl w A n c (numCells l) → n ≤ 100000 → Calls Try.prog 11 #[.slice A n c] w fun e w' => e = .returned (.bool (valP l)) ∧ Below w.heap.size w w'
  inter : ∀ (A A' : Option Addr) (n c n' c' : Nat) (a b : List Int) (w : World), Sl w A n c (numCells a) → Sl w A' n' c' (numCells b) → n ≤ 100000 → n' ≤ 100000 → Calls Try.prog 14 #[.slice A n c, .slice A' n' c'] w (GrewI w (andS a b))
  union : ∀ (A A' : Option Addr) (n c n' c' : Nat) (a b : List Int) (w : World), Sl w A n c (numCells a) → Sl w A' n' c' (numCells b) → n ≤ 100000 → n' ≤ 100000 → Calls Try.prog 16 #[.slice A n c, .slice A' n' c'] w (GrewI w (orS a b))
  minus : ∀ (A A' : Option Addr) (n c n' c' : Nat) (a b : List Int) (w : World), Sl w A n c (numCells a) → Sl w A' n' c' (numCells b) → n ≤ 100000 → n' ≤ 100000 → Calls Try.prog 18 #[.slice A n c, .slice A' n' c'] w (GrewI w (minusS a b))
  least : ∀ (A : Option Addr) (n c : Nat) (ls : List (List Int)) (k : Int) (w : World), RowsI w A n c ls → n ≤ 1000 → (∀ l ∈ ls, l.length ≤ 1000) → (∀ l ∈ ls, ∀ z ∈ l, (Lit.int .i64 z).wf = true) → Calls Try.prog 20 #[.int .i64 k, .slice A n c] w (GrewI w (leastS k ls))
  has : ∀ (A : Option Addr) (n c : Nat) (l : List Int) (m : Int) (w : World), Sl w A n c (numCells l) → n ≤ 100000 → Calls Try.prog 25 #[.slice A n c, .int .i64 m] w fun e w' => e = .returned (.bool (valP l && decide (m ∈ l))) ∧ Below w.heap.size w w'
  pack : ∀ (A : Option Addr) (n c : Nat) (l : List Int) (w : World), Sl w A n c (numCells l) → n ≤ 100000 → Calls Try.prog 22 #[.slice A n c] w (PutL w (packR l))
  unpack : ∀ (A : Option Addr) (n c : Nat) (b : List UInt8) (w : World), Sl w A n c (byteCells b) → n ≤ 1000000 → Calls Try.prog 27 #[.slice A n c] w (GotU w (unpR (unpackP b)))
  seek : ∀ (A : Option Addr) (n c : Nat) (b : List UInt8) (m : Int) (w : World), Sl w A n c (byteCells b) → n ≤ 1000000 → Calls Try.prog 29 #[.slice A n c, .int .i64 m] w fun e w' => e = .returned (.tuple #[.int .i64 (seekV (unpackP b) m).1, .bool (seekV (unpackP b) m).2]) ∧ Below w.heap.size w w'
  put : ∀ (A : Option Addr) (n c : Nat) (l : List UInt8) (i : Int) (w : World), Sl w A n c (byteCells l) → i ≤ 9223372036854775807 → n ≤ 1000000000 → Calls Try.prog 42 #[.slice A n c, .int .i64 i] w (Grew w w.heap.size (l ++ enc i.toNat))
  putL : ∀ (A A' : Option Addr) (n c n' c' : Nat) (b : List UInt8) (xs : List Int) (w : World), Sl w A n c (byteCells b) → Sl w A' n' c' (numCells xs) → n ≤ 10000000 → n' ≤ 10000000 → (∀ z ∈ xs, z ≤ 9223372036854775807) → Calls Try.prog 43 #[.slice A n c, .slice A' n' c'] w (PutL w (Ytfljmnjcoagbmaa.putL b xs))
  get : ∀ (B : Nat) (A : Option Addr) (n c : Nat) (l : List UInt8) (w : World), Reads w B A n (byteCells l) → n ≤ c → c ≤ 9223372036854775807 → ∀ (i : Int) (x nx er : Nat), getP l i = (x, nx, er) →
    Calls Try.prog 47 #[.slice A n c, .int .i64 i] w fun e w' => e = .returned (.tuple #[.int .i64 (x : Int), .int .i64 (nx : Int), .int .i64 (er : Int)]) ∧ w = w'
  getL : ∀ (A : Option Addr) (n c : Nat) (l : List UInt8) (w : World), Sl w A n c (byteCells l) → n ≤ 1000000000 → ∀ (i most : Int), Calls Try.prog 49 #[.slice A n c, .int .i64 i, .int .i64 most] w (GotL w (Ytfljmnjcoagbmaa.getL l i most))
/-- And that the examples hold. -/
structure Cs : Prop extends Cs0 where
  alive : ∀ w : World, Calls Try.prog 10 #[] w fun e w' => e = .returned (.bool true) ∧ Below w.heap.size w w'

theorem PutL.sl {w w' : World} {r : List UInt8 × Nat} {e : Ending} (h : PutL w r e w') : ∃ A m c, e = .returned (.tuple #[.slice A m c, .int .i64 (r.2 : Int)]) ∧ m = r.1.length ∧ Sl w' A m c (byteCells r.1) ∧ Below w.heap.size w w' := by
  obtain ⟨v, rfl, ho, hb⟩ := h
  obtain ⟨A, m, c, rfl, hm, hs⟩ := ho.sl5
  exact ⟨A, m, c, rfl, hm, hs, hb⟩
theorem GotU.sl {w w' : World} {r : List Int × Nat} {e : Ending} (h : GotU w r e w') : ∃ A m c, e = .returned (.tuple #[.slice A m c, .int .i64 (r.2 : Int)]) ∧ m = r.1.length ∧ Sl w' A m c (numCells r.1) ∧ Below w.heap.size w w' := by
  obtain ⟨v, rfl, ho, hb⟩ := h
  obtain ⟨A, m, c, rfl, hm, hs⟩ := ho.slI
  exact ⟨A, m, c, rfl, hm, hs, hb⟩

set_option maxRecDepth 20000 in
theorem sameb24 (A A' : Option Addr) (n c n' c' : Nat) (l l' : List UInt8) (w : World) (h : Sl w A n c (byteCells l)) (h' : Sl w A' n' c' (byteCells l')) :
    Calls Try.prog 24 #[.slice A n c, .slice A' n' c'] w fun e w' => e = .returned (.bool (l == l')) ∧ w = w' := by
  have h1 := h.conv
  have h2 := h'.conv
  clear h h'
  go_enter Try.func24, Try.ntmps24
  go_wp2
  go_ret
  exact ⟨rfl, rfl⟩

set_option maxRecDepth 20000 in
set_option maxHeartbeats 3200000 in
theorem law3 (C : Cs) (A A' : Option Addr) (n c n' c' : Nat) (a b : List Int) (w : World) (h : Sl w A n c (numCells a)) (h' : Sl w A' n' c' (numCells b)) :
    Calls Try.prog 3 #[.slice A n c, .slice A' n' c'] w fun e w' => e = .returned (.bool true) ∧ Below w.heap.size w w' := by
  have H := hide h
  have H' := hide h'
  have CC := hide C
  clear h h' C
  by_cases hb1 : 60 < n
  · go_enter Try.func3, Try.ntmps3
    go_wp2_with fail
    refine (CC.out.alive w).mono ?_
    rintro e w1 ⟨rfl, hb⟩
    have B1 := hide hb
    clear hb
    go_wp2
    go_ret
    exact ⟨rfl, B1.out⟩
  by_cases hb2 : 60 < n'
  · go_enter Try.func3, Try.ntmps3
    go_wp2_with fail
    refine (CC.out.alive w).mono ?_
    rintro e w1 ⟨rfl, hb⟩
    have B1 := hide hb
    clear hb
    go_wp2
    go_ret
    exact ⟨rfl, B1.out⟩
  go_enter Try.func3, Try.ntmps3
  go_wp2_with fail
  refine (CC.out.alive w).mono ?_
  rintro e w1 ⟨rfl, hb⟩
  have B1 := hide hb
  clear hb
  go_wp2_with fail
  with_reducible refine (CC.out.valid A n c a _ (H.out.below B1.out) (by omega)).mono ?_
  rintro e w2 ⟨rfl, hb⟩
  have B2 := hide (bgo B1.out hb)
  clear hb
  go_wp2_with fail
  with_reducible refine (rvalid12 A n c a _ (H.out.below B2.out)).mono ?_
  rintro e w3 ⟨rfl, hd⟩
  have B3 := hide (B2.out.trans (hd.below _))
  clear hd
  cases hv : valP a <;> (have Hv := hide hv; clear hv)
  all_goals
    go_wp2_with fail
    with_reducible refine (CC.out.inter A A' n c n' c' a b _ (H.out.below B3.out) (H'.out.below B3.out) (by omega) (by omega)).mono ?_
    intro e w4 hg
    obtain ⟨A4, m4, c4, rfl, -, hs4, hb4⟩ := hg.sl
    have S4 := hide hs4
    have B4 := hide (bgo B3.out hb4)
    clear hg hs4 hb4
    go_wp2_with fail
    with_reducible refine (rand15 A A' n c n' c' a b _ (H.out.below B4.out) (H'.out.below B4.out) (by omega) (by omega)).mono ?_
    intro e w5 hg
    obtain ⟨A5, m5, c5, rfl, -, hs5, hb5⟩ := hg.sl
    have S5 := hide hs5
    have S4' := hide (S4.out.below hb5)
    have B5 := hide (bgo B4.out hb5)
    clear hg hs5 hb5 S4
    go_wp2_with fail
    with_reducible refine (rsame13 A4 A5 m4 c4 m5 c5 _ _ S4'.out S5.out).mono ?_
    rintro e w6 ⟨rfl, hd⟩
    have B6 := hide (B5.out.trans (hd.below _))
    clear hd S4' S5
    go_wp2_with fail
    with_reducible refine (CC.out.union A A' n c n' c' a b _ (H.out.below B6.out) (H'.out.below B6.out) (by omega) (by omega)).mono ?_
    intro e w7 hg
    obtain ⟨A7, m7, c7, rfl, -, hs7, hb7⟩ := hg.sl
    have S7 := hide hs7
    have B7 := hide (bgo B6.out hb7)
    clear hg hs7 hb7
    go_wp2_with fail
    with_reducible refine (ror17 A A' n c n' c' a b _ (H.out.below B7.out) (H'.out.below B7.out) (by omega) (by omega)).mono ?_
    intro e w8 hg
    obtain ⟨A8, m8, c8, rfl, -, hs8, hb8⟩ := hg.sl
    have S8 := hide hs8
    have S7' := hide (S7.out.below hb8)
    have B8 := hide (bgo B7.out hb8)
    clear hg hs8 hb8 S7
    go_wp2_with fail
    with_reducible refine (rsame13 A7 A8 m7 c7 m8 c8 _ _ S7'.out S8.out).mono ?_
    rintro e w9 ⟨rfl, hd⟩
    have B9 := hide (B8.out.trans (hd.below _))
    clear hd S7' S8
    go_wp2_with fail
    with_reducible refine (CC.out.minus A A' n c n' c' a b _ (H.out.below B9.out) (H'.out.below B9.out) (by omega) (by omega)).mono ?_
    intro e w10 hg
    obtain ⟨A10, m10, c10, rfl, -, hs10, hb10⟩ := hg.sl
    have S10 := hide hs10
    have B10 := hide (bgo B9.out hb10)
    clear hg hs10 hb10
    go_wp2_with fail
    with_reducible refine (rminus19 A A' n c n' c' a b _ (H.out.below B10.out) (H'.out.below B10.out) (by omega) (by omega)).mono ?_
    intro e w11 hg
    obtain ⟨A11, m11, c11, rfl, -, hs11, hb11⟩ := hg.sl
    have S11 := hide hs11
    have S10' := hide (S10.out.below hb11)
    have B11 := hide (bgo B10.out hb11)
    clear hg hs11 hb11 S10
    go_wp2_with fail
    with_reducible refine (rsame13 A10 A11 m10 c10 m11 c11 _ _ S10'.out S11.out).mono ?_
    rintro e w12 ⟨rfl, hd⟩
    have B12 := hide (B11.out.trans (hd.below _))
    clear hd S10' S11
    go_wp2
    go_ret
    exact ⟨rfl, B12.out⟩

set_option maxRecDepth 20000 in
set_option maxHeartbeats 3200000 in
theorem law6 (C : Cs) (A : Option Addr) (n c : Nat) (b : List UInt8) (m : Int) (w : World) (h : Sl w A n c (byteCells b)) :
    Calls Try.prog 6 #[.slice A n c, .int .i64 m] w fun e w' => e = .returned (.bool true) ∧ Below w.heap.size w w' := by
  have H := hide h
  have CC := hide C
  clear h C
  by_cases hb1 : 400 < n
  · go_enter Try.func6, Try.ntmps6
    go_wp2_with fail
    refine (CC.out.alive w).mono ?_
    rintro e w1 ⟨rfl, hb⟩
    have B1 := hide hb
    clear hb
    go_wp2
    go_ret
    exact ⟨rfl, B1.out⟩
  obtain ⟨⟨xs, er⟩, hu⟩ : ∃ r, unpR (unpackP b) = r := ⟨_, rfl⟩
  obtain ⟨⟨y, ok⟩, hs⟩ : ∃ r, seekV (unpackP b) m = r := ⟨_, rfl⟩
  have Hu := hide hu
  have Hs := hide hs
  clear hu hs
  go_enter Try.func6, Try.ntmps6
  go_wp2_with fail
  refine (CC.out.alive w).mono ?_
  rintro e w1 ⟨rfl, hb⟩
  have B1 := hide hb
  clear hb
  go_wp2_with fail
  with_reducible refine (CC.out.unpack A n c b _ (H.out.below B1.out) (by omega)).mono ?_
  rw [Hu.out]
  intro e w2 hg
  obtain ⟨A2, m2, c2, rfl, -, hs2, hb2⟩ := hg.sl
  have S2 := hide hs2
  have B2 := hide (bgo B1.out hb2)
  clear hg hs2 hb2
  go_wp2_with fail
  with_reducible refine (runpack28 CC.out.put CC.out.putL CC.out.get CC.out.getL A n c b _ (H.out.below B2.out) (by omega)).mono ?_
  rw [Hu.out]
  intro e w3 hg
  obtain ⟨A3, m3, c3, rfl, -, hs3, hb3⟩ := hg.sl
  have S3 := hide hs3
  have S2' := hide (S2.out.below hb3)
  have B3 := hide (bgo B2.out hb3)
  clear hg hs3 hb3 S2
  go_wp2_with fail
  with_reducible refine (CC.out.seek A n c b m _ (H.out.below B3.out) (by omega)).mono ?_
  rw [Hs.out]
  rintro e w4 ⟨rfl, hb⟩
  have S3' := hide (S3.out.below hb)
  have S2'' := hide (S2'.out.below hb)
  have B4 := hide (bgo B3.out hb)
  clear hb S3 S2'
  go_wp2_with fail
  with_reducible refine (rseek30 CC.out.put CC.out.putL CC.out.get CC.out.getL A n c b m _ (H.out.below B4.out) (by omega)).mono ?_
  rw [Hs.out]
  rintro e w5 ⟨rfl, hb⟩
  have S3 := hide (S3'.out.below hb)
  have S2 := hide (S2''.out.below hb)
  have B5 := hide (bgo B4.out hb)
  clear hb S3' S2''
  go_wp2_with fail
  with_reducible refine (rsame13 A2 A3 m2 c2 m3 c3 xs _ S2.out S3.out).mono ?_
  rintro e w6 ⟨rfl, hd⟩
  have B6 := hide (B5.out.trans (hd.below _))
  clear hd S2 S3
  go_wp2
  go_ret
  exact ⟨ret_bool (by simp), B6.out⟩

end Go.Proofs.Ytfljmnjcoagbmaa
