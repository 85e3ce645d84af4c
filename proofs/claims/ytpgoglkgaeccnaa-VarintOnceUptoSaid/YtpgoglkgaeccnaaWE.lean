/- Walks of the laws on Put, Get and PutList. -/
import Derived.Test.YtpgoglkgaeccnaaWD
namespace Go.Proofs.Ytpgoglkgaeccnaa
open Go.RowKit
open Go.Lib (byteCells strCells)

theorem sl_of {w w' : World} {B : Nat} {l : List UInt8} {e : Ending} (h : Grew w B l e w') : ∃ A m c, e = .returned (.slice A m c) ∧ Sl w' A m c (byteCells l) ∧ Below B w w' := by
  obtain ⟨v, rfl, ho, hb⟩ := h
  obtain ⟨A, c, rfl, hs⟩ := ho.sl
  exact ⟨A, _, c, rfl, hs, hb⟩

set_option maxRecDepth 20000 in
set_option maxHeartbeats 1600000 in
theorem law4 (A : Option Addr) (n c : Nat) (l : List UInt8) (i : Int) (w : World) (h : Sl w A n c (byteCells l)) :
    Calls Try.prog 4 #[.slice A n c, .int .i64 i] w fun e w' => e = .returned (.bool true) ∧ Below w.heap.size w w' := by
  have hnc := h.1
  have hc := h.2.1
  have H := hide h
  obtain ⟨⟨x, nx, er⟩, hg⟩ : ∃ g, getP l i = g := ⟨_, rfl⟩
  have Hg := hide hg
  clear h hg
  go_enter Try.func4, Try.ntmps4
  go_wp2_with fail
  refine (alive10 w).mono ?_
  rintro e w1 ⟨rfl, hb1⟩
  have B1 := hide hb1
  have H1 := hide (H.out.below hb1)
  clear hb1
  go_wp2_with fail
  with_reducible refine (get16' _ A n c l _ (Sl.reads H1.out) hnc hc i x nx er Hg.out).mono ?_
  rintro e w2 ⟨rfl, rfl⟩
  go_wp2_with fail
  with_reducible refine (rget17' _ A n c l _ (Sl.reads H1.out) hnc hc i x nx er Hg.out).mono ?_
  rintro e w2 ⟨rfl, rfl⟩
  go_wp2
  go_ret
  exact ⟨ret_bool (by simp), B1.out⟩

set_option maxRecDepth 20000 in
set_option maxHeartbeats 1600000 in
theorem law3 (A : Option Addr) (n c : Nat) (l : List UInt8) (i : Int) (s : ByteArray) (w : World) (h : Sl w A n c (byteCells l)) (hi : -9223372036854775808 ≤ i ∧ i ≤ 9223372036854775807) (hs : s.size ≤ 9223372036854775807) :
    Calls Try.prog 3 #[.slice A n c, .int .i64 i, .string s] w fun e w' => e = .returned (.bool true) ∧ Below w.heap.size w w' := by
  have hnc := h.1
  have hc := h.2.1
  have H := hide h
  clear h
  by_cases hbig : 10000 < n
  · go_enter Try.func3, Try.ntmps3
    go_wp2_with fail
    refine (alive10 w).mono ?_
    rintro e w1 ⟨rfl, hb1⟩
    have B1 := hide hb1
    clear hb1
    go_wp2
    go_ret
    exact ⟨rfl, B1.out⟩
  by_cases hbig2 : 10000 < s.size
  · go_enter Try.func3, Try.ntmps3
    go_wp2_with fail
    refine (alive10 w).mono ?_
    rintro e w1 ⟨rfl, hb1⟩
    have B1 := hide hb1
    clear hb1
    go_wp2
    go_ret
    exact ⟨rfl, B1.out⟩
  · go_enter Try.func3, Try.ntmps3
    go_wp2_with fail
    refine (alive10 w).mono ?_
    rintro e w1 ⟨rfl, hb1⟩
    have B1 := hide hb1
    have H1 := hide (H.out.below hb1)
    clear hb1
    go_wp2_with fail
    refine (put12 A n c l i _ H1.out hi.2 (by omega)).mono ?_
    intro e w2 hgr
    obtain ⟨A2, m2, c2, rfl, hs2, hb2⟩ := sl_of hgr
    have S2 := hide hs2
    have B2 := hide (bgo B1.out hb2)
    have H2 := hide (H1.out.below hb2)
    clear hb2 hgr hs2 B1
    go_wp2_with fail
    refine (rput13 A n c l i _ H2.out hi.2 (by omega)).mono ?_
    intro e w3 hgr
    obtain ⟨A3, m3, c3, rfl, hs3, hb3⟩ := sl_of hgr
    have hs2 := S2.out.below hb3
    have S3 := hide hs3
    have B3 := hide (bgo B2.out hb3)
    have H3 := hide (H2.out.below hb3)
    have S2' := hide hs2
    clear hb3 hgr hs3 B2 hs2
    go_wp2_with fail
    refine (same11 A2 A3 _ c2 _ c3 (l ++ enc i.toNat) _ S2'.out S3.out).mono ?_
    rintro e w4 ⟨rfl, rfl⟩
    clear S2 S2' S3
    go_wp2_with fail
    refine (puts14 A n c l s _ H3.out (by omega) (by omega)).mono ?_
    intro e w5 hgr
    obtain ⟨A5, m5, c5, rfl, hs5, hb5⟩ := sl_of hgr
    have S5 := hide hs5
    have B5 := hide (bgo B3.out hb5)
    have H5 := hide (H3.out.below hb5)
    clear hb5 hgr hs5 B3
    go_wp2_with fail
    refine (rputs15 A n c l s _ H5.out (by omega) (by omega)).mono ?_
    intro e w6 hgr
    obtain ⟨A6, m6, c6, rfl, hs6, hb6⟩ := sl_of hgr
    have S5' := hide (S5.out.below hb6)
    have S6 := hide hs6
    have B6 := hide (bgo B5.out hb6)
    clear hb6 hgr hs6 B5
    go_wp2_with fail
    refine (same11 A5 A6 _ c5 _ c6 (l ++ (enc s.size ++ s.data.toList)) _ S5'.out S6.out).mono ?_
    rintro e w7 ⟨rfl, rfl⟩
    go_wp2
    go_ret
    exact ⟨rfl, B6.out⟩

/-- The two PutLists agree. -/
theorem put_sl {w w' : World} {r : List UInt8 × Nat} {e : Ending} (h : PutL w r e w') : ∃ A m c, e = .returned (.tuple #[.slice A m c, .int .i64 (r.2 : Int)]) ∧ Sl w' A m c (byteCells r.1) ∧ Below w.heap.size w w' := by
  obtain ⟨v, rfl, ho, hb⟩ := h
  obtain ⟨A, c, rfl, hs⟩ := ho.sl
  exact ⟨A, _, c, rfl, hs, hb⟩

set_option maxRecDepth 20000 in
set_option maxHeartbeats 1600000 in
theorem law6 (A A' : Option Addr) (n c n' c' : Nat) (b : List UInt8) (xs : List Int) (w : World) (h : Sl w A n c (byteCells b)) (h' : Sl w A' n' c' (numCells xs)) (hw : ∀ z ∈ xs, z ≤ 9223372036854775807) :
    Calls Try.prog 6 #[.slice A n c, .slice A' n' c'] w fun e w' => e = .returned (.bool true) ∧ Below w.heap.size w w' := by
  have hnc := h.1
  have hc := h.2.1
  have hnc' := h'.1
  have hc' := h'.2.1
  have H := hide h
  have H' := hide h'
  have Hw := hide hw
  clear h h' hw
  by_cases hbig : 10000 < n
  · go_enter Try.func6, Try.ntmps6
    go_wp2_with fail
    refine (alive10 w).mono ?_
    rintro e w1 ⟨rfl, hb1⟩
    have B1 := hide hb1
    clear hb1
    go_wp2
    go_ret
    exact ⟨rfl, B1.out⟩
  by_cases hbig2 : 10000 < n'
  · go_enter Try.func6, Try.ntmps6
    go_wp2_with fail
    refine (alive10 w).mono ?_
    rintro e w1 ⟨rfl, hb1⟩
    have B1 := hide hb1
    clear hb1
    go_wp2
    go_ret
    exact ⟨rfl, B1.out⟩
  · obtain ⟨⟨r, er⟩, hr⟩ : ∃ r, putL b xs = r := ⟨_, rfl⟩
    have Hr := hide hr
    clear hr
    go_enter Try.func6, Try.ntmps6
    go_wp2_with fail
    refine (alive10 w).mono ?_
    rintro e w1 ⟨rfl, hb1⟩
    have B1 := hide hb1
    have H1 := hide (H.out.below hb1)
    have H1' := hide (H'.out.below hb1)
    clear hb1
    go_wp2_with fail
    refine (putl23 A A' n c n' c' b xs _ H1.out H1'.out (by omega) (by omega) Hw.out).mono ?_
    intro e w2 hgr
    rw [Hr.out] at hgr
    obtain ⟨A2, m2, c2, rfl, hs2, hb2⟩ := put_sl hgr
    have S2 := hide hs2
    have B2 := hide (bgo B1.out hb2)
    have H2 := hide (H1.out.below hb2)
    have H2' := hide (H1'.out.below hb2)
    clear hb2 hgr hs2 B1
    go_wp2_with fail
    refine (rputl24 A A' n c n' c' b xs _ H2.out H2'.out (by omega) (by omega) Hw.out).mono ?_
    intro e w3 hgr
    rw [Hr.out] at hgr
    obtain ⟨A3, m3, c3, rfl, hs3, hb3⟩ := put_sl hgr
    have S3 := hide hs3
    have S2' := hide (S2.out.below hb3)
    have B3 := hide (bgo B2.out hb3)
    clear hb3 hgr hs3 B2
    go_wp2_with fail
    refine (same11 A2 A3 _ c2 _ c3 r _ S2'.out S3.out).mono ?_
    rintro e w4 ⟨rfl, rfl⟩
    go_wp2
    go_ret
    exact ⟨rfl, B3.out⟩

end Go.Proofs.Ytpgoglkgaeccnaa
