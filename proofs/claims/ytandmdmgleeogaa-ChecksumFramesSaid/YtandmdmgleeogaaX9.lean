/- Walks: the laws on Sum, Extend, Seal and Open. -/
import Derived.Test.YtandmdmgleeogaaX8
namespace Go.Proofs.Ytandmdmgleeogaa
open Go.RowKit
open Go.Lib (byteCells)

set_option maxRecDepth 20000 in
set_option maxHeartbeats 1600000 in
theorem law3 (A : Option Addr) (n c : Nat) (l : List UInt8) (s : Int) (w : World) (h : Sl w A n c (byteCells l)) (hs : 0 ≤ s ∧ s ≤ 4294967295) :
    Calls Try.prog 3 #[.int .u32 s, .slice A n c] w fun e w' => e = .returned (.bool true) ∧ Below w.heap.size w w' := by
  have H := hide h
  clear h
  obtain ⟨s, rfl⟩ : ∃ k : Nat, s = (k : Int) := ⟨s.toNat, by omega⟩
  by_cases hbig : 600 < n
  · go_enter Try.func3, Try.ntmps3
    go_wp2_with fail
    refine (alive10 w).mono ?_
    rintro e w1 ⟨rfl, hb1⟩
    have B1 := hide hb1
    clear hb1
    go_wp2
    go_ret
    exact ⟨rfl, B1.out⟩
  · go_enter Try.func3, Try.ntmps3
    go_wp2_with fail
    refine (alive10 w).mono ?_
    rintro e w1 ⟨rfl, hb1⟩
    have B1 := hide hb1
    have H1 := hide (H.out.below hb1)
    clear hb1
    go_wp2_with fail
    refine (sum11 _ A n c l _ H1.out.reads (by omega)).mono ?_
    rintro e w2 ⟨rfl, rfl⟩
    go_wp2_with fail
    refine (rsum12 _ A n c l _ H1.out.reads (by omega)).mono ?_
    rintro e w2 ⟨rfl, rfl⟩
    go_wp2_with fail
    refine (extend13 s (by omega) _ A n c l _ H1.out.reads (by omega)).mono ?_
    rintro e w2 ⟨rfl, rfl⟩
    go_wp2_with fail
    refine (rextend14 s (by omega) _ A n c l _ H1.out.reads (by omega)).mono ?_
    rintro e w2 ⟨rfl, rfl⟩
    go_wp2
    go_ret
    exact ⟨ret_bool (by simp), B1.out⟩

set_option maxRecDepth 20000 in
set_option maxHeartbeats 1600000 in
theorem law4 (A : Option Addr) (n c : Nat) (l : List UInt8) (w : World) (h : Sl w A n c (byteCells l)) :
    Calls Try.prog 4 #[.slice A n c] w fun e w' => e = .returned (.bool true) ∧ Below w.heap.size w w' := by
  have H := hide h
  clear h
  by_cases hbig : 600 < n
  · go_enter Try.func4, Try.ntmps4
    go_wp2_with fail
    refine (alive10 w).mono ?_
    rintro e w1 ⟨rfl, hb1⟩
    have B1 := hide hb1
    clear hb1
    go_wp2
    go_ret
    exact ⟨rfl, B1.out⟩
  · go_enter Try.func4, Try.ntmps4
    go_wp2_with fail
    refine (alive10 w).mono ?_
    rintro e w1 ⟨rfl, hb1⟩
    have B1 := hide hb1
    have H1 := hide (H.out.below hb1)
    clear hb1
    go_wp2_with fail
    refine (seal16 A n c l _ H1.out (by omega)).mono ?_
    intro e w2 hg
    obtain ⟨A2, m2, c2, rfl, -, hs2, hb2⟩ := sl_of hg
    have B2 := hide (bgo B1.out hb2)
    have H2 := hide (H1.out.below hb2)
    have S2 := hide hs2
    clear hg hs2 hb2 B1
    go_wp2_with fail
    refine (rseal17 A n c l _ H2.out (by omega)).mono ?_
    intro e w3 hg
    obtain ⟨A3, m3, c3, rfl, -, hs3, hb3⟩ := sl_of hg
    have B3 := hide (bgo B2.out hb3)
    have S2' := hide (S2.out.below hb3)
    have S3 := hide hs3
    clear hg hs3 hb3 B2 H2 H1
    go_wp2_with fail
    refine (same15 A2 A3 _ c2 _ c3 (sealP l) _ S2'.out S3.out).mono ?_
    rintro e w4 ⟨rfl, hd⟩
    have B4 := hide (B3.out.trans (hd.below _))
    clear hd
    go_wp2
    go_ret
    exact ⟨rfl, B4.out⟩

set_option maxRecDepth 20000 in
set_option maxHeartbeats 1600000 in
theorem law5 (A : Option Addr) (n c : Nat) (l : List UInt8) (i most : Int) (w : World) (h : Sl w A n c (byteCells l)) :
    Calls Try.prog 5 #[.slice A n c, .int .i64 i, .int .i64 most] w fun e w' => e = .returned (.bool true) ∧ Below w.heap.size w w' := by
  have H := hide h
  clear h
  by_cases hbig : 600 < n
  · go_enter Try.func5, Try.ntmps5
    go_wp2_with fail
    refine (alive10 w).mono ?_
    rintro e w1 ⟨rfl, hb1⟩
    have B1 := hide hb1
    clear hb1
    go_wp2
    go_ret
    exact ⟨rfl, B1.out⟩
  · obtain ⟨⟨r, nx, er⟩, hg⟩ : ∃ g, openP l i most = g := ⟨_, rfl⟩
    have Hg := hide hg
    clear hg
    go_enter Try.func5, Try.ntmps5
    go_wp2_with fail
    refine (alive10 w).mono ?_
    rintro e w1 ⟨rfl, hb1⟩
    have B1 := hide hb1
    have H1 := hide (H.out.below hb1)
    clear hb1
    go_wp2_with fail
    refine (open18 A n c l _ H1.out (by omega) i most).mono ?_
    intro e w2 hg
    rw [Hg.out] at hg
    obtain ⟨A2, m2, c2, rfl, -, hs2, hb2⟩ := opened_sl hg
    have B2 := hide (bgo B1.out hb2)
    have H2 := hide (H1.out.below hb2)
    have S2 := hide hs2
    clear hg hs2 hb2 B1
    go_wp2_with fail
    refine (ropen19 A n c l _ H2.out (by omega) i most).mono ?_
    intro e w3 hg
    rw [Hg.out] at hg
    obtain ⟨A3, m3, c3, rfl, -, hs3, hb3⟩ := opened_sl hg
    have B3 := hide (bgo B2.out hb3)
    have S2' := hide (S2.out.below hb3)
    have S3 := hide hs3
    clear hg hs3 hb3 B2 H2 H1
    go_wp2_with fail
    refine (same15 A2 A3 _ c2 _ c3 r _ S2'.out S3.out).mono ?_
    rintro e w4 ⟨rfl, hd⟩
    have B4 := hide (B3.out.trans (hd.below _))
    clear hd
    go_wp2
    go_ret
    exact ⟨ret_bool (by simp), B4.out⟩

end Go.Proofs.Ytandmdmgleeogaa
