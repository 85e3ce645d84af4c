/- Walk of the law on frames. -/
import Derived.Test.YtandmdmgleeogaaXE
import Derived.Test.YtandmdmgleeogaaXF
namespace Go.Proofs.Ytandmdmgleeogaa
open Go.RowKit
open Go.Lib (byteCells)

set_option maxRecDepth 100000 in
set_option maxHeartbeats 12800000 in
theorem law7 (A0 A1 A2 A4 : Option Addr) (n0 c0 n1 c1 n2 c2 n4 c4 : Nat) (at_ : Int) (tail : Bool) (p l a q : List UInt8) (w : World) (h0 : Sl w A0 n0 c0 (byteCells p)) (h1 : Sl w A1 n1 c1 (byteCells l)) (h2 : Sl w A2 n2 c2 (byteCells a)) (h4 : Sl w A4 n4 c4 (byteCells q)) :
    Calls Try.prog 7 #[.agg #[.slice A0 n0 c0, .slice A1 n1 c1, .slice A2 n2 c2, .int .i64 at_, .slice A4 n4 c4, .bool tail]] w fun e w' => e = .returned (.bool true) ∧ Below w.heap.size w w' := by
  have H0 := hide h0
  have H1 := hide h1
  have H2 := hide h2
  have H4 := hide h4
  clear h0 h1 h2 h4
  by_cases hb1 : 600 < n0
  · go_enter Try.func7, Try.ntmps7
    go_wp2_with fail
    refine (alive10 _).mono ?_
    rintro e w2 ⟨rfl, hb2⟩
    obtain ⟨g0, q0, q1, q2, q3, q4, q5⟩ := (six_new w (.slice A0 n0 c0) (.slice A1 n1 c1) (.slice A2 n2 c2) (.int .i64 at_) (.slice A4 n4 c4) (.bool tail) 40).keep hb2
    have B2 := hide ((bnew (Below.refl _ w) (.cells #[.slice A0 n0 c0, .slice A1 n1 c1, .slice A2 n2 c2, .int .i64 at_, .slice A4 n4 c4, .bool tail] 40)).trans (hb2.mono (by simp)))
    clear hb2
    go_wp2
    go_ret
    exact ⟨rfl, B2.out⟩
  by_cases hb2 : 600 < n1
  · go_enter Try.func7, Try.ntmps7
    go_wp2_with fail
    refine (alive10 _).mono ?_
    rintro e w2 ⟨rfl, hb2⟩
    obtain ⟨g0, q0, q1, q2, q3, q4, q5⟩ := (six_new w (.slice A0 n0 c0) (.slice A1 n1 c1) (.slice A2 n2 c2) (.int .i64 at_) (.slice A4 n4 c4) (.bool tail) 40).keep hb2
    have B2 := hide ((bnew (Below.refl _ w) (.cells #[.slice A0 n0 c0, .slice A1 n1 c1, .slice A2 n2 c2, .int .i64 at_, .slice A4 n4 c4, .bool tail] 40)).trans (hb2.mono (by simp)))
    clear hb2
    go_wp2
    go_ret
    exact ⟨rfl, B2.out⟩
  by_cases hb3 : 600 < n2
  · go_enter Try.func7, Try.ntmps7
    go_wp2_with fail
    refine (alive10 _).mono ?_
    rintro e w2 ⟨rfl, hb2⟩
    obtain ⟨g0, q0, q1, q2, q3, q4, q5⟩ := (six_new w (.slice A0 n0 c0) (.slice A1 n1 c1) (.slice A2 n2 c2) (.int .i64 at_) (.slice A4 n4 c4) (.bool tail) 40).keep hb2
    have B2 := hide ((bnew (Below.refl _ w) (.cells #[.slice A0 n0 c0, .slice A1 n1 c1, .slice A2 n2 c2, .int .i64 at_, .slice A4 n4 c4, .bool tail] 40)).trans (hb2.mono (by simp)))
    clear hb2
    go_wp2
    go_ret
    exact ⟨rfl, B2.out⟩
  by_cases hb4 : 4 < n4
  · go_enter Try.func7, Try.ntmps7
    go_wp2_with fail
    refine (alive10 _).mono ?_
    rintro e w2 ⟨rfl, hb2⟩
    obtain ⟨g0, q0, q1, q2, q3, q4, q5⟩ := (six_new w (.slice A0 n0 c0) (.slice A1 n1 c1) (.slice A2 n2 c2) (.int .i64 at_) (.slice A4 n4 c4) (.bool tail) 40).keep hb2
    have B2 := hide ((bnew (Below.refl _ w) (.cells #[.slice A0 n0 c0, .slice A1 n1 c1, .slice A2 n2 c2, .int .i64 at_, .slice A4 n4 c4, .bool tail] 40)).trans (hb2.mono (by simp)))
    clear hb2
    go_wp2
    go_ret
    exact ⟨rfl, B2.out⟩
  cases tail
  · exact law7F A0 A1 A2 A4 n0 c0 n1 c1 n2 c2 n4 c4 at_ p l a q w H0.out H1.out H2.out H4.out hb1 hb2 hb3 hb4
  · exact law7T A0 A1 A2 A4 n0 c0 n1 c1 n2 c2 n4 c4 at_ p l a q w H0.out H1.out H2.out H4.out hb1 hb2 hb3 hb4

end Go.Proofs.Ytandmdmgleeogaa
