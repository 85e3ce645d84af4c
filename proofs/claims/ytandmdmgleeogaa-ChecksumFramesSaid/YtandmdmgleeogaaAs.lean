/- An argument that is a frame with its surroundings (a struct of six fields), opened. -/
import Derived.Test.YtandmdmgleeogaaAr
import Derived.Deep.Slices
import Derived.Lib.SmallJoins
namespace Go.Proofs.Ytandmdmgleeogaa
open Go.RowKit Go.ChangeShapes Go.WideShapes Go.Joins
open Go.Lib (byteCells)

variable {H : Type} {enc : TypeId × Value → H} {W : World}

theorem array6 {α : Type} {cs : Array α} (h : cs.size = 6) : ∃ c0 c1 c2 c3 c4 c5, cs = #[c0, c1, c2, c3, c4, c5] := by
  obtain ⟨l⟩ := cs
  match l, h with
  | [c0, c1, c2, c3, c4, c5], _ => exact ⟨c0, c1, c2, c3, c4, c5, rfl⟩
theorem cells40 : Try.prog.cellsOf 40 = 6 := by kernel_rfl

theorem frame_arg {r : Reach} {b0 : Nat} {v : Value} {d : DataW H} {p : List MemPlace} (hv : Value.okWide Try.prog W r b0 40 v) (h : DataW.Trod enc Try.prog W 0 (fun _ => true) true 40 v d p) :
    ∃ A0 n0 c0 A1 n1 c1 A2 n2 c2 at_ A4 n4 c4 tail p l a q, v = .agg #[.slice A0 n0 c0, .slice A1 n1 c1, .slice A2 n2 c2, .int .i64 at_, .slice A4 n4 c4, .bool tail] ∧
      Sl W A0 n0 c0 (byteCells p) ∧ Sl W A1 n1 c1 (byteCells l) ∧ Sl W A2 n2 c2 (byteCells a) ∧ Sl W A4 n4 c4 (byteCells q) := by
  obtain ⟨cs, rfl, hsz⟩ := okWide_struct Try.underlying40 hv
  rw [cells40] at hsz
  obtain ⟨v0, v1, v2, v3, v4, v5, rfl⟩ := array6 hsz
  obtain ⟨fuel, hf⟩ := h
  have hf' : DataW.trod enc Try.prog W 0 (fun _ => true) true fuel 40 [v0, v1, v2, v3, v4, v5] = some (d, p) := by simpa [Value.cells] using hf
  obtain ⟨xs, n, _, _, hl, hlen, hall⟩ := DataW.trod_struct Try.underlying40 hf'
  match xs, hlen with
  | [y0, y1, y2, y3, y4, y5], _ =>
    have h0 := hall 0 _ rfl
    have h1 := hall 1 _ rfl
    have h2 := hall 2 _ rfl
    have h3 := hall 3 _ rfl
    have h4 := hall 4 _ rfl
    have h5 := hall 5 _ rfl
    have h0' : DataW.trod enc Try.prog W 0 (fun _ => true) true n 23 [v0] = some y0 := h0
    have h1' : DataW.trod enc Try.prog W 0 (fun _ => true) true n 23 [v1] = some y1 := h1
    have h2' : DataW.trod enc Try.prog W 0 (fun _ => true) true n 23 [v2] = some y2 := h2
    have h3' : DataW.trod enc Try.prog W 0 (fun _ => true) true n 3 [v3] = some y3 := h3
    have h4' : DataW.trod enc Try.prog W 0 (fun _ => true) true n 23 [v4] = some y4 := h4
    have h5' : DataW.trod enc Try.prog W 0 (fun _ => true) true n 4 [v5] = some y5 := h5
    obtain ⟨A0, n0, c0, p0, e0, s0⟩ := bytes_of h0'
    obtain ⟨A1, n1, c1, p1, e1, s1⟩ := bytes_of h1'
    obtain ⟨A2, n2, c2, p2, e2, s2⟩ := bytes_of h2'
    obtain ⟨A4, n4, c4, p4, e4, s4⟩ := bytes_of h4'
    obtain ⟨z3, q3, _, _⟩ := DataW.trod_int Try.underlying3 h3'
    obtain ⟨b5, q5, _⟩ := DataW.trod_bool Try.underlying4 h5'
    have r3 : v3 = .int .i64 z3 := (List.cons.inj (q3 : [v3] = [.int .i64 z3])).1
    have r5 : v5 = .bool b5 := (List.cons.inj (q5 : [v5] = [.bool b5])).1
    subst e0 e1 e2 e4 r3 r5
    exact ⟨A0, n0, c0, A1, n1, c1, A2, n2, c2, z3, A4, n4, c4, b5, p0, p1, p2, p4, rfl, s0, s1, s2, s4⟩

end Go.Proofs.Ytandmdmgleeogaa
