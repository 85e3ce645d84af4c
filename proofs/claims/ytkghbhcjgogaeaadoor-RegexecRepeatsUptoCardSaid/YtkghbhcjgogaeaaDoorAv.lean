/- Arguments that are an array of two expressions, of three ints, opened. -/
import Derived.Test.YtkghbhcjgogaeaaDoorAr
namespace Go.Proofs.YtkghbhcjgogaeaaDoor
open Go.RowKit Go.ChangeShapes Go.WideShapes Go.Joins

variable {H : Type} {enc : TypeId × Value → H} {W : World}
theorem cells39 : Tryd.prog.cellsOf 39 = 10 := by kernel_rfl
theorem cells45 : Tryd.prog.cellsOf 45 = 3 := by kernel_rfl
theorem cells3 : Tryd.prog.cellsOf 3 = 1 := by kernel_rfl
set_option maxRecDepth 100000 in
theorem okWide_flat {t e : TypeId} {n : Nat} (ht : Tryd.prog.underlying t = some (.array n e)) {r : Reach} {b0 : Nat} {v : Value} (hv : Value.okWide Tryd.prog W r b0 t v) : ∃ cs : Array Value, v = .agg cs ∧ cs.size = Tryd.prog.cellsOf t := by
  simp only [Value.okWide, ht] at hv
  obtain ⟨cs, h1, h2, _⟩ := hv
  exact ⟨cs, h1, h2⟩
set_option maxRecDepth 100000 in
theorem two_arg {r : Reach} {b0 : Nat} {v : Value} {d : DataW H} {p : List MemPlace} (hv : Value.okWide Tryd.prog W r b0 39 v) (h : DataW.Trod enc Tryd.prog W 0 (fun _ => true) true 39 v d p) :
    ∃ (c0 c1 c2 c3 c4 e0 e1 e2 e3 e4 : Value) (x y : Rx), v = .agg #[c0, c1, c2, c3, c4, e0, e1, e2, e3, e4] ∧ RxV W (fun _ => True) (.agg #[c0, c1, c2, c3, c4]) x ∧ RxV W (fun _ => True) (.agg #[e0, e1, e2, e3, e4]) y ∧ 5 * (sizeR x + sizeR y) ≤ Rows.uptoBulk d := by
  obtain ⟨cs, rfl, hsz⟩ := okWide_flat Tryd.underlying39 hv
  rw [cells39] at hsz
  obtain ⟨l⟩ := cs
  match l, hsz with
  | [c0, c1, c2, c3, c4, e0, e1, e2, e3, e4], _ =>
    obtain ⟨fuel, hf⟩ := h
    have hf' : DataW.trod enc Tryd.prog W 0 (fun _ => true) true fuel 39 [c0, c1, c2, c3, c4, e0, e1, e2, e3, e4] = some (d, p) := by simpa [Value.cells] using hf
    obtain ⟨xs, m, -, hd, -, hlen, hall⟩ := DataW.trod_array Tryd.underlying39 hf'
    match xs, hlen with
    | [y0, y1], _ =>
      have h0 := hall 0 (by omega)
      have h1 := hall 1 (by omega)
      rw [cells25] at h0 h1
      have h0' : DataW.trod enc Tryd.prog W 0 (fun _ => true) true m 25 [c0, c1, c2, c3, c4] = some y0 := h0
      have h1' : DataW.trod enc Tryd.prog W 0 (fun _ => true) true m 25 [e0, e1, e2, e3, e4] = some y1 := h1
      obtain ⟨x, hx1, hx2⟩ := regex_of m _ _ _ _ _ _ h0'
      obtain ⟨y, hy1, hy2⟩ := regex_of m _ _ _ _ _ _ h1'
      refine ⟨c0, c1, c2, c3, c4, e0, e1, e2, e3, e4, x, y, rfl, hx1, hy1, ?_⟩
      have hd' : d = .agg [y0.1, y1.1] := congrArg Prod.fst hd
      rw [hd']
      simp only [Rows.uptoBulk, Rows.uptoBulkAll]
      omega
set_option maxRecDepth 100000 in
theorem three_arg {r : Reach} {b0 : Nat} {v : Value} {d : DataW H} {p : List MemPlace} (hv : Value.okWide Tryd.prog W r b0 45 v) (h : DataW.Trod enc Tryd.prog W 0 (fun _ => true) true 45 v d p) :
    ∃ n l m : Int, v = .agg #[.int .i64 n, .int .i64 l, .int .i64 m] ∧ (Lit.int .i64 n).wf = true ∧ (Lit.int .i64 l).wf = true ∧ (Lit.int .i64 m).wf = true := by
  obtain ⟨cs, rfl, hsz⟩ := okWide_flat Tryd.underlying45 hv
  rw [cells45] at hsz
  obtain ⟨l⟩ := cs
  match l, hsz with
  | [c0, c1, c2], _ =>
    obtain ⟨fuel, hf⟩ := h
    have hf' : DataW.trod enc Tryd.prog W 0 (fun _ => true) true fuel 45 [c0, c1, c2] = some (d, p) := by simpa [Value.cells] using hf
    obtain ⟨xs, m, -, hd, -, hlen, hall⟩ := DataW.trod_array Tryd.underlying45 hf'
    match xs, hlen with
    | [y0, y1, y2], _ =>
      have h0 := hall 0 (by omega)
      have h1 := hall 1 (by omega)
      have h2 := hall 2 (by omega)
      rw [cells3] at h0 h1 h2
      have h0' : DataW.trod enc Tryd.prog W 0 (fun _ => true) true m 3 [c0] = some y0 := h0
      have h1' : DataW.trod enc Tryd.prog W 0 (fun _ => true) true m 3 [c1] = some y1 := h1
      have h2' : DataW.trod enc Tryd.prog W 0 (fun _ => true) true m 3 [c2] = some y2 := h2
      obtain ⟨z0, q0, _, w0⟩ := DataW.trod_int Tryd.underlying3 h0'
      obtain ⟨z1, q1, _, w1⟩ := DataW.trod_int Tryd.underlying3 h1'
      obtain ⟨z2, q2, _, w2⟩ := DataW.trod_int Tryd.underlying3 h2'
      obtain rfl : c0 = .int .i64 z0 := (List.cons.inj (q0 : [c0] = [.int .i64 z0])).1
      obtain rfl : c1 = .int .i64 z1 := (List.cons.inj (q1 : [c1] = [.int .i64 z1])).1
      obtain rfl : c2 = .int .i64 z2 := (List.cons.inj (q2 : [c2] = [.int .i64 z2])).1
      exact ⟨z0, z1, z2, rfl, w0, w1, w2⟩
end Go.Proofs.YtkghbhcjgogaeaaDoor
