/- An argument that is a slice of tokens, opened. -/
import Derived.Test.YteokeljmggdecaaDoorLa
import Derived.ProofKit
import Derived.OpenShut
import Derived.Deep.Slices
import Derived.Lib.SmallJoins
namespace Go.Proofs.YteokeljmggdecaaDoor
open Go.RowKit Go.ChangeShapes Go.WideShapes Go.Joins

variable {H : Type} {enc : TypeId × Value → H} {W : World}

theorem list_of {α : Type} (n : Nat) (P : Nat → α → Prop) (h : ∀ i, i < n → ∃ x, P i x) : ∃ l : List α, l.length = n ∧ ∀ i x, l[i]? = some x → P i x := by
  induction n with
  | zero => exact ⟨[], rfl, fun i x hx => by simp at hx⟩
  | succ n ih =>
    obtain ⟨l, hl, hP⟩ := ih fun i hi => h i (by omega)
    obtain ⟨x, hx⟩ := h n (by omega)
    refine ⟨l ++ [x], by simp [hl], fun i y hy => ?_⟩
    by_cases hi : i < n
    · rw [List.getElem?_append_left (by omega)] at hy
      exact hP i y hy
    · rw [List.getElem?_append_right (by omega)] at hy
      have hlt := (List.getElem?_eq_some_iff.1 hy).1
      have : i = n := by simp at hlt; omega
      subst this
      rw [hl, Nat.sub_self] at hy
      cases hy
      exact hx
theorem cells33 : Tryd.prog.cellsOf 33 = 4 := by kernel_rfl
theorem no_spot {W : World} {a : Addr} {v : Value} (h : W.cell? a = some v) : ∃ g o, a = ⟨g, o, none⟩ := by
  obtain ⟨g, o, s⟩ := a
  cases s with
  | none => exact ⟨g, o, rfl⟩
  | some s =>
    unfold World.cell? at h
    split at h
    · simp at h
    · cases h
set_option maxRecDepth 100000 in
/-- One token. -/
theorem token_of {fuel : Nat} {v0 v1 v2 v3 : Value} {y : DataW H × List MemPlace} (h : DataW.trod enc Tryd.prog W 0 (fun _ => true) true fuel 33 [v0, v1, v2, v3] = some y) :
    ∃ t : Tk, v0 = .int .i64 t.kind ∧ v1 = .string (bs t.text) ∧ v2 = .int .i64 t.at_ ∧ v3 = .int .i64 t.en ∧ t.text.length ≤ 9223372036854775807 := by
  obtain ⟨xs, n, _, _, hl, hlen, hall⟩ := DataW.trod_struct Tryd.underlying33 h
  match xs, hlen with
  | [y0, y1, y2, y3], _ =>
    have h0 : DataW.trod enc Tryd.prog W 0 (fun _ => true) true n 3 [v0] = some y0 := hall 0 _ rfl
    have h1 : DataW.trod enc Tryd.prog W 0 (fun _ => true) true n 9 [v1] = some y1 := hall 1 _ rfl
    have h2 : DataW.trod enc Tryd.prog W 0 (fun _ => true) true n 3 [v2] = some y2 := hall 2 _ rfl
    have h3 : DataW.trod enc Tryd.prog W 0 (fun _ => true) true n 3 [v3] = some y3 := hall 3 _ rfl
    obtain ⟨z0, q0, _, _⟩ := DataW.trod_int Tryd.underlying3 h0
    obtain ⟨s1, q1, _, w1⟩ := DataW.trod_string Tryd.underlying9 h1
    obtain ⟨z2, q2, _, _⟩ := DataW.trod_int Tryd.underlying3 h2
    obtain ⟨z3, q3, _, _⟩ := DataW.trod_int Tryd.underlying3 h3
    have r0 : v0 = .int .i64 z0 := (List.cons.inj (q0 : [v0] = [.int .i64 z0])).1
    have r1 : v1 = .string s1 := (List.cons.inj (q1 : [v1] = [.string s1])).1
    have r2 : v2 = .int .i64 z2 := (List.cons.inj (q2 : [v2] = [.int .i64 z2])).1
    have r3 : v3 = .int .i64 z3 := (List.cons.inj (q3 : [v3] = [.int .i64 z3])).1
    refine ⟨⟨z0, s1.data.toList, z2, z3⟩, r0, by rw [r1, bs_self], r2, r3, ?_⟩
    unfold maxLen at w1
    show s1.data.toList.length ≤ _
    have : s1.data.toList.length = s1.size := Array.length_toList
    omega
set_option maxRecDepth 100000 in
theorem token_arg {r : Reach} {b0 : Nat} {v : Value} {d : DataW H} {p : List MemPlace} (hv : Value.okWide Tryd.prog W r b0 23 v) (h : DataW.Trod enc Tryd.prog W 0 (fun _ => true) true 23 v d p) : ∃ A n c l, v = .slice A n c ∧ TkS W A n c l ∧ Wide l := by
  obtain ⟨A, n, c, rfl⟩ : ∃ A n c, v = .slice A n c := okWide_slice Tryd.underlying23 hv
  obtain ⟨fuel, hf⟩ := h
  have hf' : DataW.trod enc Tryd.prog W 0 (fun _ => true) true fuel 23 [.slice A n c] = some (d, p) := by simpa [Value.cells] using hf
  rcases Go.Deep.open_slice Tryd.underlying23 hf' with ⟨hcs, _⟩ | ⟨a, len, cap, m, q, D, Pl, hcs, _, hl, hm, hmm, _, hx⟩
  · cases hcs
    exact ⟨none, 0, 0, [], rfl, TkS.nil W, fun t ht => by simp at ht⟩
  · cases hcs
    have hm' : m = c := by simpa using hmm
    obtain ⟨l, hfl, hfs⟩ := list_of n (fun i (t : Tk) => (∃ g o, a = ⟨g, o, none⟩ ∧ W.cell? ⟨g, o + i * 4, none⟩ = some (.int .i64 t.kind) ∧ W.cell? ⟨g, o + i * 4 + 1, none⟩ = some (.string (bs t.text)) ∧
        W.cell? ⟨g, o + i * 4 + 2, none⟩ = some (.int .i64 t.at_) ∧ W.cell? ⟨g, o + i * 4 + 3, none⟩ = some (.int .i64 t.en)) ∧ t.text.length ≤ 9223372036854775807) fun i hi => by
      have key : ∀ j, j < c → ∃ v0 v1 v2 v3 g' o', a.add (j * 4) = ⟨g', o', none⟩ ∧ W.cell? ⟨g', o', none⟩ = some v0 ∧ W.cell? ⟨g', o' + 1, none⟩ = some v1 ∧ W.cell? ⟨g', o' + 2, none⟩ = some v2 ∧ W.cell? ⟨g', o' + 3, none⟩ = some v3 ∧
          ∃ y', DataW.trod enc Tryd.prog W 0 (fun _ => true) true q 33 [v0, v1, v2, v3] = some y' := fun j hj => by
        obtain ⟨cs, hc, ht⟩ := hx j (by omega)
        rw [cells33] at hc
        obtain ⟨_, hcl, hat⟩ := World.cells?_some hc
        match cs, hcl with
        | [v0, v1, v2, v3], _ =>
          have e0 := hat 0 (by omega)
          have e1 := hat 1 (by omega)
          have e2 := hat 2 (by omega)
          have e3 := hat 3 (by omega)
          obtain ⟨g', o', ha⟩ := no_spot (show W.cell? (a.add (j * 4)) = some v0 from e0)
          rw [ha] at e0 e1 e2 e3
          exact ⟨v0, v1, v2, v3, g', o', ha, e0, e1, e2, e3, _, ht⟩
      obtain ⟨_, _, _, _, g, o, ha0, _⟩ := key 0 (by omega)
      have ha : a = ⟨g, o, none⟩ := by simpa [Addr.add] using ha0
      obtain ⟨v0, v1, v2, v3, g', o', hai, e0, e1, e2, e3, y', ht⟩ := key i (by omega)
      obtain ⟨t, rfl, rfl, rfl, rfl, hw⟩ := token_of ht
      have hgo : g' = g ∧ o' = o + i * 4 := by
        rw [ha] at hai
        unfold Addr.add at hai
        split at hai
        · rename_i hz
          injection hai with h1 h2
          exact ⟨h1.symm, by omega⟩
        · injection hai with h1 h2
          exact ⟨h1.symm, h2.symm⟩
      obtain ⟨rfl, rfl⟩ := hgo
      exact ⟨t, ⟨g', o, ha, e0, e1, e2, e3⟩, hw⟩
    refine ⟨some a, n, c, l, rfl, ⟨hl, by unfold maxLen at hm; omega, hfl, fun i t ht => ?_⟩, fun t ht => ?_⟩
    · obtain ⟨⟨g, o, h1, h2⟩, _⟩ := hfs i t ht
      exact ⟨g, o, by rw [h1], h2⟩
    · obtain ⟨i, hi⟩ := List.getElem?_of_mem ht
      exact (hfs i t hi).2
end Go.Proofs.YteokeljmggdecaaDoor
