/- Arguments: slices of ints and of grams, opened. -/
import Derived.Test.YtdneoeiggebijaaL4
import Derived.Deep.Slices
import Derived.Lib.SmallJoins
import Derived.ProofKit
import Derived.OpenShut
namespace Go.Proofs.Ytdneoeiggebijaa
open Go.RowKit Go.ChangeShapes Go.WideShapes Go.Joins
open Go.Lib (byteCells strCells)

variable {H : Type} {enc : TypeId × Value → H} {W : World}

theorem wf_i64 (z : Int) (h : (Lit.int .i64 z).wf = true) : -9223372036854775808 ≤ z ∧ z ≤ 9223372036854775807 := by simpa [Lit.wf, IntKind.min, IntKind.max, IntKind.signed, IntKind.bits] using h

theorem reads_of {a : Addr} {len : Nat} {xs : List Value} (hl : xs.length = len) (hc : ∀ j u, xs[j]? = some u → W.cell? (a.add j) = some u) : Reads W W.heap.size (some a) len xs :=
  ⟨hl, fun j u hu => ⟨a, rfl, by
    have := World.block_lt_of_cell? _ _ (hc j u hu)
    rwa [block_add] at this, hc j u hu⟩⟩

theorem ints_of {fuel : Nat} {v : Value} {y : DataW H × List MemPlace} (h : DataW.trod enc Try.prog W 0 (fun _ => true) true fuel 24 [v] = some y) :
    ∃ A n c l, v = .slice A n c ∧ Sl W A n c (numCells l) ∧ ∀ z ∈ l, (Lit.int .i64 z).wf = true := by
  rcases open_ints Try.underlying24 Try.underlying3 (by kernel_rfl) h with ⟨hcs, _⟩ | ⟨a, len, cap, zs, hcs, _, hl, hm, hz, _, hcell, hw⟩
  · cases hcs
    exact ⟨none, 0, 0, [], rfl, Sl.nil W, by simp⟩
  · cases hcs
    have hz' : zs.length = cap := by simpa using hz
    refine ⟨some a, len, cap, zs.take len, rfl, ⟨hl, by unfold maxLen at hm; omega, (fun e => by cases e), reads_of (by rw [num_len, List.length_take]; omega) ?_⟩, fun z hz => hw z (List.mem_of_mem_take hz)⟩
    intro j u hu
    have hj : j < len := by have := (List.getElem?_eq_some_iff.1 hu).1; rw [num_len, List.length_take] at this; omega
    have hjl : j < zs.length := by omega
    have e0 : (zs.take len)[j]? = some zs[j] := by rw [List.getElem?_take, if_pos hj, List.getElem?_eq_getElem hjl]
    rw [num_get _ j _ e0] at hu
    cases hu
    rw [hcell j hjl]
    simp [List.getD, hjl]
/-- A parameter that is a slice of ints. -/
theorem ints_arg {A : Option Addr} {n c : Nat} {d : DataW H} {p : List MemPlace} (h : DataW.Trod enc Try.prog W 0 (fun _ => true) true 24 (.slice A n c) d p) : ∃ l, Sl W A n c (numCells l) ∧ In64 l := by
  obtain ⟨fuel, hf⟩ := h
  obtain ⟨A', n', c', l, e, hs, hw⟩ := ints_of (v := .slice A n c) (by simpa [Value.cells] using hf)
  cases e
  exact ⟨l, hs, fun z hz => wf_i64 z (hw z hz)⟩

theorem list_of {α : Type} (n : Nat) (P : Nat → α → Prop) (h : ∀ i, i < n → ∃ x, P i x) : ∃ l : List α, l.length = n ∧ ∀ i x, l[i]? = some x → P i x := by
  induction n with
  | zero => exact ⟨[], rfl, fun i x hx => by simp at hx⟩
  | succ n ih =>
    obtain ⟨l, hl, hP⟩ := ih fun i hi => h i (by omega)
    obtain ⟨x, hx⟩ := h n (by omega)
    refine ⟨l ++ [x], by simp [hl], fun i y hy => ?_⟩
    by_cases hi : i < n
    · rw [List.getElem?_append_left (by omega)] at hy
      exact hP i y hy
    · rw [List.getElem?_append_right (by omega)] at hy
      have hlt := (List.getElem?_eq_some_iff.1 hy).1
      have : i = n := by simp at hlt; omega
      subst this
      rw [hl, Nat.sub_self] at hy
      cases hy
      exact hx
theorem cells39 : Try.prog.cellsOf 32 = 2 := by kernel_rfl
theorem add_plain (g o k : Nat) : (⟨g, o, none⟩ : Addr).add k = ⟨g, o + k, none⟩ := by
  unfold Addr.add
  split <;> simp_all
/-- A parameter that is a slice of grams. -/
theorem grams_arg {A : Option Addr} {n c : Nat} {d : DataW H} {p : List MemPlace} (h : DataW.Trod enc Try.prog W 0 (fun _ => true) true 30 (.slice A n c) d p) :
    ∃ gs, GrS W A n c gs ∧ ∀ g ∈ gs, In64 g.2 := by
  obtain ⟨fuel, hf⟩ := h
  have hf' : DataW.trod enc Try.prog W 0 (fun _ => true) true fuel 30 [.slice A n c] = some (d, p) := by simpa [Value.cells] using hf
  rcases Go.Deep.open_slice Try.underlying30 hf' with ⟨hcs, _⟩ | ⟨a, len, cap, m, q, D, Pl, hcs, _, hl, hm, hmm, _, hx⟩
  · cases hcs
    exact ⟨[], ⟨Nat.le_refl _, by omega, rfl, fun i f hf => by simp at hf⟩, by simp⟩
  · cases hcs
    have hm' : m = c := by simpa using hmm
    obtain ⟨gs, hgl, hgs⟩ := list_of n (fun i (x : Int × List Int) => (∃ B p q, W.cell? (a.add (i * 2)) = some (.int .i64 x.1) ∧ W.cell? (a.add (i * 2 + 1)) = some (.slice B p q) ∧ Sl W B p q (numCells x.2)) ∧ (Lit.int .i64 x.1).wf = true ∧ ∀ z ∈ x.2, (Lit.int .i64 z).wf = true) fun i hi => by
      obtain ⟨cs, hc, ht⟩ := hx i (by omega)
      rw [cells39] at hc
      obtain ⟨_, hcl, hat⟩ := World.cells?_some hc
      obtain ⟨y0, y1, k, _, _, h0, h1⟩ := trod_struct2 Try.underlying32 ht
      match cs, hcl with
      | [v0, v1], _ =>
        have e0 := hat 0 (by omega)
        have e1 := hat 1 (by omega)
        rw [Go.Deep.add_add] at e0 e1
        obtain ⟨z0, q0, _, w0⟩ := DataW.trod_int Try.underlying3 h0
        have h1' : DataW.trod enc Try.prog W 0 (fun _ => true) true k 24 [v1] = some y1 := h1
        obtain ⟨B, p', q', xs, q1, hs, hw⟩ := ints_of h1'
        have r0 : v0 = .int .i64 z0 := (List.cons.inj (q0 : [v0] = [.int .i64 z0])).1
        subst r0 q1
        exact ⟨(z0, xs), ⟨B, p', q', e0, e1, hs⟩, w0, hw⟩
    refine ⟨gs, ⟨hl, by unfold maxLen at hm; omega, hgl, fun i x hxx => ?_⟩, fun g hg => ?_⟩
    · have hi := (List.getElem?_eq_some_iff.1 hxx).1
      obtain ⟨g, o, sp⟩ := a
      obtain ⟨⟨_, _, _, k0, _⟩, _⟩ := hgs 0 gs[0] (List.getElem?_eq_getElem (by omega))
      have hsp : sp = none := by simpa [Addr.add] using World.cell?_spot k0
      subst hsp
      obtain ⟨⟨B, p', q', h0, h1, hs⟩, _⟩ := hgs i x hxx
      rw [add_plain] at h0 h1
      exact ⟨g, o, rfl, B, p', q', h0, h1, hs⟩
    · obtain ⟨i, hi, rfl⟩ := List.getElem_of_mem hg
      exact fun z hz => wf_i64 z ((hgs i _ (List.getElem?_eq_getElem hi)).2.2 z hz)

end Go.Proofs.Ytdneoeiggebijaa
