/- Arguments: slices of bytes, of ints, of slices of ints, opened. -/
import Derived.Test.YtfljmnjcoagbmaaR9
import Derived.Deep.Slices
import Derived.Lib.SmallJoins
import Derived.ProofKit
import Derived.OpenShut
namespace Go.Proofs.Ytfljmnjcoagbmaa
open Go.RowKit Go.ChangeShapes Go.WideShapes Go.Joins
open Go.Lib (byteCells strCells)

variable {H : Type} {enc : TypeId × Value → H} {W : World}

theorem wf_u8 (z : Int) (h : (Lit.int .u8 z).wf = true) : 0 ≤ z ∧ z ≤ 255 := by simpa [Lit.wf, IntKind.min, IntKind.max, IntKind.signed, IntKind.bits] using h
theorem wf_i64 (z : Int) (h : (Lit.int .i64 z).wf = true) : -9223372036854775808 ≤ z ∧ z ≤ 9223372036854775807 := by simpa [Lit.wf, IntKind.min, IntKind.max, IntKind.signed, IntKind.bits] using h

theorem wf_u32 (z : Int) (h : (Lit.int .u32 z).wf = true) : 0 ≤ z ∧ z ≤ 4294967295 := by simpa [Lit.wf, IntKind.min, IntKind.max, IntKind.signed, IntKind.bits] using h

theorem reads_of {a : Addr} {len : Nat} {xs : List Value} (hl : xs.length = len) (hc : ∀ j u, xs[j]? = some u → W.cell? (a.add j) = some u) : Reads W W.heap.size (some a) len xs :=
  ⟨hl, fun j u hu => ⟨a, rfl, by
    have := World.block_lt_of_cell? _ _ (hc j u hu)
    rwa [block_add] at this, hc j u hu⟩⟩

theorem bytes_of {fuel : Nat} {v : Value} {y : DataW H × List MemPlace} (h : DataW.trod enc Try.prog W 0 (fun _ => true) true fuel 30 [v] = some y) :
    ∃ A n c l, v = .slice A n c ∧ Sl W A n c (byteCells l) := by
  rcases open_ints Try.underlying30 Try.underlying5 (by kernel_rfl) h with ⟨hcs, _⟩ | ⟨a, len, cap, zs, hcs, _, hl, hm, hz, _, hcell, hw⟩
  · cases hcs
    exact ⟨none, 0, 0, [], rfl, Sl.nil W⟩
  · cases hcs
    have hz' : zs.length = cap := by simpa using hz
    refine ⟨some a, len, cap, (zs.take len).map fun z => UInt8.ofNat z.toNat, rfl, hl, by unfold maxLen at hm; omega, fun e => (by cases e), reads_of (by rw [bytes_size, List.length_map, List.length_take]; omega) ?_⟩
    intro j u hu
    obtain ⟨b, hb, rfl⟩ := bytes_get _ j u hu
    rw [List.getElem?_map, List.getElem?_take] at hb
    split at hb
    · rename_i hj
      have hjl : j < zs.length := by omega
      rw [List.getElem?_eq_getElem hjl] at hb
      simp only [Option.map_some, Option.some.injEq] at hb
      rw [hcell j hjl, ← hb]
      have hwf := wf_u8 _ (hw zs[j] (List.getElem_mem _))
      have e : zs.getD j 0 = zs[j] := by simp [List.getD, hjl]
      rw [e, UInt8.toNat_ofNat']
      congr 2
      omega
    · simp at hb

/-- A parameter that is a slice of bytes. -/
theorem bytes_arg {A : Option Addr} {n c : Nat} {d : DataW H} {p : List MemPlace} (h : DataW.Trod enc Try.prog W 0 (fun _ => true) true 30 (.slice A n c) d p) : ∃ l, Sl W A n c (byteCells l) := by
  obtain ⟨fuel, hf⟩ := h
  obtain ⟨A', n', c', l, e, hs⟩ := bytes_of (v := .slice A n c) (by simpa [Value.cells] using hf)
  cases e
  exact ⟨l, hs⟩

theorem ints_of {fuel : Nat} {v : Value} {y : DataW H × List MemPlace} (h : DataW.trod enc Try.prog W 0 (fun _ => true) true fuel 22 [v] = some y) :
    ∃ A n c l, v = .slice A n c ∧ Sl W A n c (numCells l) ∧ ∀ z ∈ l, (Lit.int .i64 z).wf = true := by
  rcases open_ints Try.underlying22 Try.underlying3 (by kernel_rfl) h with ⟨hcs, _⟩ | ⟨a, len, cap, zs, hcs, _, hl, hm, hz, _, hcell, hw⟩
  · cases hcs
    exact ⟨none, 0, 0, [], rfl, Sl.nil W, by simp⟩
  · cases hcs
    have hz' : zs.length = cap := by simpa using hz
    refine ⟨some a, len, cap, zs.take len, rfl, ⟨hl, by unfold maxLen at hm; omega, (fun e => by cases e), reads_of (by rw [num_len, List.length_take]; omega) ?_⟩, fun z hz => hw z (List.mem_of_mem_take hz)⟩
    intro j u hu
    have hj : j < len := by have := (List.getElem?_eq_some_iff.1 hu).1; rw [num_len, List.length_take] at this; omega
    have hjl : j < zs.length := by omega
    have e0 : (zs.take len)[j]? = some zs[j] := by rw [List.getElem?_take, if_pos hj, List.getElem?_eq_getElem hjl]
    rw [num_get _ j _ e0] at hu
    cases hu
    rw [hcell j hjl]
    simp [List.getD, hjl]
/-- A parameter that is a slice of ints. -/
theorem ints_arg {A : Option Addr} {n c : Nat} {d : DataW H} {p : List MemPlace} (h : DataW.Trod enc Try.prog W 0 (fun _ => true) true 22 (.slice A n c) d p) : ∃ l, Sl W A n c (numCells l) := by
  obtain ⟨fuel, hf⟩ := h
  obtain ⟨A', n', c', l, e, hs, _⟩ := ints_of (v := .slice A n c) (by simpa [Value.cells] using hf)
  cases e
  exact ⟨l, hs⟩

theorem list_of {α : Type} (n : Nat) (P : Nat → α → Prop) (h : ∀ i, i < n → ∃ x, P i x) : ∃ l : List α, l.length = n ∧ ∀ i x, l[i]? = some x → P i x := by
  induction n with
  | zero => exact ⟨[], rfl, fun i x hx => by simp at hx⟩
  | succ n ih =>
    obtain ⟨l, hl, hP⟩ := ih fun i hi => h i (by omega)
    obtain ⟨x, hx⟩ := h n (by omega)
    refine ⟨l ++ [x], by simp [hl], fun i y hy => ?_⟩
    by_cases hi : i < n
    · rw [List.getElem?_append_left (by omega)] at hy
      exact hP i y hy
    · rw [List.getElem?_append_right (by omega)] at hy
      have hlt := (List.getElem?_eq_some_iff.1 hy).1
      have : i = n := by simp at hlt; omega
      subst this
      rw [hl, Nat.sub_self] at hy
      cases hy
      exact hx
theorem cells22 : Try.prog.cellsOf 22 = 1 := by kernel_rfl
/-- A parameter that is a slice of slices of ints. -/
theorem rows_arg {A : Option Addr} {n c : Nat} {d : DataW H} {p : List MemPlace} (h : DataW.Trod enc Try.prog W 0 (fun _ => true) true 27 (.slice A n c) d p) : ∃ ls, RowsI W A n c ls ∧ ∀ l ∈ ls, ∀ z ∈ l, (Lit.int .i64 z).wf = true := by
  obtain ⟨fuel, hf⟩ := h
  have hf' : DataW.trod enc Try.prog W 0 (fun _ => true) true fuel 27 [.slice A n c] = some (d, p) := by simpa [Value.cells] using hf
  rcases Go.Deep.open_slice Try.underlying27 hf' with ⟨hcs, _⟩ | ⟨a, len, cap, m, q, D, Pl, hcs, _, hl, hm, hmm, _, hx⟩
  · cases hcs
    exact ⟨[], ⟨Nat.le_refl _, by omega, rfl, fun i f hf => by simp at hf⟩, by simp⟩
  · cases hcs
    have hm' : m = c := by simpa using hmm
    obtain ⟨fs, hfl, hfs⟩ := list_of n (fun i (l : List Int) => (∃ B p q, W.cell? (a.add i) = some (.slice B p q) ∧ Sl W B p q (numCells l)) ∧ ∀ z ∈ l, (Lit.int .i64 z).wf = true) fun i hi => by
      obtain ⟨cs, hc, ht⟩ := hx i (by omega)
      rw [cells22] at hc
      obtain ⟨_, hcl, hat⟩ := World.cells?_some hc
      match cs, hcl with
      | [v0], _ =>
        have e0 := hat 0 (by omega)
        rw [Go.Deep.add_add] at e0
        obtain ⟨B, p', q', l, hv, hs, hw⟩ := ints_of ht
        subst hv
        exact ⟨l, ⟨B, p', q', by simpa using e0, hs⟩, hw⟩
    refine ⟨fs, ⟨hl, by unfold maxLen at hm; omega, hfl, fun i l hl => ?_⟩, fun l hl => ?_⟩
    · obtain ⟨⟨B, p, q, h1, h2⟩, _⟩ := hfs i l hl
      exact ⟨a, B, p, q, rfl, h1, h2⟩
    · obtain ⟨i, hi, rfl⟩ := List.getElem_of_mem hl
      exact (hfs i _ (List.getElem?_eq_getElem hi)).2

end Go.Proofs.Ytfljmnjcoagbmaa
