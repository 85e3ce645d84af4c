/- Arguments: slices of bytes and of integers, opened. -/
import Derived.Test.YtandmdmgleeogaaW6
import Derived.ProofKit
import Derived.OpenShut
namespace Go.Proofs.Ytandmdmgleeogaa
open Go.RowKit Go.ChangeShapes Go.WideShapes
open Go.Lib (byteCells strCells)

variable {H : Type} {enc : TypeId × Value → H} {W : World}

theorem wf_u8 (z : Int) (h : (Lit.int .u8 z).wf = true) : 0 ≤ z ∧ z ≤ 255 := by simpa [Lit.wf, IntKind.min, IntKind.max, IntKind.signed, IntKind.bits] using h
theorem wf_i64 (z : Int) (h : (Lit.int .i64 z).wf = true) : -9223372036854775808 ≤ z ∧ z ≤ 9223372036854775807 := by simpa [Lit.wf, IntKind.min, IntKind.max, IntKind.signed, IntKind.bits] using h

theorem wf_u32 (z : Int) (h : (Lit.int .u32 z).wf = true) : 0 ≤ z ∧ z ≤ 4294967295 := by simpa [Lit.wf, IntKind.min, IntKind.max, IntKind.signed, IntKind.bits] using h

theorem reads_of {a : Addr} {len : Nat} {xs : List Value} (hl : xs.length = len) (hc : ∀ j u, xs[j]? = some u → W.cell? (a.add j) = some u) : Reads W W.heap.size (some a) len xs :=
  ⟨hl, fun j u hu => ⟨a, rfl, by
    have := World.block_lt_of_cell? _ _ (hc j u hu)
    rwa [block_add] at this, hc j u hu⟩⟩

theorem bytes_of {fuel : Nat} {v : Value} {y : DataW H × List MemPlace} (h : DataW.trod enc Try.prog W 0 (fun _ => true) true fuel 23 [v] = some y) :
    ∃ A n c l, v = .slice A n c ∧ Sl W A n c (byteCells l) := by
  rcases open_ints Try.underlying23 Try.underlying5 (by kernel_rfl) h with ⟨hcs, _⟩ | ⟨a, len, cap, zs, hcs, _, hl, hm, hz, _, hcell, hw⟩
  · cases hcs
    exact ⟨none, 0, 0, [], rfl, Sl.nil W⟩
  · cases hcs
    have hz' : zs.length = cap := by simpa using hz
    refine ⟨some a, len, cap, (zs.take len).map fun z => UInt8.ofNat z.toNat, rfl, hl, by unfold maxLen at hm; omega, fun e => (by cases e), reads_of (by rw [bytes_size, List.length_map, List.length_take]; omega) ?_⟩
    intro j u hu
    obtain ⟨b, hb, rfl⟩ := bytes_get _ j u hu
    rw [List.getElem?_map, List.getElem?_take] at hb
    split at hb
    · rename_i hj
      have hjl : j < zs.length := by omega
      rw [List.getElem?_eq_getElem hjl] at hb
      simp only [Option.map_some, Option.some.injEq] at hb
      rw [hcell j hjl, ← hb]
      have hwf := wf_u8 _ (hw zs[j] (List.getElem_mem _))
      have e : zs.getD j 0 = zs[j] := by simp [List.getD, hjl]
      rw [e, UInt8.toNat_ofNat']
      congr 2
      omega
    · simp at hb

/-- A parameter that is a slice of bytes. -/
theorem bytes_arg {A : Option Addr} {n c : Nat} {d : DataW H} {p : List MemPlace} (h : DataW.Trod enc Try.prog W 0 (fun _ => true) true 23 (.slice A n c) d p) : ∃ l, Sl W A n c (byteCells l) := by
  obtain ⟨fuel, hf⟩ := h
  obtain ⟨A', n', c', l, e, hs⟩ := bytes_of (v := .slice A n c) (by simpa [Value.cells] using hf)
  cases e
  exact ⟨l, hs⟩
end Go.Proofs.Ytandmdmgleeogaa
