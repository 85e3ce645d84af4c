/- An argument that is a slice of slices of bytes, opened. -/
import Derived.Test.YtandmdmgleeogaaAr
import Derived.Test.YtandmdmgleeogaaXr
import Derived.Deep.Slices
import Derived.Lib.SmallJoins
namespace Go.Proofs.Ytandmdmgleeogaa
open Go.RowKit Go.ChangeShapes Go.WideShapes Go.Joins
open Go.Lib (byteCells)

/-- The slice at A of n slices of bytes: each with what it reads as. -/
def ArgRows (W : World) (A : Option Addr) (n c : Nat) (fs : List ((Option Addr × Nat × Nat) × List UInt8)) : Prop :=
  n ≤ c ∧ c ≤ 9223372036854775807 ∧ fs.length = n ∧ ∀ (i : Nat) (x : (Option Addr × Nat × Nat) × List UInt8), fs[i]? = some x → ∃ ad, A = some ad ∧ W.cell? (ad.add i) = some (slv x.1) ∧ Sl W x.1.1 x.1.2.1 x.1.2.2 (byteCells x.2)

theorem ArgRows.below {W W' : World} {A : Option Addr} {n c : Nat} {fs : List ((Option Addr × Nat × Nat) × List UInt8)} (h : ArgRows W A n c fs) (hb : Below W.heap.size W W') : ArgRows W' A n c fs := by
  refine ⟨h.1, h.2.1, h.2.2.1, fun i x hx => ?_⟩
  obtain ⟨ad, hA, hc, hs⟩ := h.2.2.2 i x hx
  exact ⟨ad, hA, (hb.cell (World.block_lt_of_cell? _ _ hc)).trans hc, hs.below hb⟩
theorem ArgRows.at_ {W : World} {A : Option Addr} {n c : Nat} {fs : List ((Option Addr × Nat × Nat) × List UInt8)} (h : ArgRows W A n c fs) {k : Nat} (hk : k < n) :
    ∃ ad B p q l, A = some ad ∧ (fs.map Prod.snd)[k]? = some l ∧ W.cell? (ad.add k) = some (.slice B p q) ∧ Sl W B p q (byteCells l) := by
  have hkl : k < fs.length := by rw [h.2.2.1]; exact hk
  obtain ⟨ad, hA, hc, hs⟩ := h.2.2.2 k _ (List.getElem?_eq_getElem hkl)
  exact ⟨ad, _, _, _, _, hA, by rw [List.getElem?_map, List.getElem?_eq_getElem hkl]; rfl, hc, hs⟩

section
variable {H : Type} {enc : TypeId × Value → H} {W : World}
theorem list_of {α : Type} (n : Nat) (P : Nat → α → Prop) (h : ∀ i, i < n → ∃ x, P i x) : ∃ l : List α, l.length = n ∧ ∀ i x, l[i]? = some x → P i x := by
  induction n with
  | zero => exact ⟨[], rfl, fun i x hx => by simp at hx⟩
  | succ n ih =>
    obtain ⟨l, hl, hP⟩ := ih fun i hi => h i (by omega)
    obtain ⟨x, hx⟩ := h n (by omega)
    refine ⟨l ++ [x], by simp [hl], fun i y hy => ?_⟩
    by_cases hi : i < n
    · rw [List.getElem?_append_left (by omega)] at hy
      exact hP i y hy
    · rw [List.getElem?_append_right (by omega)] at hy
      have hlt := (List.getElem?_eq_some_iff.1 hy).1
      have : i = n := by simp at hlt; omega
      subst this
      rw [hl, Nat.sub_self] at hy
      cases hy
      exact hx

theorem cells23 : Try.prog.cellsOf 23 = 1 := by kernel_rfl
theorem rows_arg {A : Option Addr} {n c : Nat} {d : DataW H} {p : List MemPlace} (h : DataW.Trod enc Try.prog W 0 (fun _ => true) true 35 (.slice A n c) d p) : ∃ fs, ArgRows W A n c fs := by
  obtain ⟨fuel, hf⟩ := h
  have hf' : DataW.trod enc Try.prog W 0 (fun _ => true) true fuel 35 [.slice A n c] = some (d, p) := by simpa [Value.cells] using hf
  rcases Go.Deep.open_slice Try.underlying35 hf' with ⟨hcs, _⟩ | ⟨a, len, cap, m, q, D, Pl, hcs, _, hl, hm, hmm, _, hx⟩
  · cases hcs
    exact ⟨[], Nat.le_refl _, by omega, rfl, fun i f hf => by simp at hf⟩
  · cases hcs
    have hm' : m = c := by simpa using hmm
    obtain ⟨fs, hfl, hfs⟩ := list_of n (fun i (x : (Option Addr × Nat × Nat) × List UInt8) => W.cell? (a.add i) = some (slv x.1) ∧ Sl W x.1.1 x.1.2.1 x.1.2.2 (byteCells x.2)) fun i hi => by
      obtain ⟨cs, hc, ht⟩ := hx i (by omega)
      rw [cells23] at hc
      obtain ⟨_, hcl, hat⟩ := World.cells?_some hc
      match cs, hcl with
      | [v0], _ =>
        have e0 := hat 0 (by omega)
        rw [Go.Deep.add_add] at e0
        obtain ⟨B, p', q', l, hv, hs⟩ := bytes_of ht
        subst hv
        exact ⟨((B, p', q'), l), by simpa [slv] using e0, hs⟩
    exact ⟨fs, hl, by unfold maxLen at hm; omega, hfl, fun i x hx => ⟨a, rfl, hfs i x hx⟩⟩
end

end Go.Proofs.Ytandmdmgleeogaa
