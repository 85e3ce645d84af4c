/- Arguments: slices of fields, opened. -/
import Derived.Test.YtpgoglkgaeccnaaAr
import Derived.Deep.Slices
import Derived.Lib.SmallJoins
namespace Go.Proofs.Ytpgoglkgaeccnaa
open Go.RowKit Go.ChangeShapes Go.WideShapes Go.Joins
open Go.Lib (byteCells strCells)

/-- A field: its kind, its number, its text, its list. -/
def Fd : Type := Int × Int × ByteArray × List Int

/-- Field i of the slice at A is f. -/
def FdAt (W : World) (A : Option Addr) (i : Nat) (f : Fd) : Prop :=
  ∃ ad A' n' c', A = some ad ∧ W.cell? (ad.add (i * 4)) = some (.int .i64 f.1) ∧ W.cell? (ad.add (i * 4 + 1)) = some (.int .i64 f.2.1) ∧ W.cell? (ad.add (i * 4 + 2)) = some (.string f.2.2.1) ∧
    W.cell? (ad.add (i * 4 + 3)) = some (.slice A' n' c') ∧ Sl W A' n' c' (numCells f.2.2.2) ∧ (∀ z ∈ f.2.2.2, z ≤ 9223372036854775807) ∧ f.2.2.1.size ≤ 9223372036854775807

/-- The slice at A of n fields is fs. -/
def FdsAt (W : World) (A : Option Addr) (n c : Nat) (fs : List Fd) : Prop := n ≤ c ∧ c ≤ 9223372036854775807 ∧ fs.length = n ∧ ∀ i f, fs[i]? = some f → FdAt W A i f

theorem FdAt.below {W W' : World} {A : Option Addr} {i : Nat} {f : Fd} (h : FdAt W A i f) (hb : Below W.heap.size W W') : FdAt W' A i f := by
  obtain ⟨ad, A', n', c', hA, h0, h1, h2, h3, hs, hz, ht⟩ := h
  have key : ∀ (k : Nat) (u : Value), W.cell? (ad.add k) = some u → W'.cell? (ad.add k) = some u := fun k u hu => (hb.cell (World.block_lt_of_cell? _ _ hu)).trans hu
  exact ⟨ad, A', n', c', hA, key _ _ h0, key _ _ h1, key _ _ h2, key _ _ h3, hs.below hb, hz, ht⟩
theorem FdsAt.below {W W' : World} {A : Option Addr} {n c : Nat} {fs : List Fd} (h : FdsAt W A n c fs) (hb : Below W.heap.size W W') : FdsAt W' A n c fs :=
  ⟨h.1, h.2.1, h.2.2.1, fun i f hf => (h.2.2.2 i f hf).below hb⟩

section
variable {H : Type} {enc : TypeId × Value → H} {W : World}
theorem list_of {α : Type} (n : Nat) (P : Nat → α → Prop) (h : ∀ i, i < n → ∃ x, P i x) : ∃ l : List α, l.length = n ∧ ∀ i x, l[i]? = some x → P i x := by
  induction n with
  | zero => exact ⟨[], rfl, fun i x hx => by simp at hx⟩
  | succ n ih =>
    obtain ⟨l, hl, hP⟩ := ih fun i hi => h i (by omega)
    obtain ⟨x, hx⟩ := h n (by omega)
    refine ⟨l ++ [x], by simp [hl], fun i y hy => ?_⟩
    by_cases hi : i < n
    · rw [List.getElem?_append_left (by omega)] at hy
      exact hP i y hy
    · rw [List.getElem?_append_right (by omega)] at hy
      have hlt := (List.getElem?_eq_some_iff.1 hy).1
      have : i = n := by simp at hlt; omega
      subst this
      rw [hl, Nat.sub_self] at hy
      cases hy
      exact hx

theorem cells44 : Try.prog.cellsOf 44 = 4 := by kernel_rfl
theorem fields_arg {A : Option Addr} {n c : Nat} {d : DataW H} {p : List MemPlace} (h : DataW.Trod enc Try.prog W 0 (fun _ => true) true 42 (.slice A n c) d p) : ∃ fs, FdsAt W A n c fs := by
  obtain ⟨fuel, hf⟩ := h
  have hf' : DataW.trod enc Try.prog W 0 (fun _ => true) true fuel 42 [.slice A n c] = some (d, p) := by simpa [Value.cells] using hf
  rcases Go.Deep.open_slice Try.underlying42 hf' with ⟨hcs, _⟩ | ⟨a, len, cap, m, q, D, Pl, hcs, _, hl, hm, hmm, _, hx⟩
  · cases hcs
    exact ⟨[], Nat.le_refl _, by omega, rfl, fun i f hf => by simp at hf⟩
  · cases hcs
    have hm' : m = c := by simpa using hmm
    obtain ⟨fs, hfl, hfs⟩ := list_of n (fun i f => FdAt W (some a) i f) fun i hi => by
      obtain ⟨cs, hc, ht⟩ := hx i (by omega)
      rw [cells44] at hc
      obtain ⟨_, hcl, hat⟩ := World.cells?_some hc
      obtain ⟨y0, y1, y2, y3, k, _, _, h0, h1, h2, h3⟩ := trod_struct4 Try.underlying44 ht
      match cs, hcl with
      | [v0, v1, v2, v3], _ =>
        have e0 := hat 0 (by omega)
        have e1 := hat 1 (by omega)
        have e2 := hat 2 (by omega)
        have e3 := hat 3 (by omega)
        rw [Go.Deep.add_add] at e0 e1 e2 e3
        obtain ⟨z0, q0, _, _⟩ := DataW.trod_int Try.underlying3 h0
        obtain ⟨z1, q1, _, _⟩ := DataW.trod_int Try.underlying3 h1
        obtain ⟨s2, q2, _, w2⟩ := DataW.trod_string Try.underlying9 h2
        have h3' : DataW.trod enc Try.prog W 0 (fun _ => true) true k 34 [v3] = some y3 := h3
        obtain ⟨A', n', c', xs, q3, hs, hw⟩ := ints_of h3'
        have r0 : v0 = .int .i64 z0 := (List.cons.inj (q0 : [v0] = [.int .i64 z0])).1
        have r1 : v1 = .int .i64 z1 := (List.cons.inj (q1 : [v1] = [.int .i64 z1])).1
        have r2 : v2 = .string s2 := (List.cons.inj (q2 : [v2] = [.string s2])).1
        subst r0 r1 r2 q3
        exact ⟨(z0, z1, s2, xs), a, A', n', c', rfl, e0, e1, e2, e3, hs, fun z hz => (hw z hz).2, by unfold maxLen at w2; show s2.size ≤ _; omega⟩
    exact ⟨fs, hl, by unfold maxLen at hm; omega, hfl, hfs⟩
end

end Go.Proofs.Ytpgoglkgaeccnaa
