/- Memory: a block of six cells; a byte of a row of the call's own is stored. -/
import Derived.Test.YtandmdmgleeogaaX9
import Derived.Test.YtandmdmgleeogaaPs
import Derived.Lib.SmallJoins
namespace Go.Proofs.Ytandmdmgleeogaa
open Go.RowKit
open Go.Lib (byteCells)

/-- Block b holds the six cells. -/
def Six (w : World) (b : Nat) (c0 c1 c2 c3 c4 c5 : Value) : Prop :=
  b < w.heap.size ∧ w.cell? ⟨b, 0, none⟩ = some c0 ∧ w.cell? ⟨b, 1, none⟩ = some c1 ∧ w.cell? ⟨b, 2, none⟩ = some c2 ∧ w.cell? ⟨b, 3, none⟩ = some c3 ∧ w.cell? ⟨b, 4, none⟩ = some c4 ∧ w.cell? ⟨b, 5, none⟩ = some c5
theorem six_new (w : World) (c0 c1 c2 c3 c4 c5 : Value) (T : TypeId) : Six (w.alloc (.cells #[c0, c1, c2, c3, c4, c5] T)) w.heap.size c0 c1 c2 c3 c4 c5 := by
  refine ⟨by simp, ?_, ?_, ?_, ?_, ?_, ?_⟩ <;> (rw [World.cell?_alloc_mark]; rfl)
theorem Six.keep {w w' : World} {b : Nat} {c0 c1 c2 c3 c4 c5 : Value} (h : Six w b c0 c1 c2 c3 c4 c5) (hb : Below w.heap.size w w') : Six w' b c0 c1 c2 c3 c4 c5 := by
  obtain ⟨h0, h1, h2, h3, h4, h5, h6⟩ := h
  have key : ∀ (k : Nat) (u : Value), w.cell? ⟨b, k, none⟩ = some u → w'.cell? ⟨b, k, none⟩ = some u := fun k u hu => (hb.cell (p := ⟨b, k, none⟩) h0).trans hu
  exact ⟨Nat.lt_of_lt_of_le h0 hb.size, key _ _ h1, key _ _ h2, key _ _ h3, key _ _ h4, key _ _ h5, key _ _ h6⟩

theorem own_set {w : World} {B e g n cap : Nat} {xs : List Value} (h : w.ownsRow B e 1 (.slice (some ⟨g, 0, none⟩) n cap) n xs) (j : Nat) (u : Value) : (w.setCell ⟨g, j, none⟩ u).ownsRow B e 1 (.slice (some ⟨g, 0, none⟩) n cap) n (xs.set j u) := by
  obtain ⟨h1, h2⟩ := h
  refine ⟨by rw [List.length_set]; exact h1, ?_⟩
  rcases h2 with ⟨h0, _⟩ | ⟨g', cap', cur, hv, hB, hh, hn, hm, hs, ht⟩
  · cases h0
  · simp only [Value.slice.injEq, Option.some.injEq, Addr.mk.injEq, and_true, true_and] at hv
    obtain ⟨rfl, rfl⟩ := hv
    refine Or.inr ⟨g, cap, cur.setIfInBounds j u, rfl, hB, Go.Joins.block_setCell hh u, hn, hm, by simpa using hs, ?_⟩
    rw [Array.toList_setIfInBounds, List.take_set, ht]
theorem bytes_set (l : List UInt8) (j : Nat) (z : UInt8) : (byteCells l).set j (.int .u8 (z.toNat : Int)) = byteCells (l.set j z) := by
  simp [byteCells, List.map_set]

/-- A row of bytes of the call's own, its block a letter. -/
def OwnB (w : World) (B g m cap : Nat) (l : List UInt8) : Prop := w.ownsRow B 5 1 (.slice (some ⟨g, 0, none⟩) m cap) m (byteCells l)
theorem Own.b {w : World} {B : Nat} {v : Value} {l : List UInt8} (h : Own w B 5 v (byteCells l)) {M : Nat} (hM : l.length = M) (h0 : 0 < M) : ∃ g cap, v = .slice (some ⟨g, 0, none⟩) M cap ∧ OwnB w B g M cap l ∧ B ≤ g ∧ g < w.heap.size := by
  subst hM
  unfold Own at h
  rw [bytes_size] at h
  obtain ⟨g, cap, rfl, h1, h2⟩ := World.ownsRow.form h h0
  exact ⟨g, cap, rfl, h, h1, h2⟩
theorem OwnB.sl {w : World} {B g m cap : Nat} {l : List UInt8} (h : OwnB w B g m cap l) : Sl w (some ⟨g, 0, none⟩) m cap (byteCells l) := by
  have hl : l.length = m := by have := h.1; rw [bytes_size, Nat.mul_one] at this; exact this
  have h2 : Own w B 5 (.slice (some ⟨g, 0, none⟩) m cap) (byteCells l) := by unfold Own; rw [bytes_size, hl]; exact h
  obtain ⟨A, c, e, hs⟩ := h2.sl
  cases e
  rw [bytes_size, hl] at hs
  exact hs
theorem OwnB.cell {w : World} {B g m cap : Nat} {l : List UInt8} (h : OwnB w B g m cap l) {j : Nat} {b : UInt8} (hb : l[j]? = some b) : w.cell? ⟨g, j, none⟩ = some (.int .u8 (b.toNat : Int)) := by
  have hl : l.length = m := by have := h.1; rw [bytes_size, Nat.mul_one] at this; exact this
  have hj := (List.getElem?_eq_some_iff.1 hb).1
  have := World.ownsRow.cellAt h j (by omega)
  rw [this]
  simp [byteCells, hb]
theorem OwnB.below {w w' : World} {B g m cap : Nat} {l : List UInt8} (h : OwnB w B g m cap l) (hb : Below w.heap.size w w') : OwnB w' B g m cap l := owns_below' h hb

end Go.Proofs.Ytandmdmgleeogaa
