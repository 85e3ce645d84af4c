/- Memory: rows of slices of bytes; the plain All, step by step. -/
import Derived.Test.YtandmdmgleeogaaX9
namespace Go.Proofs.Ytandmdmgleeogaa
open Go.RowKit
open Go.Lib (byteCells)

def slv (p : Option Addr × Nat × Nat) : Value := .slice p.1 p.2.1 p.2.2
/-- Row v has the slices hs, which read as ls and lie in other blocks. -/
def Many (w : World) (v : Value) (hs : List (Option Addr × Nat × Nat)) (ls : List (List UInt8)) : Prop :=
  hs.length = ls.length ∧ ∀ (k : Nat) (p : Option Addr × Nat × Nat) (l : List UInt8), hs[k]? = some p → ls[k]? = some l → Lies w v p.1 p.2.1 p.2.2 (byteCells l)
def RowsL (w : World) (B : Nat) (v : Value) (ls : List (List UInt8)) : Prop := ∃ hs, Own w B 23 v (hs.map slv) ∧ Many w v hs ls

theorem Many.far {w w' : World} {v v' : Value} {hs : List (Option Addr × Nat × Nat)} {ls : List (List UInt8)} (h : Many w v hs ls) (hf : Far w w' v v') : Many w' v' hs ls :=
  ⟨h.1, fun k p l h1 h2 => (h.2 k p l h1 h2).far hf⟩
theorem RowsL.nil (w : World) (B : Nat) : RowsL w B (.slice none 0 0) [] := ⟨[], World.ownsRow_nil _ _ _ _, rfl, fun k p l h => by simp at h⟩
theorem RowsL.below {w w' : World} {B : Nat} {v : Value} {ls : List (List UInt8)} (h : RowsL w B v ls) (hb : Below w.heap.size w w') : RowsL w' B v ls := by
  obtain ⟨hs, h1, h2⟩ := h
  exact ⟨hs, h1.below hb, h2.far (Far.of_below hb)⟩
theorem many_snoc {w : World} {v : Value} {hs : List (Option Addr × Nat × Nat)} {ls : List (List UInt8)} (h : Many w v hs ls) {A : Option Addr} {n c : Nat} {l : List UInt8} (hl : Lies w v A n c (byteCells l)) : Many w v (hs ++ [(A, n, c)]) (ls ++ [l]) := by
  refine ⟨by simp [h.1], fun k p l' h1 h2 => ?_⟩
  by_cases hk : k < hs.length
  · rw [List.getElem?_append_left hk] at h1
    rw [List.getElem?_append_left (by rw [← h.1]; exact hk)] at h2
    exact h.2 k p l' h1 h2
  · rw [List.getElem?_append_right (by omega)] at h1
    rw [List.getElem?_append_right (by rw [← h.1]; omega)] at h2
    have hk0 : k - hs.length = 0 := by
      have := (List.getElem?_eq_some_iff.1 h1).1
      simp at this
      omega
    rw [hk0] at h1
    rw [← h.1, hk0] at h2
    simp at h1 h2
    subst h1 h2
    exact hl
theorem info23 : (Try.prog.info? 23).map (fun i => (i.zero, i.size, i.bytes)) = some (some (.slice none 0 0), 1, 24) := by kernel_rfl

/-- What a row of slices looks like. -/
theorem RowsL.sl {w : World} {B : Nat} {v : Value} {ls : List (List UInt8)} (h : RowsL w B v ls) : ∃ A m c hs, v = .slice A m c ∧ m = ls.length ∧ Sl w A m c (hs.map slv) ∧ Many w v hs ls := by
  obtain ⟨hs, h1, h2⟩ := h
  obtain ⟨A, c, rfl, hsl⟩ := h1.sl
  exact ⟨A, _, c, hs, rfl, by rw [List.length_map, h2.1], hsl, h2⟩

/-! ### All, step by step -/
theorem open_next (l : List UInt8) (k : Nat) (most : Int) (r : List UInt8) (nx : Nat) (h : openP l (k : Int) most = (r, nx, 0)) : k < nx ∧ nx ≤ l.length := by
  obtain ⟨⟨x, a, er⟩, hg⟩ : ∃ g, getP l (k : Int) = g := ⟨_, rfl⟩
  by_cases her : er = 0
  · subst her
    obtain ⟨h1, h2, h3, h4⟩ := getP_next l _ x a hg
    by_cases hm : most < (x : Int)
    · rw [open_long l _ most x a hg hm] at h; simp at h
    · by_cases hs : l.length < a + x + 4
      · rw [open_short l _ most x a hg hm hs] at h; simp at h
      · rw [open_sum l k most x a hg hm hs _ rfl] at h
        split at h
        · simp only [Prod.mk.injEq] at h; omega
        · simp at h
  · rw [open_bad l _ most x a er hg her] at h
    simp only [Prod.mk.injEq] at h
    exact absurd h.2.2 her
theorem all_stop (l : List UInt8) (most : Int) (f : Nat) (xs : List (List UInt8)) (k : Nat) (r : List UInt8) (nx er : Nat) (h : openP l (k : Int) most = (r, nx, er)) (he : er ≠ 0) : allP l most (f + 1) xs k = (xs, k) := by
  unfold allP
  rw [h]
  by_cases hk : l.length ≤ k
  · rw [if_pos hk]
  · rw [if_neg hk, if_pos he]
theorem all_step (l : List UInt8) (most : Int) (f : Nat) (xs : List (List UInt8)) (k : Nat) (r : List UInt8) (nx : Nat) (h : openP l (k : Int) most = (r, nx, 0)) : allP l most (f + 1) xs k = allP l most f (xs ++ [r]) nx := by
  have hn := open_next l k most r nx h
  conv => lhs; unfold allP
  rw [h, if_neg (by omega), if_neg (by simp)]
theorem all_end (l : List UInt8) (most : Int) (f : Nat) (xs : List (List UInt8)) (k : Nat) (h : l.length ≤ k) : allP l most (f + 1) xs k = (xs, k) := by
  unfold allP
  rw [if_pos h]

end Go.Proofs.Ytandmdmgleeogaa
