/- Slices of grams: rows of the call's own and slices that are read; no function of a program. -/
import Derived.Test.YtdneoeiggebijaaL1
namespace Go.Proofs.Ytdneoeiggebijaa
open Go.RowKit
open Go.ChangeShapes (block_add)

/-- Gram i of the slice whose first cell is at o of block g. -/
def GrAt (W : World) (g o i : Nat) (x : Int × List Int) : Prop :=
  ∃ A n c, W.cell? ⟨g, o + i * 2, none⟩ = some (.int .i64 x.1) ∧ W.cell? ⟨g, o + i * 2 + 1, none⟩ = some (.slice A n c) ∧ Sl W A n c (numCells x.2)
/-- The slice at A of n grams is gs. -/
def GrS (W : World) (A : Option Addr) (n c : Nat) (gs : List (Int × List Int)) : Prop :=
  n ≤ c ∧ c ≤ 9223372036854775807 ∧ gs.length = n ∧ ∀ i x, gs[i]? = some x → ∃ g o, A = some ⟨g, o, none⟩ ∧ GrAt W g o i x
theorem GrS.below {W W' : World} {A : Option Addr} {n c : Nat} {gs : List (Int × List Int)} (h : GrS W A n c gs) (hb : Below W.heap.size W W') : GrS W' A n c gs := by
  refine ⟨h.1, h.2.1, h.2.2.1, fun i x hx => ?_⟩
  obtain ⟨g, o, hA, A', n', c', h0, h1, hs⟩ := h.2.2.2 i x hx
  have key : ∀ (k : Nat) (u : Value), W.cell? ⟨g, k, none⟩ = some u → W'.cell? ⟨g, k, none⟩ = some u := fun k u hu => (hb.cell (World.block_lt_of_cell? _ _ hu)).trans hu
  exact ⟨g, o, hA, A', n', c', key _ _ h0, key _ _ h1, hs.below hb⟩
theorem GrS.at_ {W : World} {A : Option Addr} {n c : Nat} {gs : List (Int × List Int)} (h : GrS W A n c gs) {k : Nat} (hk : k < n) :
    ∃ g o z l A' n' c', A = some ⟨g, o, none⟩ ∧ gs[k]? = some (z, l) ∧ W.cell? ⟨g, o + k * 2, none⟩ = some (.int .i64 z) ∧ W.cell? ⟨g, o + k * 2 + 1, none⟩ = some (.slice A' n' c') ∧ Sl W A' n' c' (numCells l) := by
  have hkl : k < gs.length := by rw [h.2.2.1]; exact hk
  obtain ⟨g, o, hA, A', n', c', h0, h1, hs⟩ := h.2.2.2 k _ (List.getElem?_eq_getElem hkl)
  exact ⟨g, o, gs[k].1, gs[k].2, A', n', c', hA, List.getElem?_eq_getElem hkl, h0, h1, hs⟩
/-- Grams, new or old. -/
def GotG (w : World) (gs : List (Int × List Int)) (e : Ending) (w' : World) : Prop := ∃ A n c, e = .returned (.slice A n c) ∧ GrS w' A n c gs ∧ Below w.heap.size w w'

/-- v is a row of the call's own of the grams gs. -/
def OwnG (W : World) (B : Nat) (e : TypeId) (v : Value) (gs : List (Int × List Int)) : Prop :=
  ∃ cs : List Value, W.ownsRow B e 2 v gs.length cs ∧ ∀ i x, gs[i]? = some x → ∃ A n c, cs[i * 2]? = some (.int .i64 x.1) ∧ cs[i * 2 + 1]? = some (.slice A n c) ∧ Lies W v A n c (numCells x.2)
theorem OwnG.nil (W : World) (B : Nat) (e : TypeId) : OwnG W B e (.slice none 0 0) [] := ⟨[], World.ownsRow_nil _ _ _ _, fun i x h => by simp at h⟩
theorem OwnG.below {W W' : World} {B : Nat} {e : TypeId} {v : Value} {gs : List (Int × List Int)} (h : OwnG W B e v gs) (hb : Below W.heap.size W W') : OwnG W' B e v gs := by
  obtain ⟨cs, h1, h2⟩ := h
  refine ⟨cs, owns_below' h1 hb, fun i x hx => ?_⟩
  obtain ⟨A, n, c, e0, e1, hl⟩ := h2 i x hx
  exact ⟨A, n, c, e0, e1, hl.below hb⟩
theorem OwnG.s {W : World} {B : Nat} {e : TypeId} {v : Value} {gs : List (Int × List Int)} (h : OwnG W B e v gs) : ∃ A n c, v = .slice A n c ∧ GrS W A n c gs := by
  obtain ⟨cs, h1, h2⟩ := h
  have h1' := h1
  rcases h1'.2 with ⟨rfl, h0⟩ | ⟨g, cap, cur, rfl, hb, hg, hc, hm, r⟩
  · obtain rfl : gs = [] := List.eq_nil_of_length_eq_zero h0
    exact ⟨none, 0, 0, rfl, Nat.le_refl _, by omega, rfl, fun i x hx => by simp at hx⟩
  · refine ⟨_, gs.length, cap, rfl, hc, by unfold maxLen at hm; omega, rfl, fun i x hx => ?_⟩
    have hi := (List.getElem?_eq_some_iff.1 hx).1
    obtain ⟨A, n, c, e0, e1, hl⟩ := h2 i x hx
    refine ⟨g, 0, rfl, A, n, c, ?_, ?_, hl.1⟩
    · rw [Nat.zero_add, h1.cellAt (i * 2) (by omega)]; exact e0
    · rw [Nat.zero_add, h1.cellAt (i * 2 + 1) (by omega)]; exact e1

section
variable {P : Program} {ops : Array Oper} {rest : List Oper} {o : Oper} {a : Act} {Q : Exit → Act → World → Prop}
/-- l = append(l, g), l a row of the call's own -/
theorem wp_push_gram (hgd : o.guard = none) (s x : Operand) (t : TypeId) (ho : o.op = .call { callee := .builtin .append, args := #[s, x], argTypes := #[t, t] })
    (e : TypeId) (i : TypeInfo) (z : Value) (bytes : Nat) (ht : P.underlying t = some (.slice e)) (hi : P.info? e = some i) (hz : i.zero = some z) (hsize : i.size = 2) (hby : i.bytes = bytes) (hzs : z.cells.size = 2)
    (B : Nat) (v : Value) (gs : List (Int × List Int)) (hs : a.eval s = v) (w0 : World) (zc : Int) (A : Option Addr) (n c : Nat) (l : List Int) (hown : OwnG w0 B e v gs) (hB : B ≤ w0.heap.size) (H : Nat) (hH : H = w0.heap.size)
    (hx : a.eval x = .slice (some ⟨H, 0, none⟩) 1 1) (hsl : Lies w0 v A n c (numCells l)) (hlen : (gs.length + 1) * bytes ≤ 140737488355328) (h63 : gs.length + 1 ≤ maxLen) (T : TypeId)
    (h : ∀ v' w', OwnG w' B e v' (gs ++ [(zc, l)]) → Below B w0 w' → wpList P ops Q rest (a.put o.dst v') w') : wpList P ops Q (o :: rest) a (w0.alloc (.cells #[.int .i64 zc, .slice A n c] T)) := by
  subst hH
  obtain ⟨cs, hown, hl⟩ := hown
  have hone : ∀ u ∈ [Value.int .i64 zc, .slice A n c], u.oneCell' = true := by
    intro u hu
    simp at hu
    rcases hu with rfl | rfl <;> rfl
  refine wpList_append_own_at _ hgd s x t ho B e i z 2 bytes ht hi hz hsize hby hzs (by decide) v gs.length cs hs (hown.alloc _) ⟨w0.heap.size, 0, none⟩ 1 1 [.int .i64 zc, .slice A n c] hx rfl (c1_two _ _ _ _) hone h63 hlen (by simp; omega) ?_
  intro v' w' hown' hg _ hat
  have hF : Far w0 w' v v' := by
    refine ⟨by have := hg.size; simp at this; omega, fun g hlt hne => ⟨?_, ?_⟩⟩
    · exact (hg.block g (by simp; omega) (fun e => hne e.symm)).trans (((Below.refl w0.heap.size w0).alloc (Nat.le_refl _) _).block g hlt)
    · rcases hat with hat | hat
      · rw [hat]; exact hne
      · rw [hat]; intro e; injection e with e; simp at e; omega
  refine h v' w' ⟨cs ++ [.int .i64 zc, .slice A n c], by rw [List.length_append]; exact hown', fun j x hx => ?_⟩ ?_
  · have hcl : cs.length = gs.length * 2 := hown.1
    by_cases hj : j < gs.length
    · rw [List.getElem?_append_left hj] at hx
      obtain ⟨A', n', c', e0, e1, hl'⟩ := hl j x hx
      exact ⟨A', n', c', by rw [List.getElem?_append_left (by omega)]; exact e0, by rw [List.getElem?_append_left (by omega)]; exact e1, hl'.far hF⟩
    · rw [List.getElem?_append_right (by omega)] at hx
      have hj' : j = gs.length := by
        have := (List.getElem?_eq_some_iff.1 hx).1
        simp at this
        omega
      subst hj'
      rw [Nat.sub_self] at hx
      cases hx
      refine ⟨A, n, c, ?_, ?_, hsl.far hF⟩
      · rw [List.getElem?_append_right (by omega), show gs.length * 2 - cs.length = 0 by omega]; rfl
      · rw [List.getElem?_append_right (by omega), show gs.length * 2 + 1 - cs.length = 1 by omega]; rfl
  · exact ((Below.refl B w0).alloc hB _).grown hg (by simp; omega) fun k hk => (hown.lt k hk).1
end

theorem TwoF.at_ {w w' : World} {b B : Nat} {x y : Value} (h : TwoF w b x y) (hb : Below B w w') (hlt : b < B) : TwoF w' b x y :=
  ⟨⟨Nat.lt_of_lt_of_le h.1.1 hb.size, (hb.cell (p := ⟨b, 0, none⟩) hlt).trans h.1.2.1, (hb.cell (p := ⟨b, 1, none⟩) hlt).trans h.1.2.2⟩, (hb.frozen (p := ⟨b, 0, none⟩) hlt).trans h.2.1, (hb.frozen (p := ⟨b, 1, none⟩) hlt).trans h.2.2⟩
theorem TwoF.put1 {w : World} {b : Nat} {x y : Value} (h : TwoF w b x y) (v : Value) : TwoF (w.setCell ⟨b, 1, none⟩ v) b x v := by
  obtain ⟨⟨h0, h1, h2⟩, f0, f1⟩ := h
  refine ⟨⟨by simpa [World.setCell] using h0, ?_, ?_⟩, by simpa using f0, by simpa using f1⟩
  · rw [World.cell?_setCell_other _ _ _ _ (fun e => absurd (congrArg Addr.off e) (by simp))]; exact h1
  · exact World.cell?_setCell_same _ _ _ h2
theorem Own.set_other {w : World} {B b : Nat} {e : TypeId} {v : Value} {xs : List Value} (h : Own w B e v xs) (hb : b < B) (o : Nat) (u : Value) : Own (w.setCell ⟨b, o, none⟩ u) B e v xs :=
  ownsRow_setCell_other h (fun e => by have := (h.lt b e).1; omega) u

theorem Own.i {w : World} {B : Nat} {v : Value} {l : List Int} (h : Own w B 3 v (numCells l)) : ∃ A m c, v = .slice A m c ∧ m = l.length ∧ Sl w A m c (numCells l) ∧ ∀ ad, A = some ad → B ≤ ad.block := by
  obtain ⟨A, m, c, rfl, hm, hs⟩ := h.slI
  refine ⟨A, m, c, rfl, hm, hs, fun ad e => ?_⟩
  subst e
  exact (h.lt ad.block rfl).1

end Go.Proofs.Ytdneoeiggebijaa
