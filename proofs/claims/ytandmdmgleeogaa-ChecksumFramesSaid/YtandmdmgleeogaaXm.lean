/- Memory: what an append to a row of the call's own leaves as it was, beside the row; no function of the program. -/
import Derived.Test.YtandmdmgleeogaaX3
import Derived.Maps.AppendAt
namespace Go.Proofs.Ytandmdmgleeogaa
open Go.RowKit
open Go.Lib (byteCells)

/-- From w to w', the row v became v': every other block is as it was, and is no block of v'. -/
def Far (w w' : World) (v v' : Value) : Prop := w.heap.size ≤ w'.heap.size ∧ ∀ g, g < w.heap.size → v.ownBlock ≠ some g → w'.heap[g]? = w.heap[g]? ∧ v'.ownBlock ≠ some g

/-- The slice reads as xs and lies in another block than the row v. -/
def Lies (w : World) (v : Value) (A : Option Addr) (n c : Nat) (xs : List Value) : Prop := Sl w A n c xs ∧ (0 < n → ∀ ad, A = some ad → v.ownBlock ≠ some ad.block)

theorem Far.refl (w : World) (v : Value) : Far w w v v := ⟨Nat.le_refl _, fun _ _ h => ⟨rfl, h⟩⟩
theorem Far.trans {a b c : World} {u v x : Value} (h : Far a b u v) (k : Far b c v x) : Far a c u x :=
  ⟨Nat.le_trans h.1 k.1, fun g hg hu => by
    obtain ⟨h1, h2⟩ := h.2 g hg hu
    obtain ⟨k1, k2⟩ := k.2 g (Nat.lt_of_lt_of_le hg h.1) h2
    exact ⟨k1.trans h1, k2⟩⟩
/-- A step that only makes new blocks, v staying. -/
theorem Far.of_below {w w' : World} {v : Value} (h : Below w.heap.size w w') : Far w w' v v := ⟨h.size, fun g hg hv => ⟨h.block g hg, hv⟩⟩

theorem Lies.far {w w' : World} {v v' : Value} {A : Option Addr} {n c : Nat} {xs : List Value} (h : Lies w v A n c xs) (hf : Far w w' v v') : Lies w' v' A n c xs := by
  obtain ⟨⟨h1, h2, h3, h4⟩, h5⟩ := h
  refine ⟨⟨h1, h2, h3, h4.1, fun k u hu => ?_⟩, fun hn ad e => ?_⟩
  · obtain ⟨ad, e, hb, hc⟩ := h4.2 k u hu
    have hn : 0 < n := by
      have := (List.getElem?_eq_some_iff.1 hu).1
      rw [h4.1] at this
      omega
    have hg := (hf.2 ad.block hb (h5 hn ad e)).1
    refine ⟨ad, e, Nat.lt_of_lt_of_le hb hf.1, ?_⟩
    rw [← hc]
    exact World.cell?_of_block (w := w) (by rw [Go.ChangeShapes.block_add]; exact hg)
  · obtain ⟨ad', u, e', hb, _⟩ := h4.at_ hn
    rw [e] at e'
    cases e'
    exact (hf.2 ad.block hb (h5 hn ad e)).2
theorem Lies.below {w w' : World} {v : Value} {A : Option Addr} {n c : Nat} {xs : List Value} (h : Lies w v A n c xs) (hb : Below w.heap.size w w') : Lies w' v A n c xs := h.far (Far.of_below hb)

/-- A slice in older memory than the row. -/
theorem Lies.old {w : World} {B : Nat} {e : TypeId} {v : Value} {ws : List Value} {A : Option Addr} {n c : Nat} {xs : List Value} (hown : Own w B e v ws) (hs : Sl w A n c xs) (hr : Reads w B A n xs) : Lies w v A n c xs :=
  ⟨hs, fun hn ad e' hv => by
    obtain ⟨ad', u, e'', hb, _⟩ := hr.at_ hn
    rw [e'] at e''
    cases e''
    have := (hown.lt _ hv).1
    omega⟩
/-- A slice in newer memory than the row. -/
theorem Lies.new {w w' : World} {B : Nat} {e : TypeId} {v : Value} {ws : List Value} {A : Option Addr} {n c : Nat} {xs : List Value} (hown : Own w B e v ws) (hs : Sl w' A n c xs) (hg : ∀ ad, A = some ad → w.heap.size ≤ ad.block) : Lies w' v A n c xs :=
  ⟨hs, fun hn ad e' hv => by
    have := (hown.lt _ hv).2
    have := hg ad e'
    omega⟩
/-- Another row stays. -/
theorem Own.far {w w' : World} {B : Nat} {e : TypeId} {u v v' : Value} {xs : List Value} (h : Own w B e u xs) (hf : Far w w' v v') (hne : ∀ g, u.ownBlock = some g → v.ownBlock ≠ some g) : Own w' B e u xs ∧ ∀ g, u.ownBlock = some g → v'.ownBlock ≠ some g := by
  refine ⟨⟨h.1, ?_⟩, fun g hg => (hf.2 g (h.lt g hg).2 (hne g hg)).2⟩
  rcases h.2 with h2 | ⟨g, cap, cur, hv, hB, hh, hr⟩
  · exact Or.inl h2
  · have hg : u.ownBlock = some g := by rw [hv]; rfl
    exact Or.inr ⟨g, cap, cur, hv, hB, (hf.2 g (h.lt g hg).2 (hne g hg)).1.trans hh, hr⟩

section
variable {P : Program} {ops : Array Oper} {rest : List Oper} {o : Oper} {a : Act} {Q : Exit → Act → World → Prop}
/-- b = append(b, c), b of the call's own -/
theorem wp_push_far (hgd : o.guard = none) (s x : Operand) (t : TypeId) (ho : o.op = .call { callee := .builtin .append, args := #[s, x], argTypes := #[t, t] })
    (e : TypeId) (i : TypeInfo) (z : Value) (bytes : Nat) (ht : P.underlying t = some (.slice e)) (hi : P.info? e = some i) (hz : i.zero = some z) (hsize : i.size = 1) (hby : i.bytes = bytes) (hzs : z.cells.size = 1)
    (B : Nat) (v : Value) (xs : List Value) (hs : a.eval s = v) (w0 : World) (c : Value) (hc : c.oneCell' = true) (hown : Own w0 B e v xs) (hB : B ≤ w0.heap.size) (H : Nat) (hH : H = w0.heap.size)
    (hx : a.eval x = .slice (some ⟨H, 0, none⟩) 1 1) (hlen : (xs.length + 1) * bytes ≤ 140737488355328) (h63 : xs.length + 1 ≤ maxLen) (T : TypeId)
    (h : ∀ v' w', Own w' B e v' (xs ++ [c]) → Below B w0 w' → Far w0 w' v v' → wpList P ops Q rest (a.put o.dst v') w') : wpList P ops Q (o :: rest) a (w0.alloc (.cells #[c] T)) := by
  subst hH
  have hsz : w0.heap.size < (w0.alloc (.cells #[c] T)).heap.size := by simp
  have hone : ∀ u ∈ [c], u.oneCell' = true := by intro u hu; simp at hu; subst hu; exact hc
  have hl1 : (xs ++ [c]).length = xs.length + 1 := by simp
  refine wpList_append_own_at _ hgd s x t ho B e i z 1 bytes ht hi hz hsize hby hzs (by decide) v xs.length xs hs (hown.alloc _) ⟨w0.heap.size, 0, none⟩ 1 1 [c] hx rfl (c1_one _ _ _) hone h63 hlen (by omega) ?_
  intro v' w' hown' hg _ hat
  refine h v' w' (by unfold Own; rw [hl1]; exact hown') ?_ ⟨by have := hg.size; omega, fun g hlt hne => ⟨?_, ?_⟩⟩
  · exact ((Below.refl B w0).alloc hB _).grown hg (by omega) fun k hk => (hown.lt k hk).1
  · exact (hg.block g (by omega) (fun e => hne e.symm)).trans (((Below.refl w0.heap.size w0).alloc (Nat.le_refl _) _).block g hlt)
  · rcases hat with hat | hat
    · rw [hat]; exact hne
    · rw [hat]; intro e; injection e with e; omega

/-- b = append(b, c...), b of the call's own -/
theorem wp_join_far (hgd : o.guard = none) (s x : Operand) (t : TypeId) (ho : o.op = .call { callee := .builtin .append, args := #[s, x], argTypes := #[t, t] })
    (e : TypeId) (i : TypeInfo) (z : Value) (bytes : Nat) (ht : P.underlying t = some (.slice e)) (hi : P.info? e = some i) (hz : i.zero = some z) (hsize : i.size = 1) (hby : i.bytes = bytes) (hzs : z.cells.size = 1)
    (B : Nat) (v : Value) (xs : List Value) (hs : a.eval s = v) (w : World) (hown : Own w B e v xs) (hB : B ≤ w.heap.size)
    (A : Option Addr) (n c : Nat) (ys : List Value) (hx : a.eval x = .slice A n c) (hsl : Sl w A n c ys) (hone : ∀ u ∈ ys, u.oneCell' = true) (hlen : (xs.length + n) * bytes ≤ 140737488355328) (h63 : xs.length + n ≤ maxLen)
    (h : ∀ v' w', Own w' B e v' (xs ++ ys) → Below B w w' → Far w w' v v' → wpList P ops Q rest (a.put o.dst v') w') : wpList P ops Q (o :: rest) a w := by
  obtain ⟨hnc, hc, hA, hr⟩ := hsl
  have hyl : ys.length = n := hr.1
  have hl1 : (xs ++ ys).length = xs.length + n := by rw [List.length_append, hyl]
  cases A with
  | none =>
    have hc0 := hA rfl
    have hn0 : n = 0 := by omega
    subst hc0 hn0
    obtain rfl : ys = [] := List.eq_nil_of_length_eq_zero hyl
    refine wpList_append_own_none hgd s x t ho B e i 1 ht hi v xs.length xs hs hown hx ?_
    exact h v w (by rw [List.append_nil]; exact hown) (Below.refl _ _) (Far.refl _ _)
  | some ad =>
    refine wpList_append_own_at _ hgd s x t ho B e i z 1 bytes ht hi hz hsize hby hzs (by decide) v xs.length xs hs hown ad n c ys hx (by omega) (fun j u hu => ?_) hone h63 hlen hB ?_
    · obtain ⟨ad', e', _, h3⟩ := hr.2 j u hu
      cases e'
      exact h3
    · intro v' w' hown' hg _ hat
      refine h v' w' (by unfold Own; rw [hl1]; exact hown') ?_ ⟨hg.size, fun g hlt hne => ⟨hg.block g hlt (fun e => hne e.symm), ?_⟩⟩
      · exact (Below.refl B w).grown hg hB fun k hk => (hown.lt k hk).1
      · rcases hat with hat | hat
        · rw [hat]; exact hne
        · rw [hat]; intro e; injection e with e; omega
end

end Go.Proofs.Ytandmdmgleeogaa
