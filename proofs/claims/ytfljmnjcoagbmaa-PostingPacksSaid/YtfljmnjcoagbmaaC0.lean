/- Two rows of bytes of the call's own, each in a box: what appends and stores leave; no program. -/
import Derived.Test.YtfljmnjcoagbmaaC1
import Derived.Test.YtfljmnjcoagbmaaRd
import Derived.Deep.AppendLies
import Derived.Maps.OwnIn
namespace Go.Proofs.Ytfljmnjcoagbmaa
open Go.RowKit
open Go.Lib (byteCells)

theorem own_apart {W : World} {B e : Nat} {v : Value} {xs : List Value} (h : Own W B e v xs) {k : Nat} {cs : Array Value} {t : TypeId} {fr : Nat × Nat} (hk : W.heap[k]? = some (.cells cs t fr)) (ht : t ≠ e) : v.ownBlock ≠ some k := by
  intro hv
  rcases h.2 with ⟨rfl, _⟩ | ⟨g, cap, cur, rfl, hg, hh, r⟩
  · cases hv
  · have hgk : g = k := Option.some.inj hv
    subst hgk
    rw [hk] at hh
    cases hh
    exact ht rfl
theorem own_cells {W : World} {B e : Nat} {v : Value} {xs : List Value} (h : Own W B e v xs) {k : Nat} {o : Obj} (hv : v.ownBlock = some k) (hk : W.heap[k]? = some o) : o.isCells = true := by
  rcases h.2 with ⟨rfl, _⟩ | ⟨g, cap, cur, rfl, hg, hh, r⟩
  · cases hv
  · have hgk : g = k := Option.some.inj hv
    subst hgk
    rw [hk] at hh
    cases hh
    rfl
theorem set_same {W : World} {k : Nat} {x v : Value} {e : TypeId} {fr : Nat × Nat} (h : W.heap[k]? = some (.cells #[x] e fr)) : (W.setCell ⟨k, 0, none⟩ v).heap[k]? = some (.cells #[v] e fr) := by
  rw [Go.Sort.setCell_eq]
  simp [Go.Sort.mapBlock, Array.getElem?_modify, h, Go.Sort.onCells]
theorem set_other {W : World} {k j : Nat} {v : Value} (h : j ≠ k) : (W.setCell ⟨k, 0, none⟩ v).heap[j]? = W.heap[j]? := by
  rw [Go.Sort.setCell_eq]
  simp [Go.Sort.mapBlock, Array.getElem?_modify, show k ≠ j from fun e => h e.symm]
theorem set_size {W : World} {k : Nat} {v : Value} : (W.setCell ⟨k, 0, none⟩ v).heap.size = W.heap.size := by
  rw [Go.Sort.setCell_eq]
  simp [Go.Sort.mapBlock]
theorem own_set0 {W : World} {B e : Nat} {u v : Value} {xs : List Value} {k : Nat} (h : Own W B e u xs) (hk : u.ownBlock ≠ some k) : Own (W.setCell ⟨k, 0, none⟩ v) B e u xs := by
  obtain ⟨h1, h2⟩ := h
  refine ⟨h1, ?_⟩
  rcases h2 with h2 | ⟨g, cap, cur, rfl, hg, hh, r⟩
  · exact Or.inl h2
  · exact Or.inr ⟨g, cap, cur, rfl, hg, (set_other fun e => hk (congrArg some e)).trans hh, r⟩
theorem below_set {B : Nat} {w W : World} {k : Nat} {v : Value} (h : Below B w W) (hk : B ≤ k) : Below B w (W.setCell ⟨k, 0, none⟩ v) := h.setCell (p := ⟨k, 0, none⟩) hk v

/-- The head v in box b1, the bodies u in box b2, the iterator's boxes b3 and b4. -/
structure PackV (w : World) (b1 b2 b3 b4 : Nat) (v u : Value) (h b : List UInt8) (W : World) : Prop where
  h1 : W.heap[b1]? = some (.cells #[v] 30 (0, 0))
  h2 : W.heap[b2]? = some (.cells #[u] 30 (0, 0))
  h3 : ∃ s, W.heap[b3]? = some (.cells #[s] 22 (0, 0))
  h4 : ∃ s, W.heap[b4]? = some (.cells #[s] 3 (0, 0))
  o1 : Own W w.heap.size 5 v (byteCells h)
  o2 : Own W w.heap.size 5 u (byteCells b)
  ap : ∀ g, u.ownBlock = some g → v.ownBlock ≠ some g
  bel : Below w.heap.size w W
  lo : w.heap.size ≤ b1 ∧ b1 < b2 ∧ b2 < b3 ∧ b3 < b4

section
variable {w W W' : World} {b1 b2 b3 b4 : Nat} {v u v' : Value} {h b x : List UInt8}
theorem PackV.keep (P : PackV w b1 b2 b3 b4 v u h b W) (hb : Below W.heap.size W W') : PackV w b1 b2 b3 b4 v u h b W' := by
  obtain ⟨s3, e3⟩ := P.h3
  obtain ⟨s4, e4⟩ := P.h4
  exact ⟨(hb.block _ (lt_of_block P.h1)).trans P.h1, (hb.block _ (lt_of_block P.h2)).trans P.h2, ⟨s3, (hb.block _ (lt_of_block e3)).trans e3⟩, ⟨s4, (hb.block _ (lt_of_block e4)).trans e4⟩,
    P.o1.below hb, P.o2.below hb, P.ap, P.bel.trans (hb.mono P.bel.size), P.lo⟩
theorem PackV.head (P : PackV w b1 b2 b3 b4 v u h b W) (ho : Own W' w.heap.size 5 v' (byteCells (h ++ x))) (hb : Below w.heap.size W W') (hf : Far W W' v v') : PackV w b1 b2 b3 b4 v' u (h ++ x) b (W'.setCell ⟨b1, 0, none⟩ v') := by
  obtain ⟨s3, e3⟩ := P.h3
  obtain ⟨s4, e4⟩ := P.h4
  have lo := P.lo
  have far : ∀ {k : Nat} {cs : Array Value} {t : TypeId} {fr : Nat × Nat}, W.heap[k]? = some (.cells cs t fr) → t ≠ 5 → W'.heap[k]? = some (.cells cs t fr) := fun hk ht => ((hf.2 _ (lt_of_block hk) (own_apart P.o1 hk ht)).1).trans hk
  have g1 := far P.h1 (by decide)
  have g2 := far P.h2 (by decide)
  have g3 := far e3 (by decide)
  have g4 := far e4 (by decide)
  obtain ⟨ou, ap⟩ := P.o2.far hf P.ap
  exact ⟨set_same g1, (set_other (by omega)).trans g2, ⟨s3, (set_other (by omega)).trans g3⟩, ⟨s4, (set_other (by omega)).trans g4⟩,
    own_set0 ho (own_apart ho g1 (by decide)), own_set0 ou (own_apart ou g1 (by decide)), ap, below_set (P.bel.trans hb) lo.1, lo⟩
theorem PackV.body (P : PackV w b1 b2 b3 b4 v u h b W) (ho : Own W' w.heap.size 5 v' (byteCells (b ++ x))) (hb : Below w.heap.size W W') (hf : Far W W' u v') : PackV w b1 b2 b3 b4 v v' h (b ++ x) (W'.setCell ⟨b2, 0, none⟩ v') := by
  obtain ⟨s3, e3⟩ := P.h3
  obtain ⟨s4, e4⟩ := P.h4
  have lo := P.lo
  have far : ∀ {k : Nat} {cs : Array Value} {t : TypeId} {fr : Nat × Nat}, W.heap[k]? = some (.cells cs t fr) → t ≠ 5 → W'.heap[k]? = some (.cells cs t fr) := fun hk ht => ((hf.2 _ (lt_of_block hk) (own_apart P.o2 hk ht)).1).trans hk
  have g1 := far P.h1 (by decide)
  have g2 := far P.h2 (by decide)
  have g3 := far e3 (by decide)
  have g4 := far e4 (by decide)
  obtain ⟨ov, ap⟩ := P.o1.far hf (fun g hg hu => P.ap g hu hg)
  exact ⟨(set_other (by omega)).trans g1, set_same g2, ⟨s3, (set_other (by omega)).trans g3⟩, ⟨s4, (set_other (by omega)).trans g4⟩,
    own_set0 ov (own_apart ov g2 (by decide)), own_set0 ho (own_apart ho g2 (by decide)), fun g hg hv => ap g hv hg, below_set (P.bel.trans hb) (by omega), lo⟩
theorem PackV.turned {row : Option Nat} (P : PackV w b1 b2 b3 b4 v u h b W) (hg : W.grownBy W' row) (hr : ∀ r, row = some r → b4 < r ∧ ∃ o : Obj, W.heap[r]? = some o ∧ o.isCells = false) : PackV w b1 b2 b3 b4 v u h b W' := by
  obtain ⟨s3, e3⟩ := P.h3
  obtain ⟨s4, e4⟩ := P.h4
  have lo := P.lo
  have far : ∀ {k : Nat} {cs : Array Value} {t : TypeId} {fr : Nat × Nat}, W.heap[k]? = some (.cells cs t fr) → W'.heap[k]? = some (.cells cs t fr) := fun {k} _ _ _ hk => (hg.block _ (lt_of_block hk) (fun e => by
    obtain ⟨_, o, ho, hc⟩ := hr k e.symm
    rw [hk] at ho
    cases ho
    cases hc)).trans hk
  have own : ∀ {v : Value} {xs : List Value}, Own W w.heap.size 5 v xs → Own W' w.heap.size 5 v xs := fun hv => by
    obtain ⟨q1, q2⟩ := hv
    refine ⟨q1, ?_⟩
    rcases q2 with q2 | ⟨g, cap, cur, rfl, hg', hh, r⟩
    · exact Or.inl q2
    · exact Or.inr ⟨g, cap, cur, rfl, hg', far hh, r⟩
  exact ⟨far P.h1, far P.h2, ⟨s3, far e3⟩, ⟨s4, far e4⟩, own P.o1, own P.o2, P.ap, P.bel.grown hg P.bel.size (fun r e => by have := (hr r e).1; omega), lo⟩

/-- From W to W': what is no cells, and the iterator's boxes, are as they were. -/
def St (b3 b4 : Nat) (W W' : World) : Prop := KeepsOthers W W' ∧ KpB b3 b4 W W'
theorem St.refl (W : World) : St b3 b4 W W := ⟨KeepsOthers.refl W, KpB.refl W⟩
theorem St.trans {A B C : World} (p : St b3 b4 A B) (q : St b3 b4 B C) : St b3 b4 A C := ⟨p.1.trans q.1, p.2.trans q.2⟩
theorem PackV.stBelow (P : PackV w b1 b2 b3 b4 v u h b W) (hb : Below W.heap.size W W') : St b3 b4 W W' := by
  obtain ⟨s3, e3⟩ := P.h3
  obtain ⟨s4, e4⟩ := P.h4
  exact ⟨⟨hb.size, fun k o hk _ => (hb.block k (lt_of_block hk)).trans hk⟩, hb.block _ (lt_of_block e3), hb.block _ (lt_of_block e4)⟩
theorem PackV.stHead (P : PackV w b1 b2 b3 b4 v u h b W) (hf : Far W W' v v') : St b3 b4 W (W'.setCell ⟨b1, 0, none⟩ v') := by
  obtain ⟨s3, e3⟩ := P.h3
  obtain ⟨s4, e4⟩ := P.h4
  have lo := P.lo
  refine ⟨KeepsOthers.trans ⟨hf.1, fun k o hk ho => ?_⟩ (KeepsOthers.setCell _ _ _), (set_other (by omega)).trans (hf.2 _ (lt_of_block e3) (own_apart P.o1 e3 (by decide))).1, (set_other (by omega)).trans (hf.2 _ (lt_of_block e4) (own_apart P.o1 e4 (by decide))).1⟩
  exact (hf.2 k (lt_of_block hk) (fun e => by have := own_cells P.o1 e hk; rw [ho] at this; cases this)).1.trans hk
theorem PackV.stBody (P : PackV w b1 b2 b3 b4 v u h b W) (hf : Far W W' u v') : St b3 b4 W (W'.setCell ⟨b2, 0, none⟩ v') := by
  obtain ⟨s3, e3⟩ := P.h3
  obtain ⟨s4, e4⟩ := P.h4
  have lo := P.lo
  refine ⟨KeepsOthers.trans ⟨hf.1, fun k o hk ho => ?_⟩ (KeepsOthers.setCell _ _ _), (set_other (by omega)).trans (hf.2 _ (lt_of_block e3) (own_apart P.o2 e3 (by decide))).1, (set_other (by omega)).trans (hf.2 _ (lt_of_block e4) (own_apart P.o2 e4 (by decide))).1⟩
  exact (hf.2 k (lt_of_block hk) (fun e => by have := own_cells P.o2 e hk; rw [ho] at this; cases this)).1.trans hk
theorem PackV.c1 (P : PackV w b1 b2 b3 b4 v u h b W) : W.cell? ⟨b1, 0, none⟩ = some v := by simp [World.cell?, P.h1]
theorem PackV.c2 (P : PackV w b1 b2 b3 b4 v u h b W) : W.cell? ⟨b2, 0, none⟩ = some u := by simp [World.cell?, P.h2]
end

section
variable {w W W' : World} {b1 b2 b3 b4 : Nat} {v u v' : Value} {h b : List UInt8}
theorem PackV.box1 (P : PackV w b1 b2 b3 b4 v u h b W) (hf : Far W W' v v') : W'.cell? ⟨b1, 0, none⟩ = some v ∧ W'.frozen? ⟨b1, 0, none⟩ = false := by
  have g1 := ((hf.2 _ (lt_of_block P.h1) (own_apart P.o1 P.h1 (by decide))).1).trans P.h1
  exact ⟨by simp [World.cell?, g1], by simp [World.frozen?, g1]⟩
theorem PackV.box2 (P : PackV w b1 b2 b3 b4 v u h b W) (hf : Far W W' u v') : W'.cell? ⟨b2, 0, none⟩ = some u ∧ W'.frozen? ⟨b2, 0, none⟩ = false := by
  have g1 := ((hf.2 _ (lt_of_block P.h2) (own_apart P.o2 P.h2 (by decide))).1).trans P.h2
  exact ⟨by simp [World.cell?, g1], by simp [World.frozen?, g1]⟩
/-- A slice that does not lie in the row, behind a store into a box. -/
theorem Lies.set {W : World} {v : Value} {A : Option Addr} {n c : Nat} {xs : List Value} {k : Nat} (h : Lies W v A n c xs) (hk : ∀ ad, A = some ad → ad.block ≠ k) (x : Value) : Lies (W.setCell ⟨k, 0, none⟩ x) v A n c xs := by
  obtain ⟨h, h2⟩ := h
  refine ⟨⟨h.1, h.2.1, h.2.2.1, h.2.2.2.1, fun j u hu => ?_⟩, h2⟩
  obtain ⟨ad, hA, hlt, hc⟩ := h.2.2.2.2 j u hu
  refine ⟨ad, hA, by rw [set_size]; exact hlt, ?_⟩
  have hb : (ad.add j).block = ad.block := Go.ChangeShapes.block_add ad j
  have e : (W.setCell ⟨k, 0, none⟩ x).heap[(ad.add j).block]? = W.heap[(ad.add j).block]? := set_other (by rw [hb]; exact hk ad hA)
  exact (World.cell?_of_block e).trans hc
end

theorem step_join {P : Program} {w : World} {ops : Array Oper} {o : Oper} {a : Act} {K : Act → World → Prop} {Q : Exit → Act → World → Prop} {E : Prop} (hgd : o.guard = none) (s x : Operand) (t : TypeId)
    (ho : o.op = .call { callee := .builtin .append, args := #[s, x], argTypes := #[t, t] }) (i : TypeInfo) (z : Value) (ht : P.underlying t = some (.slice 5)) (hi : P.info? 5 = some i) (hz : i.zero = some z)
    (hsize : i.size = 1) (hby : i.bytes = 1) (hzs : z.cells.size = 1) (B : Nat) (v : Value) (xs ys : List UInt8) (hs : a.eval s = v) (hown : Own w B 5 v (byteCells xs)) (hB : B ≤ w.heap.size)
    (A : Option Addr) (n c : Nat) (hx : a.eval x = .slice A n c) (hsl : Sl w A n c (byteCells ys)) (hpos : 0 < n) (hlen : xs.length + n ≤ 140737488355328)
    (h : ∀ A' m' c' w', Own w' B 5 (.slice A' m' c') (byteCells (xs ++ ys)) → Below B w w' → Far w w' v (.slice A' m' c') → K (a.put o.dst (.slice A' m' c')) w') :
    if Region.wanted o (yielded ops a.tmps) = true then Oper.wp P o a w K Q else E := by
  have hw : Region.wanted o (yielded ops a.tmps) = true := by simp [Region.wanted, hgd]
  rw [if_pos hw]
  have hyl := hsl.len
  have hx1 := bytes_size xs
  have hy1 := bytes_size ys
  obtain ⟨ad, u, rfl, _, _, _⟩ := hsl.2.2.2.at_ hpos
  have hown' : w.ownsRow B 5 1 v xs.length (byteCells xs) := by
    have := hown
    unfold Own at this
    rw [hx1] at this
    exact this
  refine wp_append_lies w s x t ho B 5 i z 1 1 ht hi hz hsize hby hzs (by decide) v xs.length (byteCells xs) hs hown' ad n c (byteCells ys) hx (by omega) (fun j u hu => ?_) (bytes_one _) hpos (by unfold maxLen; omega) (by omega) hB w.heap.size rfl ?_
  · obtain ⟨ad', e', _, h3⟩ := hsl.2.2.2.2 j u hu
    cases e'
    exact h3
  · intro g cap w' h2 hg h4 _
    refine h _ _ _ w' ?_ ((Below.refl B w).grown hg hB fun k hk => (hown.lt k hk).1) ⟨hg.size, fun k hlt hne => ⟨hg.block k hlt (fun e => hne e.symm), ?_⟩⟩
    · unfold Own
      rw [bytes_size, List.length_append, hyl, Go.Lib.byteCells_append]
      exact h2
    · intro e
      have e' : g = k := Option.some.inj e
      subst e'
      rcases h4 with h4 | h4
      · exact hne h4
      · omega

theorem wpIn_join {F : Fence} {nF : Nat} {P : Program} {w : World} {ops : Array Oper} {rest : List Oper} {o : Oper} {a : Act} {Q : Exit → Act → World → Prop} (hgd : o.guard = none) (s x : Operand) (t : TypeId)
    (ho : o.op = .call { callee := .builtin .append, args := #[s, x], argTypes := #[t, t] }) (i : TypeInfo) (z : Value) (ht : P.underlying t = some (.slice 5)) (hi : P.info? 5 = some i) (hz : i.zero = some z)
    (hsize : i.size = 1) (hby : i.bytes = 1) (hzs : z.cells.size = 1) (B : Nat) (v : Value) (xs ys : List UInt8) (hs : a.eval s = v) (hown : Own w B 5 v (byteCells xs)) (hB : B ≤ w.heap.size)
    (A : Option Addr) (n c : Nat) (hx : a.eval x = .slice A n c) (hsl : Sl w A n c (byteCells ys)) (hlen : xs.length + n ≤ 140737488355328)
    (h : ∀ v' w', Own w' B 5 v' (byteCells (xs ++ ys)) → Below B w w' → Far w w' v v' → wpListIn F nF P ops Q rest (a.put o.dst v') w') : wpListIn F nF P ops Q (o :: rest) a w := by
  have hyl := hsl.len
  have hx1 := bytes_size xs
  have hown' : w.ownsRow B 5 1 v xs.length (byteCells xs) := by
    have := hown
    unfold Own at this
    rw [hx1] at this
    exact this
  cases A with
  | none =>
    have hc0 := hsl.2.2.1 rfl
    have hnc := hsl.1
    obtain rfl : n = 0 := by omega
    subst hc0
    obtain rfl : ys = [] := List.eq_nil_of_length_eq_zero hyl
    refine wpListIn_plain hgd fun K hK => ?_
    have hrun := run_append_owned_none (P := P) (w := w) B t o.type 5 i 1 ht hi v xs.length (byteCells xs) hown'
    unfold Oper.wpIn
    refine ⟨by simp [Oper.about, ho, resolve, Target.leads, Sem.run_pure], ?_⟩
    rw [Oper.semAt_plain F _ _ (by rw [ho]; intro c hc'; cases hc')]
    simp [execOp, ho, resolve, invoke, builtin, hs, hx, hrun, Result.andThen]
    exact hK _ _ (h v w (by rw [List.append_nil]; exact hown) (Below.refl _ _) (Far.refl _ _))
  | some ad =>
    refine wpListIn_append_own_at _ hgd s x t ho B 5 i z 1 1 ht hi hz hsize hby hzs (by decide) v xs.length (byteCells xs) hs hown' ad n c (byteCells ys) hx (by rw [bytes_size]; omega) (fun j u hu => ?_) (bytes_one _) (by unfold maxLen; omega) (by omega) hB ?_
    · obtain ⟨ad', e', _, h3⟩ := hsl.2.2.2.2 j u hu
      cases e'
      exact h3
    · intro v' w' hown2 hg _ hat
      refine h v' w' ?_ ((Below.refl B w).grown hg hB fun k hk => (hown.lt k hk).1) ⟨hg.size, fun g hlt hne => ⟨hg.block g hlt (fun e => hne e.symm), ?_⟩⟩
      · unfold Own
        rw [bytes_size, List.length_append, hyl, Go.Lib.byteCells_append]
        exact hown2
      · rcases hat with hat | hat
        · rw [hat]; exact hne
        · rw [hat]; intro e; injection e with e; omega

theorem push_at (w : World) (o : Obj) : (w.alloc o).heap[w.heap.size]? = some o := heap_alloc_new w o
theorem pack_start {w w1 : World} {h : List UInt8} {v s : Value} {t : Value} (ho : Own w1 w.heap.size 5 v (byteCells h)) (hb : Below w.heap.size w w1) (H0 : Nat) (hH : w1.heap.size = H0) (W0 : World)
    (hW : (((w1.alloc (.cells #[v] 30)).alloc (.cells #[.slice none 0 0] 30)).alloc (.cells #[s] 22)).alloc (.cells #[t] 3) = W0) :
    PackV w H0 (H0 + 1) (H0 + 2) (H0 + 3) v (.slice none 0 0) h [] W0 ∧ W0.heap.size = H0 + 4 ∧ W0.cell? ⟨H0 + 2, 0, none⟩ = some s ∧ W0.cell? ⟨H0 + 3, 0, none⟩ = some t := by
  subst hH hW
  have z1 : (w1.alloc (.cells #[v] 30)).heap.size = w1.heap.size + 1 := by simp
  have z2 : ((w1.alloc (.cells #[v] 30)).alloc (.cells #[.slice none 0 0] 30)).heap.size = w1.heap.size + 2 := by simp
  have z3 : (((w1.alloc (.cells #[v] 30)).alloc (.cells #[.slice none 0 0] 30)).alloc (.cells #[s] 22)).heap.size = w1.heap.size + 3 := by simp
  have b1 := bnew (Below.refl w1.heap.size w1) (.cells #[v] 30)
  have e1 : ((((w1.alloc (.cells #[v] 30)).alloc (.cells #[.slice none 0 0] 30)).alloc (.cells #[s] 22)).alloc (.cells #[t] 3)).heap[w1.heap.size]? = some (.cells #[v] 30 (0, 0)) := by
    rw [heap_alloc_old _ _ (by omega), heap_alloc_old _ _ (by omega), heap_alloc_old _ _ (by omega), push_at]
  have e2 : ((((w1.alloc (.cells #[v] 30)).alloc (.cells #[.slice none 0 0] 30)).alloc (.cells #[s] 22)).alloc (.cells #[t] 3)).heap[w1.heap.size + 1]? = some (.cells #[.slice none 0 0] 30 (0, 0)) := by
    rw [heap_alloc_old _ _ (by omega), heap_alloc_old _ _ (by omega), ← z1, push_at]
  have e3 : ((((w1.alloc (.cells #[v] 30)).alloc (.cells #[.slice none 0 0] 30)).alloc (.cells #[s] 22)).alloc (.cells #[t] 3)).heap[w1.heap.size + 2]? = some (.cells #[s] 22 (0, 0)) := by
    rw [heap_alloc_old _ _ (by omega), ← z2, push_at]
  have e4 : ((((w1.alloc (.cells #[v] 30)).alloc (.cells #[.slice none 0 0] 30)).alloc (.cells #[s] 22)).alloc (.cells #[t] 3)).heap[w1.heap.size + 3]? = some (.cells #[t] 3 (0, 0)) := by
    rw [← z3, push_at]
  have hbel : Below w1.heap.size w1 ((((w1.alloc (.cells #[v] 30)).alloc (.cells #[.slice none 0 0] 30)).alloc (.cells #[s] 22)).alloc (.cells #[t] 3)) :=
    (((b1.alloc (by omega) _).alloc (by omega) _).alloc (by omega) _)
  refine ⟨⟨e1, e2, ⟨s, e3⟩, ⟨t, e4⟩, ho.below hbel, World.ownsRow_nil _ _ _ _, (fun g hg => by cases hg), hb.trans (hbel.mono hb.size), hb.size, by omega, by omega, by omega⟩, by simp, by unfold World.cell?; rw [e3]; rfl, by unfold World.cell?; rw [e4]; rfl⟩

end Go.Proofs.Ytfljmnjcoagbmaa
