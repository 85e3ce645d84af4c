/- The reference: the elements of a pattern; Right. -/
import Derived.Test.YtlabdaomgogflaaDoorX5
namespace Go.Proofs.YtlabdaomgogflaaDoor
open Go.RowKit

theorem info47 : (Tryd.prog.info? 47).map (fun i => (i.zero, i.size, i.bytes)) = some (some (.agg #[.int .i64 0, .int .u8 0, .bool false, .slice none 0 0]), 4, 40) := by kernel_rfl

/-- The cells vs hold the elements es, each with its set in a block of the call's own. -/
def EAt (w : World) (B : Nat) : List (List UInt8) → List Value → Prop
  | [], vs => vs = []
  | e :: es, vs => ∃ ao m cap vs', vs = .int .i64 (kindOf e) :: .int .u8 ((charOf e).toNat : Int) :: .bool (negOf e) :: .slice ao m cap :: vs' ∧ m = (setOf e).length ∧ w.ownsRow B 64 2 (.slice ao m cap) m (rCells (setOf e)) ∧ EAt w B es vs'
theorem EAt.len {w : World} {B : Nat} : ∀ {es : List (List UInt8)} {vs : List Value}, EAt w B es vs → vs.length = es.length * 4
  | [], vs, h => by
    have : vs = [] := h
    subst this; rfl
  | e :: es, vs, h => by
    obtain ⟨ao, m, cap, vs', rfl, _, _, h2⟩ := h
    have := EAt.len h2
    simp [this]; omega
theorem EAt.below {w w' : World} {B : Nat} (hb : Below w.heap.size w w') : ∀ {es : List (List UInt8)} {vs : List Value}, EAt w B es vs → EAt w' B es vs
  | [], vs, h => h
  | e :: es, vs, h => by
    obtain ⟨ao, m, cap, vs', rfl, h1, h2, h3⟩ := h
    exact ⟨ao, m, cap, vs', rfl, h1, owns_below h2 hb, EAt.below hb h3⟩
theorem own_type {w : World} {B e : Nat} {sz n g : Nat} {v : Value} {xs : List Value} (h : w.ownsRow B e sz v n xs) (hg : v.ownBlock = some g) : ∃ cur fr, w.heap[g]? = some (.cells cur e fr) := by
  rcases h.2 with ⟨rfl, _⟩ | ⟨g', cap, cur, rfl, _, hh, _⟩
  · simp [Value.ownBlock] at hg
  · simp only [Value.ownBlock, Option.some.injEq] at hg
    subst hg
    exact ⟨_, _, hh⟩
theorem owns_grown {w w' : World} {B B' e e' : Nat} {sz sz' n n' : Nat} {v v' : Value} {xs xs' : List Value} (h : w.ownsRow B e sz v n xs) (hv : w.ownsRow B' e' sz' v' n' xs') (hne : e ≠ e') (hg : w.grownBy w' v'.ownBlock) : w'.ownsRow B e sz v n xs := by
  obtain ⟨h1, h2⟩ := h
  refine ⟨h1, ?_⟩
  rcases h2 with h2 | ⟨g, cap, cur, hvv, hgB, hh, r⟩
  · exact Or.inl h2
  · refine Or.inr ⟨g, cap, cur, hvv, hgB, ?_, r⟩
    rw [← hh]
    refine hg.block g (lt_of_block hh) fun e2 => ?_
    obtain ⟨cur', fr', hh'⟩ := own_type hv e2.symm
    rw [hh] at hh'
    simp at hh'
    exact hne hh'.2.1
theorem EAt.grown {w w' : World} {B B' sz' n' : Nat} {v' : Value} {xs' : List Value} (hv : w.ownsRow B' 47 sz' v' n' xs') (hg : w.grownBy w' v'.ownBlock) : ∀ {es : List (List UInt8)} {vs : List Value}, EAt w B es vs → EAt w' B es vs
  | [], vs, h => h
  | e :: es, vs, h => by
    obtain ⟨ao, m, cap, vs', rfl, h1, h2, h3⟩ := h
    exact ⟨ao, m, cap, vs', rfl, h1, owns_grown h2 hv (by decide) hg, EAt.grown hv hg h3⟩
theorem EAt.snoc {w : World} {B : Nat} {e : List UInt8} {ao : Option Addr} {m cap : Nat} (hm : m = (setOf e).length) (ho : w.ownsRow B 64 2 (.slice ao m cap) m (rCells (setOf e))) : ∀ {es : List (List UInt8)} {vs : List Value}, EAt w B es vs →
    EAt w B (es ++ [e]) (vs ++ [.int .i64 (kindOf e), .int .u8 ((charOf e).toNat : Int), .bool (negOf e), .slice ao m cap])
  | [], vs, h => by
    have : vs = [] := h
    subst this
    exact ⟨ao, m, cap, [], rfl, hm, ho, rfl⟩
  | f :: es, vs, h => by
    obtain ⟨ao', m', cap', vs', rfl, h1, h2, h3⟩ := h
    exact ⟨ao', m', cap', _, rfl, h1, h2, EAt.snoc hm ho h3⟩
theorem EAt.get {w : World} {B : Nat} : ∀ {es : List (List UInt8)} {vs : List Value}, EAt w B es vs → ∀ (k : Nat) (h : k < es.length), ∃ ao m cap, m = (setOf es[k]).length ∧ w.ownsRow B 64 2 (.slice ao m cap) m (rCells (setOf es[k])) ∧
    vs[k * 4]? = some (.int .i64 (kindOf es[k])) ∧ vs[k * 4 + 1]? = some (.int .u8 ((charOf es[k]).toNat : Int)) ∧ vs[k * 4 + 2]? = some (.bool (negOf es[k])) ∧ vs[k * 4 + 3]? = some (.slice ao m cap)
  | [], vs, _, k, hk => by simp at hk
  | e :: es, vs, h, k, hk => by
    obtain ⟨ao, m, cap, vs', rfl, h1, h2, h3⟩ := h
    cases k with
    | zero => exact ⟨ao, m, cap, h1, h2, rfl, rfl, rfl, rfl⟩
    | succ k =>
      obtain ⟨ao', m', cap', g1, g2, g3, g4, g5, g6⟩ := EAt.get h3 k (by simpa using hk)
      refine ⟨ao', m', cap', g1, g2, ?_, ?_, ?_, ?_⟩
      · rw [show (k + 1) * 4 = k * 4 + 1 + 1 + 1 + 1 by omega]; exact g3
      · rw [show (k + 1) * 4 + 1 = k * 4 + 1 + 1 + 1 + 1 + 1 by omega]; exact g4
      · rw [show (k + 1) * 4 + 2 = k * 4 + 2 + 1 + 1 + 1 + 1 by omega]; exact g5
      · rw [show (k + 1) * 4 + 3 = k * 4 + 3 + 1 + 1 + 1 + 1 by omega]; exact g6

/-- Where the loop over a pattern stands. -/
def LInv (w : World) (s : ByteArray) (i : Nat) (done : List (List UInt8)) (v : Value) (wr : World) : Prop :=
  elems s.data.toList = (elems (s.data.toList.drop i)).map (done ++ ·) ∧ done.length ≤ i ∧
  ∃ vs, wr.ownsRow w.heap.size 47 4 v done.length vs ∧ EAt wr w.heap.size done vs ∧ Below w.heap.size w wr
theorem LInv.below {w wr w2 : World} {s : ByteArray} {i : Nat} {done : List (List UInt8)} {v : Value} (h : LInv w s i done v wr) (hb : Below wr.heap.size wr w2) : LInv w s i done v w2 := by
  obtain ⟨h1, h2, vs, h3, h4, h5⟩ := h
  exact ⟨h1, h2, vs, owns_below h3 hb, h4.below hb, bgo h5 hb⟩
theorem drop_ne (s : ByteArray) (i : Nat) (h : i < s.size) : s.data.toList.drop i ≠ [] := by rw [drop_at s i h]; simp
theorem LInv.fail {w wr : World} {s : ByteArray} {i : Nat} {done : List (List UInt8)} {v : Value} (h : LInv w s i done v wr) (hi : i < s.size) (h0 : firstEl (s.data.toList.drop i) = 0) : elems s.data.toList = none := by
  rw [h.1, elems_cons _ (drop_ne s i hi), if_pos h0]; rfl
/-- Behind an append. -/
theorem LInv.push {w wr w1 : World} {s : ByteArray} {i n : Nat} {done : List (List UInt8)} {v v' : Value} {ao : Option Addr} {m cap : Nat} {o : Obj} {vs : List Value} (h : LInv w s i done v wr) (hi : i < s.size) (hn : firstEl (s.data.toList.drop i) = n) (h0 : n ≠ 0)
    (hvs : EAt wr w.heap.size done vs) (hown : wr.ownsRow w.heap.size 47 4 v done.length vs)
    (hm : m = (setOf ((s.data.toList.drop i).take n)).length) (hset : wr.ownsRow w.heap.size 64 2 (.slice ao m cap) m (rCells (setOf ((s.data.toList.drop i).take n))))
    (hown1 : w1.ownsRow w.heap.size 47 4 v' (done.length + 1) (vs ++ [.int .i64 (kindOf ((s.data.toList.drop i).take n)), .int .u8 ((charOf ((s.data.toList.drop i).take n)).toNat : Int), .bool (negOf ((s.data.toList.drop i).take n)), .slice ao m cap]))
    (hgrow : (wr.alloc o).grownBy w1 v.ownBlock) : LInv w s (i + n) (done ++ [(s.data.toList.drop i).take n]) v' w1 := by
  obtain ⟨h1, h2, _, _, _, h5⟩ := h
  have hba : Below wr.heap.size wr (wr.alloc o) := bnew (Below.refl _ _) _
  refine ⟨?_, ?_, _, ?_, EAt.snoc hm (owns_grown (owns_below hset hba) (owns_below hown hba) (by decide) hgrow) (EAt.grown (owns_below hown hba) hgrow (hvs.below hba)), below_app h5 hown hgrow⟩
  · rw [h1, elems_cons _ (drop_ne s i hi), hn, if_neg h0, List.drop_drop, Option.map_map]
    congr 1
    funext x
    simp
  · rw [List.length_append]; simp; omega
  · rw [List.length_append]; exact hown1

end Go.Proofs.YtlabdaomgogflaaDoor
