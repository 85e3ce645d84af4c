/- Rows of ranges and of expressions of the call's own, boxes of expressions; the other case of a letter (layer 8's program). -/
import Derived.Test.YtlnbjdlooghpeaaQs
import Derived.Test.YtlnbjdlooghpeaaN3
import Derived.Deep.RegionLaw
import Derived.Deep.AppendLies
import Derived.BigQuiet
namespace Go.Proofs.Ytlnbjdlooghpeaa
open Go.RowKit
open Go.ChangeShapes (block_add)
def rgCells (l : List (UInt8 × UInt8)) : List Value := l.flatMap fun r => [.int .u8 (r.1.toNat : Int), .int .u8 (r.2.toNat : Int)]
theorem rgCells_len (l : List (UInt8 × UInt8)) : (rgCells l).length = l.length * 2 := by
  induction l with
  | nil => rfl
  | cons r l ih =>
    unfold rgCells at ih ⊢
    rw [List.flatMap_cons, List.length_append, ih, List.length_cons]
    simp
    omega
theorem rgCells_app (a b : List (UInt8 × UInt8)) : rgCells (a ++ b) = rgCells a ++ rgCells b := by simp [rgCells]
theorem rgCells_get (l : List (UInt8 × UInt8)) (i : Nat) (r : UInt8 × UInt8) (h : l[i]? = some r) : (rgCells l)[i * 2]? = some (.int .u8 (r.1.toNat : Int)) ∧ (rgCells l)[i * 2 + 1]? = some (.int .u8 (r.2.toNat : Int)) := by
  induction l generalizing i with
  | nil => simp at h
  | cons x l ih =>
    have e : rgCells (x :: l) = .int .u8 (x.1.toNat : Int) :: .int .u8 (x.2.toNat : Int) :: rgCells l := rfl
    rw [e]
    cases i with
    | zero =>
      simp at h
      subst h
      exact ⟨rfl, rfl⟩
    | succ i =>
      simp at h
      have := ih i h
      rw [show (i + 1) * 2 = i * 2 + 1 + 1 by omega, show i * 2 + 1 + 1 + 1 = (i * 2 + 1) + 1 + 1 by omega]
      exact this
theorem rgCells_set (m : List (UInt8 × UInt8)) (a b c : UInt8) : (rgCells (m ++ [(a, b)])).set (m.length * 2 + 1) (.int .u8 (c.toNat : Int)) = rgCells (m ++ [(a, c)]) := by
  rw [rgCells_app, rgCells_app, List.set_append_right _ _ (by rw [rgCells_len]; omega), rgCells_len, show m.length * 2 + 1 - m.length * 2 = 1 by omega]
  rfl

/-- v is a row of the call's own of the ranges. -/
def OwnR (W : World) (B : Nat) (v : Value) (l : List (UInt8 × UInt8)) : Prop := W.ownsRow B 61 2 v l.length (rgCells l)
theorem OwnR.below {W W' : World} {B : Nat} {v : Value} {l : List (UInt8 × UInt8)} (h : OwnR W B v l) (hb : Below W.heap.size W W') : OwnR W' B v l := owns_below' h hb
theorem OwnR.mono {W : World} {B B' : Nat} {v : Value} {l : List (UInt8 × UInt8)} (h : OwnR W B v l) (hb : B' ≤ B) : OwnR W B' v l := owns_mono h hb
theorem OwnR.s {W : World} {B : Nat} {v : Value} {l : List (UInt8 × UInt8)} (h : OwnR W B v l) : ∃ A n c, v = .slice A n c ∧ n = l.length ∧ RgS W (fun g => B ≤ g) A n c l := by
  have h' : W.ownsRow B 61 2 v l.length (rgCells l) := h
  have h1' := h'
  rcases h1'.2 with ⟨rfl, h0⟩ | ⟨g, cap, cur, rfl, hb, hg, hc, hm, r⟩
  · obtain rfl : l = [] := List.eq_nil_of_length_eq_zero h0
    exact ⟨none, 0, 0, rfl, rfl, Nat.le_refl _, by omega, rfl, fun i x hx => by simp at hx⟩
  · refine ⟨_, l.length, cap, rfl, rfl, hc, by unfold maxLen at hm; omega, rfl, fun i x hx => ?_⟩
    have hi := (List.getElem?_eq_some_iff.1 hx).1
    obtain ⟨e0, e1⟩ := rgCells_get l i x hx
    refine ⟨g, 0, rfl, hb, ?_, ?_⟩
    · rw [Nat.zero_add, h'.cellAt (i * 2) (by omega)]; exact e0
    · rw [Nat.zero_add, h'.cellAt (i * 2 + 1) (by omega)]; exact e1
theorem row_set {w : World} {B e g n cap sz : Nat} {xs : List Value} (h : w.ownsRow B e sz (.slice (some ⟨g, 0, none⟩) n cap) n xs) (j : Nat) (u : Value) : (w.setCell ⟨g, j, none⟩ u).ownsRow B e sz (.slice (some ⟨g, 0, none⟩) n cap) n (xs.set j u) := by
  obtain ⟨h1, h2⟩ := h
  refine ⟨by rw [List.length_set]; exact h1, ?_⟩
  rcases h2 with ⟨h0, _⟩ | ⟨g', cap', cur, hv, hB, hh, hn, hm, hs, ht⟩
  · cases h0
  · simp only [Value.slice.injEq, Option.some.injEq, Addr.mk.injEq, and_true, true_and] at hv
    obtain ⟨rfl, rfl⟩ := hv
    refine Or.inr ⟨g, cap, cur.setIfInBounds j u, rfl, hB, Go.Joins.block_setCell hh u, hn, hm, by simpa using hs, ?_⟩
    rw [Array.toList_setIfInBounds, List.take_set, ht]
theorem infoR : (Try.prog.info? 61).map (fun i => (i.zero, i.size, i.bytes)) = some (some (.agg #[.int .u8 0, .int .u8 0]), 2, 2) := by kernel_rfl

section
variable {P : Program} {ops : Array Oper} {rest : List Oper} {o : Oper} {a : Act} {Q : Exit → Act → World → Prop}
/-- l = append(l, r), l a row of the call's own -/
theorem wp_push_rg (hgd : o.guard = none) (s x : Operand) (t : TypeId) (ho : o.op = .call { callee := .builtin .append, args := #[s, x], argTypes := #[t, t] })
    (i : TypeInfo) (z : Value) (bytes : Nat) (ht : P.underlying t = some (.slice 61)) (hi : P.info? 61 = some i) (hz : i.zero = some z) (hsize : i.size = 2) (hby : i.bytes = bytes) (hzs : z.cells.size = 2)
    (B : Nat) (v : Value) (l : List (UInt8 × UInt8)) (hs : a.eval s = v) (w0 : World) (r : UInt8 × UInt8) (c0 c1 : Int) (h0 : c0 = (r.1.toNat : Int)) (h1 : c1 = (r.2.toNat : Int)) (hown : OwnR w0 B v l) (hB : B ≤ w0.heap.size) (H : Nat) (hH : H = w0.heap.size)
    (hx : a.eval x = .slice (some ⟨H, 0, none⟩) 1 1) (hlen : (l.length + 1) * bytes ≤ 140737488355328) (h63 : l.length + 1 ≤ maxLen) (T : TypeId)
    (h : ∀ v' w', OwnR w' B v' (l ++ [r]) → Below B w0 w' → wpList P ops Q rest (a.put o.dst v') w') : wpList P ops Q (o :: rest) a (w0.alloc (.cells #[.int .u8 c0, .int .u8 c1] T)) := by
  subst hH h0 h1
  have hone : ∀ u ∈ [Value.int .u8 (r.1.toNat : Int), .int .u8 (r.2.toNat : Int)], u.oneCell' = true := by
    intro u hu
    simp at hu
    rcases hu with rfl | rfl <;> rfl
  refine wpList_append_own_at _ hgd s x t ho B 61 i z 2 bytes ht hi hz hsize hby hzs (by decide) v l.length (rgCells l) hs (World.ownsRow.alloc hown _) ⟨w0.heap.size, 0, none⟩ 1 1 [.int .u8 (r.1.toNat : Int), .int .u8 (r.2.toNat : Int)] hx rfl (c1_two _ _ _ _) hone h63 hlen (by simp; omega) ?_
  intro v' w' hown' hg _ _
  refine h v' w' ?_ (((Below.refl B w0).alloc hB _).grown hg (by simp; omega) fun k hk => (World.ownsRow.lt hown k hk).1)
  unfold OwnR
  rw [List.length_append, rgCells_app]
  exact hown'
end

theorem addB_none {l : List (UInt8 × UInt8)} (n : Nat) (h : l = []) : addB l n = [(UInt8.ofNat n, UInt8.ofNat n)] := by subst h; rfl
theorem addB_yes (m : List (UInt8 × UInt8)) (r : UInt8 × UInt8) (n : Nat) (h : r.2.toNat + 1 = n) : addB (m ++ [r]) n = m ++ [(r.1, UInt8.ofNat n)] := by
  unfold addB
  rw [List.getLast?_append]
  simp [h]
theorem addB_no (m : List (UInt8 × UInt8)) (r : UInt8 × UInt8) (n : Nat) (h : ¬ r.2.toNat + 1 = n) : addB (m ++ [r]) n = m ++ [r] ++ [(UInt8.ofNat n, UInt8.ofNat n)] := by
  unfold addB
  rw [List.getLast?_append]
  simp [h]
theorem addB_len (l : List (UInt8 × UInt8)) (n : Nat) : (addB l n).length ≤ l.length + 1 := by
  unfold addB
  split
  · split
    · simp
    · simp
  · simp
theorem rgN_len (f : Nat → Bool) : ∀ n, (rgN f n).length ≤ n
  | 0 => Nat.le_refl _
  | n + 1 => by
    have h1 := rgN_len f n
    have h2 := addB_len (rgN f n) n
    unfold rgN
    split <;> omega

/-- A row of ranges of the call's own. -/
def GotR (w : World) (l : List (UInt8 × UInt8)) (e : Ending) (w' : World) : Prop := ∃ v, e = .returned v ∧ OwnR w' w.heap.size v l ∧ Below w.heap.size w w'



section
variable {W W' : World} {ok : Nat → Prop}
theorem rxv_set {A : Option Addr} {n c : Nat} {set : List (UInt8 × UInt8)} (h : RgS W ok A n c set) : RxV W ok (.agg #[.int .i64 1, .slice A n c, .int .i64 0, .int .i64 0, .slice none 0 0]) (.mk 1 set 0 0 []) :=
  .mk 1 0 0 A none n c 0 0 set [] [] h (VsS.nil W ok) rfl (by omega) (by omega) (by omega) fun i v x hv => by simp at hv
theorem rxv_kind (k : Int) (hk : 0 ≤ k ∧ k ≤ 9) : RxV W ok (.agg #[.int .i64 k, .slice none 0 0, .int .i64 0, .int .i64 0, .slice none 0 0]) (.mk k [] 0 0 []) :=
  .mk k 0 0 none none 0 0 0 0 [] [] [] (RgS.nil W ok) (VsS.nil W ok) rfl (by omega) (by omega) (by omega) fun i v x hv => by simp at hv
theorem rxv_zero : RxV W ok (.agg #[.int .i64 0, .slice none 0 0, .int .i64 0, .int .i64 0, .slice none 0 0]) rx0 := rxv_kind 0 (by omega)
theorem RxV.agg {v : Value} {r : Rx} (h : RxV W ok v r) : ∃ c0 c1 c2 c3 c4, v = .agg #[c0, c1, c2, c3, c4] ∧ c0.oneCell' = true ∧ c1.oneCell' = true ∧ c2.oneCell' = true ∧ c3.oneCell' = true ∧ c4.oneCell' = true := by
  cases h
  exact ⟨_, _, _, _, _, rfl, rfl, rfl, rfl, rfl, rfl⟩
end

/-- v is a row of the call's own of the expressions xs; their own memory lies in other blocks. -/
def OwnX (W : World) (B : Nat) (v : Value) (xs : List Rx) : Prop :=
  ∃ cs vs : List Value, W.ownsRow B 25 5 v xs.length cs ∧ vs.length = xs.length ∧
    (∀ (i : Nat) (u : Value), vs[i]? = some u → ∃ c0 c1 c2 c3 c4, u = .agg #[c0, c1, c2, c3, c4] ∧ cs[i * 5]? = some c0 ∧ cs[i * 5 + 1]? = some c1 ∧ cs[i * 5 + 2]? = some c2 ∧ cs[i * 5 + 3]? = some c3 ∧ cs[i * 5 + 4]? = some c4) ∧
    ∀ (i : Nat) (u : Value) (x : Rx), vs[i]? = some u → xs[i]? = some x → RxV W (fun g => B ≤ g ∧ v.ownBlock ≠ some g) u x
theorem OwnX.nil (W : World) (B : Nat) : OwnX W B (.slice none 0 0) [] := ⟨[], [], World.ownsRow_nil _ _ _ _, rfl, fun i u h => by simp at h, fun i u x h => by simp at h⟩
theorem OwnX.below {W W' : World} {B : Nat} {v : Value} {xs : List Rx} (h : OwnX W B v xs) (hb : Below W.heap.size W W') : OwnX W' B v xs := by
  obtain ⟨cs, vs, h1, h2, h3, h4⟩ := h
  exact ⟨cs, vs, owns_below' h1 hb, h2, h3, fun i u x hu hx => (h4 i u x hu hx).kept hb⟩
theorem OwnX.mono {W : World} {B B' : Nat} {v : Value} {xs : List Rx} (h : OwnX W B v xs) (hb : B' ≤ B) : OwnX W B' v xs := by
  obtain ⟨cs, vs, h1, h2, h3, h4⟩ := h
  exact ⟨cs, vs, owns_mono h1 hb, h2, h3, fun i u x hu hx => (h4 i u x hu hx).map (fun _ _ _ => rfl) fun g hg _ => ⟨Nat.le_trans hb hg.1, hg.2⟩⟩
theorem OwnX.s {W : World} {B : Nat} {v : Value} {xs : List Rx} (h : OwnX W B v xs) : ∃ (A : Option Addr) (m d : Nat) (vs : List Value), v = .slice A m d ∧ m = xs.length ∧ VsS W (fun g => B ≤ g) A m d vs ∧ ∀ (i : Nat) (u : Value) (x : Rx), vs[i]? = some u → xs[i]? = some x → RxV W (fun g => B ≤ g) u x := by
  obtain ⟨cs, vs, h1, h2, h3, h4⟩ := h
  have h4' : ∀ (i : Nat) (u : Value) (x : Rx), vs[i]? = some u → xs[i]? = some x → RxV W (fun g => B ≤ g) u x := fun i u x hu hx => (h4 i u x hu hx).map (fun _ _ _ => rfl) fun g hg _ => hg.1
  rcases h1.2 with ⟨rfl, h0⟩ | ⟨g, cap, cur, rfl, hb, hg, hc, hm, r⟩
  · obtain rfl : xs = [] := List.eq_nil_of_length_eq_zero h0
    obtain rfl : vs = [] := List.eq_nil_of_length_eq_zero h2
    exact ⟨none, 0, 0, [], rfl, rfl, VsS.nil _ _, h4'⟩
  · refine ⟨_, xs.length, cap, vs, rfl, rfl, ⟨hc, by unfold maxLen at hm; omega, h2, fun i u hu => ?_⟩, h4'⟩
    obtain ⟨c0, c1, c2, c3, c4, e, e0, e1, e2, e3, e4⟩ := h3 i u hu
    have hi := (List.getElem?_eq_some_iff.1 hu).1
    have key : ∀ j, j < 5 → W.cell? ⟨g, 0 + i * 5 + j, none⟩ = cs[i * 5 + j]? := fun j hj => by
      rw [Nat.zero_add]
      exact h1.cellAt (i * 5 + j) (by omega)
    exact ⟨g, 0, c0, c1, c2, c3, c4, rfl, hb, e, (key 0 (by omega)).trans e0, (key 1 (by omega)).trans e1, (key 2 (by omega)).trans e2, (key 3 (by omega)).trans e3, (key 4 (by omega)).trans e4⟩
/-- A sequence, alternatives: the expressions of a row. -/
theorem OwnX.rx {W : World} {B : Nat} {v : Value} {xs : List Rx} (h : OwnX W B v xs) (k : Int) (hk : 0 ≤ k ∧ k ≤ 9) : RxV W (fun g => B ≤ g) (.agg #[.int .i64 k, .slice none 0 0, .int .i64 0, .int .i64 0, v]) (.mk k [] 0 0 xs) := by
  obtain ⟨A, m, d, vs, rfl, hm, hvs, hr⟩ := h.s
  exact .mk k 0 0 none A 0 0 m d [] vs xs (RgS.nil W _) hvs hm.symm (by omega) (by omega) (by omega) hr
/-- A repetition of what is in a row of one. -/
theorem OwnX.rep {W : World} {B : Nat} {v : Value} {x : Rx} (h : OwnX W B v [x]) (a b : Int) (ha : -1 ≤ a ∧ a ≤ 1000) (hb : -1 ≤ b ∧ b ≤ 1000) : RxV W (fun g => B ≤ g) (.agg #[.int .i64 4, .slice none 0 0, .int .i64 a, .int .i64 b, v]) (repS x a b) := by
  obtain ⟨A, m, d, vs, rfl, hm, hvs, hr⟩ := h.s
  exact .mk 4 a b none A 0 0 m d [] vs [x] (RgS.nil W _) hvs hm.symm (by omega) (by omega) (by omega) hr
/-- A row of one expression, written out. -/
theorem ownX_lit (w : World) (c0 c1 c2 c3 c4 : Value) (x : Rx) (B : Nat) (hB : B ≤ w.heap.size) (h : RxV w (fun g => B ≤ g) (.agg #[c0, c1, c2, c3, c4]) x) : OwnX (w.alloc (.cells #[c0, c1, c2, c3, c4] 25)) B (.slice (some ⟨w.heap.size, 0, none⟩) 1 1) [x] := by
  refine ⟨[c0, c1, c2, c3, c4], [.agg #[c0, c1, c2, c3, c4]], ⟨rfl, Or.inr ⟨w.heap.size, 1, #[c0, c1, c2, c3, c4], rfl, hB, heap_alloc_new w _, Nat.le_refl _, by unfold maxLen; omega, rfl, rfl⟩⟩, rfl, fun i u hu => ?_, fun i u y hu hy => ?_⟩
  · match i, hu with
    | 0, hu =>
      simp at hu
      exact ⟨c0, c1, c2, c3, c4, hu.symm, rfl, rfl, rfl, rfl, rfl⟩
  · match i, hu, hy with
    | 0, hu, hy =>
      simp at hu hy
      subst hu hy
      refine h.map (fun p _ hp => World.cell?_alloc_lt w _ p hp) fun g hg hlt => ⟨hg, fun e => ?_⟩
      simp only [Value.ownBlock, Option.some.injEq] at e
      omega

theorem c1_five (w : World) (c0 c1 c2 c3 c4 : Value) (T : TypeId) : ∀ (j : Nat) (u : Value), [c0, c1, c2, c3, c4][j]? = some u → (w.alloc (.cells #[c0, c1, c2, c3, c4] T)).cell? ((⟨w.heap.size, 0, none⟩ : Addr).add j) = some u := by
  intro j u h
  match j, h with
  | 0, h => simp at h; subst h; rw [addr0, World.cell?_alloc_mark]; rfl
  | 1, h => simp at h; subst h; rw [addr0, World.cell?_alloc_mark]; rfl
  | 2, h => simp at h; subst h; rw [addr0, World.cell?_alloc_mark]; rfl
  | 3, h => simp at h; subst h; rw [addr0, World.cell?_alloc_mark]; rfl
  | 4, h => simp at h; subst h; rw [addr0, World.cell?_alloc_mark]; rfl
section
variable {P : Program} {ops : Array Oper} {rest : List Oper} {o : Oper} {a : Act} {Q : Exit → Act → World → Prop}
/-- l = append(l, re), l a row of expressions of the call's own -/
theorem wp_push_rx (hgd : o.guard = none) (s x : Operand) (t : TypeId) (ho : o.op = .call { callee := .builtin .append, args := #[s, x], argTypes := #[t, t] })
    (i : TypeInfo) (z : Value) (bytes : Nat) (ht : P.underlying t = some (.slice 25)) (hi : P.info? 25 = some i) (hz : i.zero = some z) (hsize : i.size = 5) (hby : i.bytes = bytes) (hzs : z.cells.size = 5)
    (B : Nat) (v : Value) (xs : List Rx) (hs : a.eval s = v) (w0 : World) (c0 c1 c2 c3 c4 : Value) (r : Rx) (hown : OwnX w0 B v xs) (hB : B ≤ w0.heap.size) (H : Nat) (hH : H = w0.heap.size)
    (hx : a.eval x = .slice (some ⟨H, 0, none⟩) 1 1) (hr : RxV w0 (fun g => B ≤ g ∧ v.ownBlock ≠ some g) (.agg #[c0, c1, c2, c3, c4]) r) (hlen : (xs.length + 1) * bytes ≤ 140737488355328) (h63 : xs.length + 1 ≤ maxLen)
    (h : ∀ v' w', OwnX w' B v' (xs ++ [r]) → Below B w0 w' → wpList P ops Q rest (a.put o.dst v') w') : wpList P ops Q (o :: rest) a (w0.alloc (.cells #[c0, c1, c2, c3, c4] 25)) := by
  subst hH
  obtain ⟨cs, vs, hown, hvl, h3, h4⟩ := hown
  have hone : ∀ u ∈ [c0, c1, c2, c3, c4], u.oneCell' = true := by
    obtain ⟨d0, d1, d2, d3, d4, e, h0, h1, h2, h3', h4'⟩ := hr.agg
    injection e with e
    injection e with e
    simp only [List.cons.injEq, and_true] at e
    obtain ⟨rfl, rfl, rfl, rfl, rfl⟩ := e
    intro u hu
    simp only [List.mem_cons, List.not_mem_nil, or_false] at hu
    rcases hu with rfl | rfl | rfl | rfl | rfl <;> assumption
  refine wpList_append_own_at _ hgd s x t ho B 25 i z 5 bytes ht hi hz hsize hby hzs (by decide) v xs.length cs hs (hown.alloc _) ⟨w0.heap.size, 0, none⟩ 1 1 [c0, c1, c2, c3, c4] hx rfl (c1_five _ _ _ _ _ _ _) hone h63 hlen (by simp; omega) ?_
  intro v' w' hown' hg _ hat
  have hF : Far w0 w' v v' := by
    refine ⟨by have := hg.size; simp at this; omega, fun g hlt hne => ⟨?_, ?_⟩⟩
    · exact (hg.block g (by simp; omega) (fun e => hne e.symm)).trans (((Below.refl w0.heap.size w0).alloc (Nat.le_refl _) _).block g hlt)
    · rcases hat with hat | hat
      · rw [hat]; exact hne
      · rw [hat]; intro e; injection e with e; simp at e; omega
  have hmap : ∀ (u : Value) (y : Rx), RxV w0 (fun g => B ≤ g ∧ v.ownBlock ≠ some g) u y → RxV w' (fun g => B ≤ g ∧ v'.ownBlock ≠ some g) u y := fun u y hy =>
    hy.map (fun p hp hlt => World.cell?_of_block (hF.2 p.block hlt hp.2).1) fun g hg hlt => ⟨hg.1, (hF.2 g hlt hg.2).2⟩
  have hcl : cs.length = xs.length * 5 := hown.1
  refine h v' w' ⟨cs ++ [c0, c1, c2, c3, c4], vs ++ [.agg #[c0, c1, c2, c3, c4]], by rw [List.length_append]; exact hown', by simp [hvl], fun j u hu => ?_, fun j u y hu hy => ?_⟩ ?_
  · by_cases hj : j < vs.length
    · rw [List.getElem?_append_left hj] at hu
      obtain ⟨d0, d1, d2, d3, d4, e, e0, e1, e2, e3, e4⟩ := h3 j u hu
      have key : ∀ (q : Nat) (d : Value), q < 5 → cs[j * 5 + q]? = some d → (cs ++ [c0, c1, c2, c3, c4])[j * 5 + q]? = some d := fun q d hq hd => by
        rw [List.getElem?_append_left (by omega)]; exact hd
      exact ⟨d0, d1, d2, d3, d4, e, key 0 _ (by omega) e0, key 1 _ (by omega) e1, key 2 _ (by omega) e2, key 3 _ (by omega) e3, key 4 _ (by omega) e4⟩
    · rw [List.getElem?_append_right (by omega)] at hu
      have hj' : j = vs.length := by
        have := (List.getElem?_eq_some_iff.1 hu).1
        simp at this
        omega
      subst hj'
      rw [Nat.sub_self] at hu
      cases hu
      have key : ∀ q, q < 5 → (cs ++ [c0, c1, c2, c3, c4])[vs.length * 5 + q]? = [c0, c1, c2, c3, c4][q]? := fun q hq => by
        rw [List.getElem?_append_right (by omega), show vs.length * 5 + q - cs.length = q by omega]
      exact ⟨c0, c1, c2, c3, c4, rfl, key 0 (by omega), key 1 (by omega), key 2 (by omega), key 3 (by omega), key 4 (by omega)⟩
  · by_cases hj : j < vs.length
    · rw [List.getElem?_append_left hj] at hu
      rw [List.getElem?_append_left (by omega)] at hy
      exact hmap u y (h4 j u y hu hy)
    · rw [List.getElem?_append_right (by omega)] at hu hy
      have hj' : j = vs.length := by
        have := (List.getElem?_eq_some_iff.1 hu).1
        simp at this
        omega
      subst hj'
      rw [Nat.sub_self] at hu
      rw [hvl, Nat.sub_self] at hy
      cases hu
      cases hy
      exact hmap _ _ hr
  · exact ((Below.refl B w0).alloc hB _).grown hg (by simp; omega) fun k hk => (hown.lt k hk).1
end

def FiveF (w : World) (b : Nat) (c0 c1 c2 c3 c4 : Value) : Prop := Five w b c0 c1 c2 c3 c4 ∧ w.frozen? ⟨b, 0, none⟩ = false ∧ w.frozen? ⟨b, 1, none⟩ = false ∧ w.frozen? ⟨b, 2, none⟩ = false ∧ w.frozen? ⟨b, 3, none⟩ = false ∧ w.frozen? ⟨b, 4, none⟩ = false
theorem fiveF_new (w : World) (c0 c1 c2 c3 c4 : Value) (T : TypeId) : FiveF (w.alloc (.cells #[c0, c1, c2, c3, c4] T)) w.heap.size c0 c1 c2 c3 c4 := by
  refine ⟨five_new w c0 c1 c2 c3 c4 T, ?_, ?_, ?_, ?_, ?_⟩ <;> (rw [World.frozen?_alloc_mark]; simp)
theorem FiveF.at_ {w w' : World} {b B : Nat} {c0 c1 c2 c3 c4 : Value} (h : FiveF w b c0 c1 c2 c3 c4) (hb : Below B w w') (hlt : b < B) : FiveF w' b c0 c1 c2 c3 c4 := by
  obtain ⟨⟨h0, h1, h2, h3, h4, h5⟩, f0, f1, f2, f3, f4⟩ := h
  have key : ∀ k : Nat, w'.cell? ⟨b, k, none⟩ = w.cell? ⟨b, k, none⟩ := fun k => hb.cell (p := ⟨b, k, none⟩) hlt
  have fkey : ∀ k : Nat, w'.frozen? ⟨b, k, none⟩ = w.frozen? ⟨b, k, none⟩ := fun k => hb.frozen (p := ⟨b, k, none⟩) hlt
  exact ⟨⟨Nat.lt_of_lt_of_le h0 hb.size, (key _).trans h1, (key _).trans h2, (key _).trans h3, (key _).trans h4, (key _).trans h5⟩, (fkey _).trans f0, (fkey _).trans f1, (fkey _).trans f2, (fkey _).trans f3, (fkey _).trans f4⟩
/-- Five cells stored. -/
def put5 (w : World) (b : Nat) (u0 u1 u2 u3 u4 : Value) : World := ((((w.setCell ⟨b, 0, none⟩ u0).setCell ⟨b, 1, none⟩ u1).setCell ⟨b, 2, none⟩ u2).setCell ⟨b, 3, none⟩ u3).setCell ⟨b, 4, none⟩ u4
theorem put5_five {w : World} {b : Nat} {c0 c1 c2 c3 c4 : Value} (h : FiveF w b c0 c1 c2 c3 c4) (u0 u1 u2 u3 u4 : Value) : Five (put5 w b u0 u1 u2 u3 u4) b u0 u1 u2 u3 u4 := by
  obtain ⟨⟨h0, h1, h2, h3, h4, h5⟩, _⟩ := h
  unfold put5
  refine ⟨by simpa [World.setCell] using h0, ?_, ?_, ?_, ?_, ?_⟩
  · rw [set_off _ _ _ _ _ (by decide), set_off _ _ _ _ _ (by decide), set_off _ _ _ _ _ (by decide), set_off _ _ _ _ _ (by decide)]
    exact World.cell?_setCell_same _ _ _ h1
  · rw [set_off _ _ _ _ _ (by decide), set_off _ _ _ _ _ (by decide), set_off _ _ _ _ _ (by decide)]
    exact World.cell?_setCell_same _ _ _ (by rw [set_off _ _ _ _ _ (by decide)]; exact h2)
  · rw [set_off _ _ _ _ _ (by decide), set_off _ _ _ _ _ (by decide)]
    exact World.cell?_setCell_same _ _ _ (by rw [set_off _ _ _ _ _ (by decide), set_off _ _ _ _ _ (by decide)]; exact h3)
  · rw [set_off _ _ _ _ _ (by decide)]
    exact World.cell?_setCell_same _ _ _ (by rw [set_off _ _ _ _ _ (by decide), set_off _ _ _ _ _ (by decide), set_off _ _ _ _ _ (by decide)]; exact h4)
  · exact World.cell?_setCell_same _ _ _ (by rw [set_off _ _ _ _ _ (by decide), set_off _ _ _ _ _ (by decide), set_off _ _ _ _ _ (by decide), set_off _ _ _ _ _ (by decide)]; exact h5)
theorem put5_below {B b : Nat} {w w' : World} {u0 u1 u2 u3 u4 : Value} (h : Below B w w') (hb : B ≤ b) : Below B w (put5 w' b u0 u1 u2 u3 u4) :=
  ((((h.setCell (by exact hb) _).setCell (by exact hb) _).setCell (by exact hb) _).setCell (by exact hb) _).setCell (by exact hb) _
theorem put5_cell {w : World} {b : Nat} {u0 u1 u2 u3 u4 : Value} {p : Addr} (h : p.block ≠ b) : (put5 w b u0 u1 u2 u3 u4).cell? p = w.cell? p := by
  unfold put5
  have key : ∀ (W : World) (j : Nat) (u : Value), (W.setCell ⟨b, j, none⟩ u).cell? p = W.cell? p := fun W j u => World.cell?_setCell_other _ _ _ _ (fun e => h (congrArg Addr.block e).symm)
  rw [key, key, key, key, key]
theorem put5_rxv {w : World} {b B : Nat} {u0 u1 u2 u3 u4 v : Value} {r : Rx} (h : RxV w (fun g => B ≤ g) v r) (hb : b < B) (B' : Nat) (hB : B' ≤ B) : RxV (put5 w b u0 u1 u2 u3 u4) (fun g => B' ≤ g) v r :=
  h.map (fun p hp _ => put5_cell (by omega)) fun g hg _ => Nat.le_trans hB hg

theorem infoX : (Try.prog.info? 25).map (fun i => (i.zero, i.size, i.bytes)) = some (some (.agg #[.int .i64 0, .slice none 0 0, .int .i64 0, .int .i64 0, .slice none 0 0]), 5, 72) := by kernel_rfl

/-- The other case of a letter. -/
def other (c : UInt8) : UInt8 := if 97 ≤ c.toNat ∧ c.toNat ≤ 122 then UInt8.ofNat (c.toNat - 32) else if 65 ≤ c.toNat ∧ c.toNat ≤ 90 then UInt8.ofNat (c.toNat + 32) else c
theorem other_nat (c : UInt8) : (other c).toNat = if 97 ≤ c.toNat ∧ c.toNat ≤ 122 then c.toNat - 32 else if 65 ≤ c.toNat ∧ c.toNat ≤ 90 then c.toNat + 32 else c.toNat := by
  have := c.toNat_lt
  unfold other
  split
  · simp; omega
  · split
    · simp; omega
    · rfl

set_option maxRecDepth 20000 in
theorem other49 (c : UInt8) (W : World) : Calls Try.prog 46 #[.int .u8 (c.toNat : Int)] W fun e w' => e = .returned (.int .u8 ((other c).toNat : Int)) ∧ W = w' := by
  have hc := c.toNat_lt
  have ho := other_nat c
  obtain ⟨x, hx⟩ : ∃ x, c.toNat = x := ⟨_, rfl⟩
  rw [hx] at hc ho ⊢
  clear hx
  have Ho := hide ho
  clear ho
  by_cases h1 : 97 ≤ x
  · have l1 : (97 : Int) ≤ (x : Int) := by omega
    by_cases h2 : x ≤ 122
    · have l2 : (x : Int) ≤ 122 := by omega
      have Hn := hide (show ((x : Int) - 97 + 65) = ((other c).toNat : Int) by rw [Ho.out, if_pos ⟨h1, h2⟩]; omega)
      go_enter Try.func46, Try.ntmps46
      go_wp2
      go_ret
      exact ⟨ret_int Hn.out, rfl⟩
    · have l2 : ¬ (x : Int) ≤ 122 := by omega
      have l3 : (65 : Int) ≤ (x : Int) := by omega
      have l4 : ¬ (x : Int) ≤ 90 := by omega
      have Hn := hide (show (x : Int) = ((other c).toNat : Int) by rw [Ho.out, if_neg (by omega), if_neg (by omega)])
      go_enter Try.func46, Try.ntmps46
      go_wp2
      go_ret
      exact ⟨ret_int Hn.out, rfl⟩
  · have l1 : ¬ (97 : Int) ≤ (x : Int) := by omega
    by_cases h3 : 65 ≤ x
    · have l3 : (65 : Int) ≤ (x : Int) := by omega
      by_cases h4 : x ≤ 90
      · have l4 : (x : Int) ≤ 90 := by omega
        have Hn := hide (show ((x : Int) - 65 + 97) = ((other c).toNat : Int) by rw [Ho.out, if_neg (by omega), if_pos ⟨h3, h4⟩]; omega)
        go_enter Try.func46, Try.ntmps46
        go_wp2
        go_ret
        exact ⟨ret_int Hn.out, rfl⟩
      · have l4 : ¬ (x : Int) ≤ 90 := by omega
        have Hn := hide (show (x : Int) = ((other c).toNat : Int) by rw [Ho.out, if_neg (by omega), if_neg (by omega)])
        go_enter Try.func46, Try.ntmps46
        go_wp2
        go_ret
        exact ⟨ret_int Hn.out, rfl⟩
    · have l3 : ¬ (65 : Int) ≤ (x : Int) := by omega
      have Hn := hide (show (x : Int) = ((other c).toNat : Int) by rw [Ho.out, if_neg (by omega), if_neg (by omega)])
      go_enter Try.func46, Try.ntmps46
      go_wp2
      go_ret
      exact ⟨ret_int Hn.out, rfl⟩

end Go.Proofs.Ytlnbjdlooghpeaa
