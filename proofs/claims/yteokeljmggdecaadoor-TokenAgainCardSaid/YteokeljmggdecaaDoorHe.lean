/- Tokens in memory: boxes, rows of the call's own, slices that came in; no function of a program. -/
import Derived.Test.YteokeljmggdecaaDoorMm
import Derived.Test.YteokeljmggdecaaDoorProg
namespace Go.Proofs.YteokeljmggdecaaDoor
open Go.RowKit
open Go.ChangeShapes (block_add)

/-! ### strings as lists of bytes -/
def bs (l : List UInt8) : ByteArray := ⟨l.toArray⟩
theorem bs_list (l : List UInt8) : (bs l).data.toList = l := by simp [bs]
theorem bs_size (l : List UInt8) : (bs l).size = l.length := by show l.toArray.size = _; simp
theorem bs_app (a b : List UInt8) : bs a ++ bs b = bs (a ++ b) := by
  refine ba_ext ?_
  rw [ByteArray.toList_data_append, bs_list, bs_list, bs_list]
theorem bs_self (s : ByteArray) : bs s.data.toList = s := ba_ext (bs_list _)
theorem bs_nil : bs [] = ⟨#[]⟩ := rfl
theorem bs_inj {a b : List UInt8} (h : bs a = bs b) : a = b := by rw [← bs_list a, h, bs_list]
theorem bs_drop (s : ByteArray) (k : Nat) : s.extract k s.size = bs (s.data.toList.drop k) := by
  refine ba_ext ?_
  rw [toList_extract_end, bs_list]
theorem bs_take (s : ByteArray) (k : Nat) : s.extract 0 k = bs (s.data.toList.take k) := by
  refine ba_ext ?_
  rw [toList_extract0, bs_list]

/-! ### tokens -/
def tkV (t : Tk) : Value := .agg #[.int .i64 t.kind, .string (bs t.text), .int .i64 t.at_, .int .i64 t.en]
def tkCells (l : List Tk) : List Value := l.flatMap fun t => [.int .i64 t.kind, .string (bs t.text), .int .i64 t.at_, .int .i64 t.en]
theorem tkCells_len (l : List Tk) : (tkCells l).length = l.length * 4 := by
  induction l with
  | nil => rfl
  | cons r l ih =>
    unfold tkCells at ih ⊢
    rw [List.flatMap_cons, List.length_append, ih, List.length_cons]
    simp
    omega
theorem tkCells_app (a b : List Tk) : tkCells (a ++ b) = tkCells a ++ tkCells b := by simp [tkCells]
theorem tkCells_get (l : List Tk) (i : Nat) (t : Tk) (h : l[i]? = some t) :
    (tkCells l)[i * 4]? = some (.int .i64 t.kind) ∧ (tkCells l)[i * 4 + 1]? = some (.string (bs t.text)) ∧ (tkCells l)[i * 4 + 2]? = some (.int .i64 t.at_) ∧ (tkCells l)[i * 4 + 3]? = some (.int .i64 t.en) := by
  induction l generalizing i with
  | nil => simp at h
  | cons x l ih =>
    have e : tkCells (x :: l) = .int .i64 x.kind :: .string (bs x.text) :: .int .i64 x.at_ :: .int .i64 x.en :: tkCells l := rfl
    rw [e]
    cases i with
    | zero =>
      simp at h
      subst h
      exact ⟨rfl, rfl, rfl, rfl⟩
    | succ i =>
      simp at h
      have := ih i h
      rw [show (i + 1) * 4 = i * 4 + 1 + 1 + 1 + 1 by omega, show i * 4 + 1 + 1 + 1 + 1 + 1 = (i * 4 + 1) + 1 + 1 + 1 + 1 by omega, show i * 4 + 1 + 1 + 1 + 1 + 2 = (i * 4 + 2) + 1 + 1 + 1 + 1 by omega, show i * 4 + 1 + 1 + 1 + 1 + 3 = (i * 4 + 3) + 1 + 1 + 1 + 1 by omega]
      exact this

/-- The slice at A of n tokens is l. -/
def TkS (W : World) (A : Option Addr) (n c : Nat) (l : List Tk) : Prop :=
  n ≤ c ∧ c ≤ 9223372036854775807 ∧ l.length = n ∧ ∀ i t, l[i]? = some t → ∃ g o, A = some ⟨g, o, none⟩ ∧ W.cell? ⟨g, o + i * 4, none⟩ = some (.int .i64 t.kind) ∧ W.cell? ⟨g, o + i * 4 + 1, none⟩ = some (.string (bs t.text)) ∧
    W.cell? ⟨g, o + i * 4 + 2, none⟩ = some (.int .i64 t.at_) ∧ W.cell? ⟨g, o + i * 4 + 3, none⟩ = some (.int .i64 t.en)
theorem TkS.below {W W' : World} {A : Option Addr} {n c : Nat} {l : List Tk} (h : TkS W A n c l) (hb : Below W.heap.size W W') : TkS W' A n c l := by
  refine ⟨h.1, h.2.1, h.2.2.1, fun i t ht => ?_⟩
  obtain ⟨g, o, hA, h0, h1, h2, h3⟩ := h.2.2.2 i t ht
  have key : ∀ (k : Nat) (u : Value), W.cell? ⟨g, k, none⟩ = some u → W'.cell? ⟨g, k, none⟩ = some u := fun k u hu => (hb.cell (World.block_lt_of_cell? _ _ hu)).trans hu
  exact ⟨g, o, hA, key _ _ h0, key _ _ h1, key _ _ h2, key _ _ h3⟩
theorem TkS.drewN {W : World} {A : Option Addr} {n c : Nat} {l : List Tk} (h : TkS W A n c l) (k : Nat) : TkS (W.drewN k) A n c l := h.below (Drawn.below ⟨k, rfl⟩ _)
theorem TkS.at_ {W : World} {A : Option Addr} {n c : Nat} {l : List Tk} (h : TkS W A n c l) {k : Nat} (hk : k < n) :
    ∃ g o t, A = some ⟨g, o, none⟩ ∧ l[k]? = some t ∧ W.cell? ⟨g, o + k * 4, none⟩ = some (.int .i64 t.kind) ∧ W.cell? ⟨g, o + k * 4 + 1, none⟩ = some (.string (bs t.text)) ∧
    W.cell? ⟨g, o + k * 4 + 2, none⟩ = some (.int .i64 t.at_) ∧ W.cell? ⟨g, o + k * 4 + 3, none⟩ = some (.int .i64 t.en) := by
  have hl : k < l.length := by rw [h.2.2.1]; exact hk
  obtain ⟨g, o, hA, h0⟩ := h.2.2.2 k _ (List.getElem?_eq_getElem hl)
  exact ⟨g, o, l[k], hA, List.getElem?_eq_getElem hl, h0⟩
theorem TkS.nil (W : World) : TkS W none 0 0 [] := ⟨Nat.le_refl _, by omega, rfl, fun i t h => by simp at h⟩

/-- v is a row of the call's own of the tokens. -/
def OwnT (W : World) (B : Nat) (v : Value) (l : List Tk) : Prop := W.ownsRow B 33 4 v l.length (tkCells l)
theorem OwnT.nil (W : World) (B : Nat) : OwnT W B (.slice none 0 0) [] := World.ownsRow_nil _ _ _ _
theorem OwnT.below {W W' : World} {B : Nat} {v : Value} {l : List Tk} (h : OwnT W B v l) (hb : Below W.heap.size W W') : OwnT W' B v l := owns_below' h hb
theorem OwnT.mono {W : World} {B B' : Nat} {v : Value} {l : List Tk} (h : OwnT W B v l) (hb : B' ≤ B) : OwnT W B' v l := owns_mono h hb
theorem OwnT.s {W : World} {B : Nat} {v : Value} {l : List Tk} (h : OwnT W B v l) : ∃ A n c, v = .slice A n c ∧ n = l.length ∧ TkS W A n c l := by
  have h' : W.ownsRow B 33 4 v l.length (tkCells l) := h
  have h1' := h'
  rcases h1'.2 with ⟨rfl, h0⟩ | ⟨g, cap, cur, rfl, hb, hg, hc, hm, r⟩
  · obtain rfl : l = [] := List.eq_nil_of_length_eq_zero h0
    exact ⟨none, 0, 0, rfl, rfl, TkS.nil W⟩
  · refine ⟨_, l.length, cap, rfl, rfl, hc, by unfold maxLen at hm; omega, rfl, fun i x hx => ?_⟩
    have hi := (List.getElem?_eq_some_iff.1 hx).1
    obtain ⟨e0, e1, e2, e3⟩ := tkCells_get l i x hx
    refine ⟨g, 0, rfl, ?_, ?_, ?_, ?_⟩
    · rw [Nat.zero_add, h'.cellAt (i * 4) (by omega)]; exact e0
    · rw [Nat.zero_add, h'.cellAt (i * 4 + 1) (by omega)]; exact e1
    · rw [Nat.zero_add, h'.cellAt (i * 4 + 2) (by omega)]; exact e2
    · rw [Nat.zero_add, h'.cellAt (i * 4 + 3) (by omega)]; exact e3
theorem infoTk : (Tryd.prog.info? 33).map (fun i => (i.zero, i.size, i.bytes)) = some (some (.agg #[.int .i64 0, .string ⟨#[]⟩, .int .i64 0, .int .i64 0]), 4, 40) := by kernel_rfl

theorem c1_four (w : World) (x y z u : Value) (T : TypeId) : ∀ (j : Nat) (v : Value), [x, y, z, u][j]? = some v → (w.alloc (.cells #[x, y, z, u] T)).cell? ((⟨w.heap.size, 0, none⟩ : Addr).add j) = some v := by
  intro j v h
  match j, h with
  | 0, h => simp at h; subst h; rw [addr0, World.cell?_alloc_mark]; rfl
  | 1, h => simp at h; subst h; rw [addr0, World.cell?_alloc_mark]; rfl
  | 2, h => simp at h; subst h; rw [addr0, World.cell?_alloc_mark]; rfl
  | 3, h => simp at h; subst h; rw [addr0, World.cell?_alloc_mark]; rfl
section
variable {P : Program} {ops : Array Oper} {rest : List Oper} {o : Oper} {a : Act} {Q : Exit → Act → World → Prop}
/-- l = append(l, t), l a row of the call's own -/
theorem wp_push_tk (hgd : o.guard = none) (s x : Operand) (t : TypeId) (ho : o.op = .call { callee := .builtin .append, args := #[s, x], argTypes := #[t, t] })
    (i : TypeInfo) (z : Value) (bytes : Nat) (ht : P.underlying t = some (.slice 33)) (hi : P.info? 33 = some i) (hz : i.zero = some z) (hsize : i.size = 4) (hby : i.bytes = bytes) (hzs : z.cells.size = 4)
    (B : Nat) (v : Value) (l : List Tk) (hs : a.eval s = v) (w0 : World) (r : Tk) (c0 c1 c2 c3 : Value) (h0 : c0 = .int .i64 r.kind) (h1 : c1 = .string (bs r.text)) (h2 : c2 = .int .i64 r.at_) (h3 : c3 = .int .i64 r.en) (hown : OwnT w0 B v l) (hB : B ≤ w0.heap.size) (H : Nat) (hH : H = w0.heap.size)
    (hx : a.eval x = .slice (some ⟨H, 0, none⟩) 1 1) (hlen : (l.length + 1) * bytes ≤ 140737488355328) (h63 : l.length + 1 ≤ maxLen) (T : TypeId)
    (h : ∀ v' w', OwnT w' B v' (l ++ [r]) → Below B w0 w' → Far w0 w' v v' → wpList P ops Q rest (a.put o.dst v') w') : wpList P ops Q (o :: rest) a (w0.alloc (.cells #[c0, c1, c2, c3] T)) := by
  subst hH h0 h1 h2 h3
  have hone : ∀ u ∈ [Value.int .i64 r.kind, .string (bs r.text), .int .i64 r.at_, .int .i64 r.en], u.oneCell' = true := by
    intro u hu
    simp at hu
    rcases hu with rfl | rfl | rfl | rfl <;> rfl
  refine wpList_append_own_at _ hgd s x t ho B 33 i z 4 bytes ht hi hz hsize hby hzs (by decide) v l.length (tkCells l) hs (World.ownsRow.alloc hown _) ⟨w0.heap.size, 0, none⟩ 1 1 [.int .i64 r.kind, .string (bs r.text), .int .i64 r.at_, .int .i64 r.en] hx rfl (c1_four _ _ _ _ _ _) hone h63 hlen (by simp; omega) ?_
  intro v' w' hown' hg _ hat
  refine h v' w' ?_ (((Below.refl B w0).alloc hB _).grown hg (by simp; omega) fun k hk => (World.ownsRow.lt hown k hk).1) ⟨by have := hg.size; simp at this; omega, fun g hlt hne => ⟨?_, ?_⟩⟩
  · unfold OwnT
    rw [List.length_append, tkCells_app]
    exact hown'
  · exact (hg.block g (by simp; omega) (fun e => hne e.symm)).trans (((Below.refl w0.heap.size w0).alloc (Nat.le_refl _) _).block g hlt)
  · rcases hat with hat | hat
    · rw [hat]; exact hne
    · rw [hat]; intro e; injection e with e; simp at e; omega
end

/-! ### boxes of four cells -/
/-- Block b holds the four cells. -/
def Four (w : World) (b : Nat) (c0 c1 c2 c3 : Value) : Prop :=
  b < w.heap.size ∧ w.cell? ⟨b, 0, none⟩ = some c0 ∧ w.cell? ⟨b, 1, none⟩ = some c1 ∧ w.cell? ⟨b, 2, none⟩ = some c2 ∧ w.cell? ⟨b, 3, none⟩ = some c3
theorem four_new (w : World) (c0 c1 c2 c3 : Value) (T : TypeId) : Four (w.alloc (.cells #[c0, c1, c2, c3] T)) w.heap.size c0 c1 c2 c3 := by
  refine ⟨by simp, ?_, ?_, ?_, ?_⟩ <;> (rw [World.cell?_alloc_mark]; rfl)
theorem Four.keep {w w' : World} {b : Nat} {c0 c1 c2 c3 : Value} (h : Four w b c0 c1 c2 c3) (hb : Below w.heap.size w w') : Four w' b c0 c1 c2 c3 := by
  obtain ⟨h0, h1, h2, h3, h4⟩ := h
  have key : ∀ (k : Nat) (u : Value), w.cell? ⟨b, k, none⟩ = some u → w'.cell? ⟨b, k, none⟩ = some u := fun k u hu => (hb.cell (p := ⟨b, k, none⟩) h0).trans hu
  exact ⟨Nat.lt_of_lt_of_le h0 hb.size, key _ _ h1, key _ _ h2, key _ _ h3, key _ _ h4⟩
theorem Four.at_ {w w' : World} {b B : Nat} {c0 c1 c2 c3 : Value} (h : Four w b c0 c1 c2 c3) (hb : Below B w w') (hlt : b < B) : Four w' b c0 c1 c2 c3 := by
  obtain ⟨h0, h1, h2, h3, h4⟩ := h
  have key : ∀ k : Nat, w'.cell? ⟨b, k, none⟩ = w.cell? ⟨b, k, none⟩ := fun k => hb.cell (p := ⟨b, k, none⟩) hlt
  exact ⟨Nat.lt_of_lt_of_le h0 hb.size, (key _).trans h1, (key _).trans h2, (key _).trans h3, (key _).trans h4⟩
theorem Four.far {w w' : World} {b : Nat} {c0 c1 c2 c3 v v' : Value} (h : Four w b c0 c1 c2 c3) (hf : Far w w' v v') (hne : v.ownBlock ≠ some b) : Four w' b c0 c1 c2 c3 := by
  obtain ⟨h0, h1, h2, h3, h4⟩ := h
  have hb := (hf.2 b h0 hne).1
  have key : ∀ k : Nat, w'.cell? ⟨b, k, none⟩ = w.cell? ⟨b, k, none⟩ := fun k => World.cell?_of_block (w := w) (a := ⟨b, k, none⟩) hb
  exact ⟨Nat.lt_of_lt_of_le h0 hf.1, (key _).trans h1, (key _).trans h2, (key _).trans h3, (key _).trans h4⟩
def FreeF (w : World) (b : Nat) : Prop := w.frozen? ⟨b, 0, none⟩ = false ∧ w.frozen? ⟨b, 1, none⟩ = false ∧ w.frozen? ⟨b, 2, none⟩ = false ∧ w.frozen? ⟨b, 3, none⟩ = false
theorem freeF_new (w : World) (c0 c1 c2 c3 : Value) (T : TypeId) : FreeF (w.alloc (.cells #[c0, c1, c2, c3] T)) w.heap.size := by
  refine ⟨?_, ?_, ?_, ?_⟩ <;> (rw [World.frozen?_alloc_mark]; simp)
theorem FreeF.at_ {w w' : World} {b B : Nat} (h : FreeF w b) (hb : Below B w w') (hlt : b < B) : FreeF w' b := by
  have key : ∀ k : Nat, w'.frozen? ⟨b, k, none⟩ = w.frozen? ⟨b, k, none⟩ := fun k => hb.frozen (p := ⟨b, k, none⟩) hlt
  exact ⟨(key 0).trans h.1, (key 1).trans h.2.1, (key 2).trans h.2.2.1, (key 3).trans h.2.2.2⟩

/-! ### bytes -/
theorem u8_eq {c : UInt8} {n : Nat} (hn : n < 256) : ((c.toNat : Int) == (n : Int)) = decide (c = UInt8.ofNat n) := by
  by_cases h : c = UInt8.ofNat n
  · subst h
    rw [decide_eq_true rfl, beq_iff_eq]
    simp
    omega
  · rw [decide_eq_false h, beq_eq_false_iff_ne]
    intro e
    apply h
    have e : c.toNat = n := by omega
    rw [← e]
    simp
theorem byte_lt (c : UInt8) : c.toNat < 256 := c.toNat_lt
end Go.Proofs.YteokeljmggdecaaDoor
