/- Memory of a seat (Mem.lean without encodings), no function of a program. -/
import Derived.Test.YteokeljmggdecaaDoorBs
import Derived.Test.YteokeljmggdecaaDoorHd
import Derived.Lib.UnsafeStr
import Derived.Lib.AppendStr
import Derived.Lib.Hide
import Derived.Maps.AppendAt
import Derived.Deep.AppendLies
import Derived.ArgAppend
import Derived.Laws.BytesArg
import Derived.Laws.AppendOwnNone
import Derived.Deep.Draws
import Derived.Deep.Slices
import Derived.Lib.SmallJoins
namespace Go.Proofs.YteokeljmggdecaaDoor
open Go.RowKit
open Go.Lib (byteCells strCells)
open Go.ChangeShapes (block_add)
open Go.Deep (add_add)

/-- The slice at A of n elements, of a cell each, is the list xs, and lies in blocks below B. -/
def Reads (w : World) (B : Nat) (A : Option Addr) (n : Nat) (xs : List Value) : Prop :=
  xs.length = n ∧ ∀ k u, xs[k]? = some u → ∃ ad, A = some ad ∧ ad.block < B ∧ w.cell? (ad.add k) = some u

section
variable {w w' : World} {B B' n : Nat} {A : Option Addr} {xs : List Value}
theorem Reads.nil : Reads w B A 0 [] := ⟨rfl, fun k u h => by simp at h⟩
theorem Reads.at_ {k : Nat} (h : Reads w B A n xs) (hk : k < n) : ∃ ad u, A = some ad ∧ ad.block < B ∧ xs[k]? = some u ∧ w.cell? (ad.add k) = some u := by
  have hx : xs[k]? = some (xs[k]'(by rw [h.1]; exact hk)) := List.getElem?_eq_getElem _
  obtain ⟨ad, h1, h2, h3⟩ := h.2 k _ hx
  exact ⟨ad, _, h1, h2, hx, h3⟩
theorem Reads.map {P : Addr → Prop} (h : Reads w B A n xs) (hP : ∀ p, p.block < B → P p) (hk : ∀ p, P p → w'.cell? p = w.cell? p) (hB : B ≤ B') : Reads w' B' A n xs := by
  refine ⟨h.1, fun k u hu => ?_⟩
  obtain ⟨ad, h1, h2, h3⟩ := h.2 k u hu
  refine ⟨ad, h1, Nat.lt_of_lt_of_le h2 hB, ?_⟩
  rw [hk _ (hP _ (by rw [block_add]; exact h2))]
  exact h3
theorem Reads.keep (h : Reads w B A n xs) (hk : ∀ p : Addr, p.block < B → w'.cell? p = w.cell? p) : Reads w' B A n xs := h.map (fun _ hp => hp) hk (Nat.le_refl B)
theorem Reads.more (h : Reads w B A n xs) (hB : B ≤ B') : Reads w B' A n xs := h.map (fun _ hp => hp) (fun _ _ => rfl) hB
theorem Reads.below (h : Reads w B A n xs) (hb : Below B w w') : Reads w' B A n xs := h.keep fun _ hp => hb.cell hp
/-- b[k:], at an address that stays where the capacity ends. -/
theorem Reads.cut (h : Reads w B A n xs) {k cap : Nat} (hk : k ≤ n) (hc : n ≤ cap) : Reads w B (if cap = k then A else A.map (·.add k)) (n - k) (xs.drop k) := by
  refine ⟨by rw [List.length_drop, h.1], fun j u hu => ?_⟩
  rw [List.getElem?_drop] at hu
  have hj : k + j < n := by rw [← h.1]; exact (List.getElem?_eq_some_iff.1 hu).1
  obtain ⟨ad, rfl, h2, h3⟩ := h.2 (k + j) u hu
  rw [if_neg (by omega : ¬ cap = k)]
  exact ⟨ad.add k, rfl, by rw [block_add]; exact h2, by rw [add_add]; exact h3⟩
/-- b[:k] -/
theorem Reads.take (h : Reads w B A n xs) {k : Nat} (hk : k ≤ n) : Reads w B A k (xs.take k) := by
  refine ⟨by rw [List.length_take, h.1, Nat.min_eq_left hk], fun j u hu => h.2 j u ?_⟩
  rw [List.getElem?_take] at hu
  by_cases hj : j < k
  · rw [if_pos hj] at hu; exact hu
  · rw [if_neg hj] at hu; cases hu
theorem Reads.of_own {base : Nat} {e : TypeId} {c : Nat} (h : w.ownsRow base e 1 (.slice A n c) n xs) : Reads w w.heap.size A n xs := by
  refine ⟨by rw [h.1, Nat.mul_one], fun k u hu => ?_⟩
  have hk : k < n := by rw [← Nat.mul_one n, ← h.1]; exact (List.getElem?_eq_some_iff.1 hu).1
  obtain ⟨g, cap, hv, _, hlt⟩ := h.form (by omega)
  simp only [Value.slice.injEq] at hv
  obtain ⟨rfl, _⟩ := hv
  exact ⟨_, rfl, hlt, h.cells (g := g) rfl k u hu⟩
end

theorem bytes_size (l : List UInt8) : (byteCells l).length = l.length := by simp [byteCells]
theorem bytes_get (l : List UInt8) (k : Nat) (u : Value) (h : (byteCells l)[k]? = some u) : ∃ b, l[k]? = some b ∧ u = .int .u8 (b.toNat : Int) := by
  unfold byteCells at h
  rw [List.getElem?_map] at h
  cases hl : l[k]? with
  | none => rw [hl] at h; simp at h
  | some a => rw [hl] at h; simp at h; exact ⟨a, rfl, h.symm⟩

/-- A byte of a slice. -/
theorem Reads.byte {w : World} {B n : Nat} {A : Option Addr} {l : List UInt8} (h : Reads w B A n (byteCells l)) {k : Nat} (hk : k < n) :
    ∃ ad b, A = some ad ∧ l[k]? = some b ∧ w.cell? (ad.add k) = some (.int .u8 (b.toNat : Int)) := by
  obtain ⟨ad, u, hA, _, hu, hc⟩ := h.at_ hk
  obtain ⟨b, hb, rfl⟩ := bytes_get l k u hu
  exact ⟨ad, b, hA, hb, hc⟩

/-- string(b) -/
theorem conv_run {P : Program} {w : World} {B n c : Nat} {A : Option Addr} {l : List UInt8} (h : Reads w B A n (byteCells l)) (src dst e : TypeId) (hs : P.underlying src = some (.slice e)) (he : P.underlying e = some (.int .u8)) (hd : P.underlying dst = some .string) (hA : A = none → n = 0) :
    (convert src dst (.slice A n c)).run P w = .ok (.string ⟨l.toArray⟩) w := by
  rw [run_convert_bytes_string w src dst e _ n c hs he hd]
  have hlen : l.length = n := by rw [← bytes_size]; exact h.1
  cases A with
  | none =>
    have : n = 0 := hA rfl
    subst this
    obtain rfl : l = [] := List.eq_nil_of_length_eq_zero hlen
    simp [Conv.bytesToString]
    rfl
  | some a =>
    have hl : (loadCells a n).run P w = .ok ((l.map fun b : UInt8 => (b.toNat : Int)).map (Value.int .u8)).toArray w := by
      have := run_loadCells_list (P := P) w a ((l.map fun b : UInt8 => (b.toNat : Int)).map (Value.int .u8)) (fun j v hj => by
        have hjn : j < n := by
          rcases Nat.lt_or_ge j n with h | h
          · exact h
          · rw [List.getElem?_eq_none (by simp; omega)] at hj; cases hj
        obtain ⟨ad, b, hA, hb, hc⟩ := h.byte hjn
        cases hA
        rw [hc, ← hj]
        simp [hb])
      simpa [hlen] using this
    rw [run_bytesToString w a n c _ hl, foldl_push_bytes]
    congr 2
    apply ba_ext
    have e1 : List.map ((fun n : Int => UInt8.ofNat n.toNat) ∘ fun b : UInt8 => (b.toNat : Int)) l = l := by
      conv => rhs; rw [← List.map_id l]
      exact List.map_congr_left fun x _ => by simp
    simp [ByteArray.empty, ByteArray.emptyWithCapacity]
    rw [e1]
    rfl

/-- v owns the cells xs in blocks from B on. -/
def Own (w : World) (B : Nat) (e : TypeId) (v : Value) (xs : List Value) : Prop := w.ownsRow B e 1 v xs.length xs

/-- What an append grows: a row of the call's own, or a slice without room. -/
def Src (w : World) (B : Nat) (e : TypeId) (v : Value) (xs : List Value) : Prop :=
  Own w B e v xs ∨ ∃ A, v = .slice A xs.length xs.length ∧ (A = none → xs.length = 0) ∧ Reads w w.heap.size A xs.length xs

theorem Own.src {w : World} {B : Nat} {e : TypeId} {v : Value} {xs : List Value} (h : Own w B e v xs) : Src w B e v xs := Or.inl h

theorem owns_below' {w w' : World} {B e : Nat} {sz n : Nat} {v : Value} {xs : List Value} (h : w.ownsRow B e sz v n xs) (hb : Below w.heap.size w w') : w'.ownsRow B e sz v n xs := by
  obtain ⟨h1, h2⟩ := h
  refine ⟨h1, ?_⟩
  rcases h2 with h2 | ⟨g, cap, cur, hv, hg, hh, r⟩
  · exact Or.inl h2
  · exact Or.inr ⟨g, cap, cur, hv, hg, (hb.block g (lt_of_block hh)).trans hh, r⟩
theorem Own.below {w w' : World} {B : Nat} {e : TypeId} {v : Value} {xs : List Value} (h : Own w B e v xs) (hb : Below w.heap.size w w') : Own w' B e v xs := owns_below' h hb
theorem Own.mono {w : World} {B B' : Nat} {e : TypeId} {v : Value} {xs : List Value} (h : Own w B e v xs) (hb : B' ≤ B) : Own w B' e v xs := owns_mono h hb

section
variable {P : Program} {ops : Array Oper} {rest : List Oper} {o : Oper} {a : Act} {Q : Exit → Act → World → Prop}
/-- b = append(b, c) -/
theorem wp_push (hgd : o.guard = none) (s x : Operand) (t : TypeId) (ho : o.op = .call { callee := .builtin .append, args := #[s, x], argTypes := #[t, t] })
    (e : TypeId) (i : TypeInfo) (z : Value) (bytes : Nat) (ht : P.underlying t = some (.slice e)) (hi : P.info? e = some i) (hz : i.zero = some z) (hsize : i.size = 1) (hby : i.bytes = bytes) (hzs : z.cells.size = 1)
    (B : Nat) (v : Value) (xs : List Value) (hs : a.eval s = v) (w0 : World) (c : Value) (hc : c.oneCell' = true) (hsrc : Src w0 B e v xs) (hB : B ≤ w0.heap.size) (H : Nat) (hH : H = w0.heap.size)
    (hx : a.eval x = .slice (some ⟨H, 0, none⟩) 1 1) (hlen : (xs.length + 1) * bytes ≤ 140737488355328) (h63 : xs.length + 1 ≤ maxLen)
    (h : ∀ v' w', Own w' B e v' (xs ++ [c]) → Below B w0 w' → wpList P ops Q rest (a.put o.dst v') w') : wpList P ops Q (o :: rest) a (w0.alloc (.cells #[c] e)) := by
  subst hH
  have hsz : w0.heap.size ≤ (w0.alloc (.cells #[c] e)).heap.size := by simp
  have hone : ∀ u ∈ [c], u.oneCell' = true := by intro u hu; simp at hu; subst hu; exact hc
  have hl1 : (xs ++ [c]).length = xs.length + 1 := by simp
  rcases hsrc with hown | ⟨A, rfl, hA, hr⟩
  · refine wpList_append_own _ hgd s x t ho B e i z 1 bytes ht hi hz hsize hby hzs (by decide) v xs.length xs hs (hown.alloc _) ⟨w0.heap.size, 0, none⟩ 1 1 [c] hx rfl (c1_one _ _ _) hone h63 hlen (by omega) ?_
    intro v' w' hown' hg _
    refine h v' w' (by unfold Own; rw [hl1]; exact hown') ?_
    exact ((Below.refl B w0).alloc hB _).grown hg (by omega) fun k hk => (hown.lt k hk).1
  · have hr' : Reads (w0.alloc (.cells #[c] e)) w0.heap.size A xs.length xs := hr.keep fun p hp => World.cell?_alloc_lt w0 _ p hp
    refine wpList_append_grows _ hgd s x t ho e i z 1 bytes ht hi hz hsize hby hzs (by decide) A xs.length xs.length xs hs (fun e0 => ⟨hA e0, hA e0⟩) (by simp) (fun b hb j u hu => ?_) ⟨w0.heap.size, 0, none⟩ 1 1 [c] hx rfl (c1_one _ _ _) hone (by omega) h63 hlen ?_
    · obtain ⟨ad, hA', _, hcell⟩ := hr'.2 j u hu
      rw [hb] at hA'
      cases hA'
      exact hcell
    · intro v' w' hown' hg
      refine h v' w' (by unfold Own; rw [hl1]; exact owns_mono hown' (by omega)) ?_
      exact ((Below.refl B w0).alloc hB _).grown hg (by omega) fun k hk => by cases hk
end

/-- What is grown by the encoding of a number. -/
def Grew (w : World) (B : Nat) (l : List UInt8) (e : Ending) (w' : World) : Prop := ∃ v', e = .returned v' ∧ Own w' B 5 v' (byteCells l) ∧ Below B w w'

/-- A slice of one-cell elements that reads as xs. -/
def Sl (w : World) (A : Option Addr) (n c : Nat) (xs : List Value) : Prop := n ≤ c ∧ c ≤ 9223372036854775807 ∧ (A = none → c = 0) ∧ Reads w w.heap.size A n xs

theorem Sl.below {w w' : World} {A : Option Addr} {n c : Nat} {xs : List Value} (h : Sl w A n c xs) (hb : Below w.heap.size w w') : Sl w' A n c xs :=
  ⟨h.1, h.2.1, h.2.2.1, (h.2.2.2.below hb).more hb.size⟩
theorem Sl.len {w : World} {A : Option Addr} {n c : Nat} {l : List UInt8} (h : Sl w A n c (byteCells l)) : l.length = n := by rw [← bytes_size]; exact h.2.2.2.1
theorem Sl.nil (w : World) : Sl w none 0 0 [] := ⟨Nat.le_refl _, by omega, fun _ => rfl, Reads.nil⟩
theorem Sl.src {w : World} {A : Option Addr} {n : Nat} {c : Nat} {xs : List Value} (h : Sl w A n c xs) (B : Nat) (e : TypeId) : Src w B e (.slice A n n) xs := by
  have hn : xs.length = n := h.2.2.2.1
  subst hn
  exact Or.inr ⟨A, rfl, fun e => by have := h.2.2.1 e; have := h.1; omega, h.2.2.2⟩
theorem Own.sl {w : World} {B : Nat} {e : TypeId} {v : Value} {xs : List Value} (h : Own w B e v xs) : ∃ A c, v = .slice A xs.length c ∧ Sl w A xs.length c xs := by
  have h' := h
  rcases h'.2 with ⟨rfl, h0⟩ | ⟨g, cap, cur, rfl, hb, hg, hc, hm, r⟩
  · obtain rfl : xs = [] := List.eq_nil_of_length_eq_zero h0
    exact ⟨none, 0, rfl, Sl.nil w⟩
  · exact ⟨_, cap, rfl, hc, by unfold maxLen at hm; omega, fun e => (by cases e), Reads.of_own h⟩
theorem Grew.sl {w w' : World} {B : Nat} {l : List UInt8} {e : Ending} (h : Grew w B l e w') : ∃ A c, e = .returned (.slice A l.length c) ∧ Sl w' A l.length c (byteCells l) ∧ Own w' B 5 (.slice A l.length c) (byteCells l) ∧ Below B w w' := by
  obtain ⟨v, rfl, ho, hb⟩ := h
  obtain ⟨A, c, rfl, hs⟩ := ho.sl
  rw [bytes_size] at hs ho ⊢
  exact ⟨A, c, rfl, hs, ho, hb⟩

theorem str_cells (s : ByteArray) : strCells s = byteCells s.data.toList := rfl

theorem take_snoc' (l : List UInt8) (k : Nat) (b : UInt8) (h : l[k]? = some b) : byteCells (l.take (k + 1)) = byteCells (l.take k) ++ [.int .u8 (b.toNat : Int)] := by
  have hk := (List.getElem?_eq_some_iff.1 h).1
  rw [List.take_succ_eq_append_getElem hk, Go.Lib.byteCells_append, (List.getElem?_eq_some_iff.1 h).2]
  rfl

theorem Sl.reads {w : World} {A : Option Addr} {n c : Nat} {xs : List Value} (h : Sl w A n c xs) : Reads w w.heap.size A n xs := h.2.2.2

theorem bytes_one (l : List UInt8) : ∀ u ∈ byteCells l, u.oneCell' = true := by
  intro u hu
  unfold byteCells at hu
  obtain ⟨b, _, rfl⟩ := List.mem_map.1 hu
  rfl

section
variable {P : Program} {ops : Array Oper} {rest : List Oper} {o : Oper} {a : Act} {Q : Exit → Act → World → Prop}
/-- b = append(b, c...) -/
theorem wp_join (hgd : o.guard = none) (s x : Operand) (t : TypeId) (ho : o.op = .call { callee := .builtin .append, args := #[s, x], argTypes := #[t, t] })
    (e : TypeId) (i : TypeInfo) (z : Value) (bytes : Nat) (ht : P.underlying t = some (.slice e)) (hi : P.info? e = some i) (hz : i.zero = some z) (hsize : i.size = 1) (hby : i.bytes = bytes) (hzs : z.cells.size = 1)
    (B : Nat) (v : Value) (xs : List Value) (hs : a.eval s = v) (w : World) (hown : Own w B e v xs) (hB : B ≤ w.heap.size)
    (A : Option Addr) (n c : Nat) (ys : List Value) (hx : a.eval x = .slice A n c) (hsl : Sl w A n c ys) (hone : ∀ u ∈ ys, u.oneCell' = true) (hlen : (xs.length + n) * bytes ≤ 140737488355328) (h63 : xs.length + n ≤ maxLen)
    (h : ∀ v' w', Own w' B e v' (xs ++ ys) → Below B w w' → wpList P ops Q rest (a.put o.dst v') w') : wpList P ops Q (o :: rest) a w := by
  obtain ⟨hnc, hc, hA, hr⟩ := hsl
  have hyl : ys.length = n := hr.1
  have hl1 : (xs ++ ys).length = xs.length + n := by rw [List.length_append, hyl]
  cases A with
  | none =>
    have hc0 := hA rfl
    have hn0 : n = 0 := by omega
    subst hc0 hn0
    obtain rfl : ys = [] := List.eq_nil_of_length_eq_zero hyl
    refine wpList_append_own_none hgd s x t ho B e i 1 ht hi v xs.length xs hs hown hx ?_
    exact h v w (by rw [List.append_nil]; exact hown) (Below.refl _ _)
  | some ad =>
    refine wpList_append_own _ hgd s x t ho B e i z 1 bytes ht hi hz hsize hby hzs (by decide) v xs.length xs hs hown ad n c ys hx (by omega) (fun j u hu => ?_) hone h63 hlen hB ?_
    · obtain ⟨ad', e', _, h3⟩ := hr.2 j u hu
      cases e'
      exact h3
    · intro v' w' hown' hg _
      refine h v' w' (by unfold Own; rw [hl1]; exact hown') ?_
      exact (Below.refl B w).grown hg hB fun k hk => (hown.lt k hk).1
end

theorem lit_sl (w : World) (cs : Array Value) (T : TypeId) (xs : List Value) (n : Nat) (hx : cs.toList = xs) (hn : xs.length = n) (hm : n ≤ 9223372036854775807) : Sl (w.alloc (.cells cs T)) (some ⟨w.heap.size, 0, none⟩) n n xs := by
  refine ⟨Nat.le_refl _, hm, (fun e => by cases e), hn, fun j u hu => ⟨_, rfl, by simp, ?_⟩⟩
  rw [addr0, World.cell?_alloc_mark, ← hu, ← hx]
  simp

theorem Own.sl5 {w : World} {B : Nat} {v : Value} {l : List UInt8} (h : Own w B 5 v (byteCells l)) : ∃ A m c, v = .slice A m c ∧ m = l.length ∧ Sl w A m c (byteCells l) := by
  obtain ⟨A, c, rfl, hs⟩ := h.sl
  exact ⟨A, _, c, rfl, bytes_size l, hs⟩

theorem bytes_drop (l : List UInt8) (k : Nat) : byteCells (l.drop k) = (byteCells l).drop k := by simp [byteCells, List.map_drop]
theorem bytes_take (l : List UInt8) (k : Nat) : byteCells (l.take k) = (byteCells l).take k := by simp [byteCells, List.map_take]
theorem Sl.drewN {w : World} {A : Option Addr} {n c : Nat} {xs : List Value} (h : Sl w A n c xs) (k : Nat) : Sl (w.drewN k) A n c xs := h.below (Drawn.below ⟨k, rfl⟩ _)
/-- b[k:m] -/
theorem Sl.win {w : World} {A : Option Addr} {n c : Nat} {l : List UInt8} (h : Sl w A n c (byteCells l)) {k m : Nat} (hkm : k ≤ m) (hm : m ≤ n) (hk : k < c) : Sl w (A.map fun x => x.add k) (m - k) (c - k) (byteCells ((l.drop k).take (m - k))) := by
  have hcut := h.reads.cut (k := k) (cap := c) (by omega) h.1
  rw [if_neg (by omega), ← bytes_drop] at hcut
  have htake := hcut.take (k := m - k) (by omega)
  rw [← bytes_take] at htake
  have hc := h.2.1
  have hn := h.1
  refine ⟨by omega, by omega, fun e => ?_, htake⟩
  have := h.2.2.1
  cases A with
  | none => have := this rfl; omega
  | some a => cases e


/-- From w to w', the row v became v': every other block is as it was, and is no block of v'. -/
def Far (w w' : World) (v v' : Value) : Prop := w.heap.size ≤ w'.heap.size ∧ ∀ g, g < w.heap.size → v.ownBlock ≠ some g → w'.heap[g]? = w.heap[g]? ∧ v'.ownBlock ≠ some g

/-- The slice reads as xs and lies in another block than the row v. -/
def Lies (w : World) (v : Value) (A : Option Addr) (n c : Nat) (xs : List Value) : Prop := Sl w A n c xs ∧ (0 < n → ∀ ad, A = some ad → v.ownBlock ≠ some ad.block)

theorem Far.refl (w : World) (v : Value) : Far w w v v := ⟨Nat.le_refl _, fun _ _ h => ⟨rfl, h⟩⟩
theorem Far.trans {a b c : World} {u v x : Value} (h : Far a b u v) (k : Far b c v x) : Far a c u x :=
  ⟨Nat.le_trans h.1 k.1, fun g hg hu => by
    obtain ⟨h1, h2⟩ := h.2 g hg hu
    obtain ⟨k1, k2⟩ := k.2 g (Nat.lt_of_lt_of_le hg h.1) h2
    exact ⟨k1.trans h1, k2⟩⟩
/-- A step that only makes new blocks, v staying. -/
theorem Far.of_below {w w' : World} {v : Value} (h : Below w.heap.size w w') : Far w w' v v := ⟨h.size, fun g hg hv => ⟨h.block g hg, hv⟩⟩

theorem Lies.far {w w' : World} {v v' : Value} {A : Option Addr} {n c : Nat} {xs : List Value} (h : Lies w v A n c xs) (hf : Far w w' v v') : Lies w' v' A n c xs := by
  obtain ⟨⟨h1, h2, h3, h4⟩, h5⟩ := h
  refine ⟨⟨h1, h2, h3, h4.1, fun k u hu => ?_⟩, fun hn ad e => ?_⟩
  · obtain ⟨ad, e, hb, hc⟩ := h4.2 k u hu
    have hn : 0 < n := by
      have := (List.getElem?_eq_some_iff.1 hu).1
      rw [h4.1] at this
      omega
    have hg := (hf.2 ad.block hb (h5 hn ad e)).1
    refine ⟨ad, e, Nat.lt_of_lt_of_le hb hf.1, ?_⟩
    rw [← hc]
    exact World.cell?_of_block (w := w) (by rw [Go.ChangeShapes.block_add]; exact hg)
  · obtain ⟨ad', u, e', hb, _⟩ := h4.at_ hn
    rw [e] at e'
    cases e'
    exact (hf.2 ad.block hb (h5 hn ad e)).2
theorem Lies.below {w w' : World} {v : Value} {A : Option Addr} {n c : Nat} {xs : List Value} (h : Lies w v A n c xs) (hb : Below w.heap.size w w') : Lies w' v A n c xs := h.far (Far.of_below hb)

/-- A slice in older memory than the row. -/
theorem Lies.old {w : World} {B : Nat} {e : TypeId} {v : Value} {ws : List Value} {A : Option Addr} {n c : Nat} {xs : List Value} (hown : Own w B e v ws) (hs : Sl w A n c xs) (hr : Reads w B A n xs) : Lies w v A n c xs :=
  ⟨hs, fun hn ad e' hv => by
    obtain ⟨ad', u, e'', hb, _⟩ := hr.at_ hn
    rw [e'] at e''
    cases e''
    have := (hown.lt _ hv).1
    omega⟩
/-- A slice in newer memory than the row. -/
theorem Lies.new {w w' : World} {B : Nat} {e : TypeId} {v : Value} {ws : List Value} {A : Option Addr} {n c : Nat} {xs : List Value} (hown : Own w B e v ws) (hs : Sl w' A n c xs) (hg : ∀ ad, A = some ad → w.heap.size ≤ ad.block) : Lies w' v A n c xs :=
  ⟨hs, fun hn ad e' hv => by
    have := (hown.lt _ hv).2
    have := hg ad e'
    omega⟩
/-- Another row stays. -/
theorem Own.far {w w' : World} {B : Nat} {e : TypeId} {u v v' : Value} {xs : List Value} (h : Own w B e u xs) (hf : Far w w' v v') (hne : ∀ g, u.ownBlock = some g → v.ownBlock ≠ some g) : Own w' B e u xs ∧ ∀ g, u.ownBlock = some g → v'.ownBlock ≠ some g := by
  refine ⟨⟨h.1, ?_⟩, fun g hg => (hf.2 g (h.lt g hg).2 (hne g hg)).2⟩
  rcases h.2 with h2 | ⟨g, cap, cur, hv, hB, hh, hr⟩
  · exact Or.inl h2
  · have hg : u.ownBlock = some g := by rw [hv]; rfl
    exact Or.inr ⟨g, cap, cur, hv, hB, (hf.2 g (h.lt g hg).2 (hne g hg)).1.trans hh, hr⟩

section
variable {P : Program} {ops : Array Oper} {rest : List Oper} {o : Oper} {a : Act} {Q : Exit → Act → World → Prop}
/-- b = append(b, c), b of the call's own -/
theorem wp_push_far (hgd : o.guard = none) (s x : Operand) (t : TypeId) (ho : o.op = .call { callee := .builtin .append, args := #[s, x], argTypes := #[t, t] })
    (e : TypeId) (i : TypeInfo) (z : Value) (bytes : Nat) (ht : P.underlying t = some (.slice e)) (hi : P.info? e = some i) (hz : i.zero = some z) (hsize : i.size = 1) (hby : i.bytes = bytes) (hzs : z.cells.size = 1)
    (B : Nat) (v : Value) (xs : List Value) (hs : a.eval s = v) (w0 : World) (c : Value) (hc : c.oneCell' = true) (hown : Own w0 B e v xs) (hB : B ≤ w0.heap.size) (H : Nat) (hH : H = w0.heap.size)
    (hx : a.eval x = .slice (some ⟨H, 0, none⟩) 1 1) (hlen : (xs.length + 1) * bytes ≤ 140737488355328) (h63 : xs.length + 1 ≤ maxLen) (T : TypeId)
    (h : ∀ v' w', Own w' B e v' (xs ++ [c]) → Below B w0 w' → Far w0 w' v v' → wpList P ops Q rest (a.put o.dst v') w') : wpList P ops Q (o :: rest) a (w0.alloc (.cells #[c] T)) := by
  subst hH
  have hsz : w0.heap.size < (w0.alloc (.cells #[c] T)).heap.size := by simp
  have hone : ∀ u ∈ [c], u.oneCell' = true := by intro u hu; simp at hu; subst hu; exact hc
  have hl1 : (xs ++ [c]).length = xs.length + 1 := by simp
  refine wpList_append_own_at _ hgd s x t ho B e i z 1 bytes ht hi hz hsize hby hzs (by decide) v xs.length xs hs (hown.alloc _) ⟨w0.heap.size, 0, none⟩ 1 1 [c] hx rfl (c1_one _ _ _) hone h63 hlen (by omega) ?_
  intro v' w' hown' hg _ hat
  refine h v' w' (by unfold Own; rw [hl1]; exact hown') ?_ ⟨by have := hg.size; omega, fun g hlt hne => ⟨?_, ?_⟩⟩
  · exact ((Below.refl B w0).alloc hB _).grown hg (by omega) fun k hk => (hown.lt k hk).1
  · exact (hg.block g (by omega) (fun e => hne e.symm)).trans (((Below.refl w0.heap.size w0).alloc (Nat.le_refl _) _).block g hlt)
  · rcases hat with hat | hat
    · rw [hat]; exact hne
    · rw [hat]; intro e; injection e with e; omega

/-- b = append(b, c...), b of the call's own -/
theorem wp_join_far (hgd : o.guard = none) (s x : Operand) (t : TypeId) (ho : o.op = .call { callee := .builtin .append, args := #[s, x], argTypes := #[t, t] })
    (e : TypeId) (i : TypeInfo) (z : Value) (bytes : Nat) (ht : P.underlying t = some (.slice e)) (hi : P.info? e = some i) (hz : i.zero = some z) (hsize : i.size = 1) (hby : i.bytes = bytes) (hzs : z.cells.size = 1)
    (B : Nat) (v : Value) (xs : List Value) (hs : a.eval s = v) (w : World) (hown : Own w B e v xs) (hB : B ≤ w.heap.size)
    (A : Option Addr) (n c : Nat) (ys : List Value) (hx : a.eval x = .slice A n c) (hsl : Sl w A n c ys) (hone : ∀ u ∈ ys, u.oneCell' = true) (hlen : (xs.length + n) * bytes ≤ 140737488355328) (h63 : xs.length + n ≤ maxLen)
    (h : ∀ v' w', Own w' B e v' (xs ++ ys) → Below B w w' → Far w w' v v' → wpList P ops Q rest (a.put o.dst v') w') : wpList P ops Q (o :: rest) a w := by
  obtain ⟨hnc, hc, hA, hr⟩ := hsl
  have hyl : ys.length = n := hr.1
  have hl1 : (xs ++ ys).length = xs.length + n := by rw [List.length_append, hyl]
  cases A with
  | none =>
    have hc0 := hA rfl
    have hn0 : n = 0 := by omega
    subst hc0 hn0
    obtain rfl : ys = [] := List.eq_nil_of_length_eq_zero hyl
    refine wpList_append_own_none hgd s x t ho B e i 1 ht hi v xs.length xs hs hown hx ?_
    exact h v w (by rw [List.append_nil]; exact hown) (Below.refl _ _) (Far.refl _ _)
  | some ad =>
    refine wpList_append_own_at _ hgd s x t ho B e i z 1 bytes ht hi hz hsize hby hzs (by decide) v xs.length xs hs hown ad n c ys hx (by omega) (fun j u hu => ?_) hone h63 hlen hB ?_
    · obtain ⟨ad', e', _, h3⟩ := hr.2 j u hu
      cases e'
      exact h3
    · intro v' w' hown' hg _ hat
      refine h v' w' (by unfold Own; rw [hl1]; exact hown') ?_ ⟨hg.size, fun g hlt hne => ⟨hg.block g hlt (fun e => hne e.symm), ?_⟩⟩
      · exact (Below.refl B w).grown hg hB fun k hk => (hown.lt k hk).1
      · rcases hat with hat | hat
        · rw [hat]; exact hne
        · rw [hat]; intro e; injection e with e; omega
end

theorem push_cell (l m : List UInt8) (k : Nat) (b : UInt8) (h : m[k]? = some b) : byteCells (l ++ m.take k) ++ [.int .u8 (b.toNat : Int)] = byteCells (l ++ m.take (k + 1)) := by
  have hk := (List.getElem?_eq_some_iff.1 h).1
  rw [List.take_succ_eq_append_getElem hk, (List.getElem?_eq_some_iff.1 h).2, ← List.append_assoc, Go.Lib.byteCells_append (l ++ m.take k)]
  rfl


/-- Block b holds the six cells. -/
def Six (w : World) (b : Nat) (c0 c1 c2 c3 c4 c5 : Value) : Prop :=
  b < w.heap.size ∧ w.cell? ⟨b, 0, none⟩ = some c0 ∧ w.cell? ⟨b, 1, none⟩ = some c1 ∧ w.cell? ⟨b, 2, none⟩ = some c2 ∧ w.cell? ⟨b, 3, none⟩ = some c3 ∧ w.cell? ⟨b, 4, none⟩ = some c4 ∧ w.cell? ⟨b, 5, none⟩ = some c5
theorem six_new (w : World) (c0 c1 c2 c3 c4 c5 : Value) (T : TypeId) : Six (w.alloc (.cells #[c0, c1, c2, c3, c4, c5] T)) w.heap.size c0 c1 c2 c3 c4 c5 := by
  refine ⟨by simp, ?_, ?_, ?_, ?_, ?_, ?_⟩ <;> (rw [World.cell?_alloc_mark]; rfl)
theorem Six.keep {w w' : World} {b : Nat} {c0 c1 c2 c3 c4 c5 : Value} (h : Six w b c0 c1 c2 c3 c4 c5) (hb : Below w.heap.size w w') : Six w' b c0 c1 c2 c3 c4 c5 := by
  obtain ⟨h0, h1, h2, h3, h4, h5, h6⟩ := h
  have key : ∀ (k : Nat) (u : Value), w.cell? ⟨b, k, none⟩ = some u → w'.cell? ⟨b, k, none⟩ = some u := fun k u hu => (hb.cell (p := ⟨b, k, none⟩) h0).trans hu
  exact ⟨Nat.lt_of_lt_of_le h0 hb.size, key _ _ h1, key _ _ h2, key _ _ h3, key _ _ h4, key _ _ h5, key _ _ h6⟩

theorem own_set {w : World} {B e g n cap : Nat} {xs : List Value} (h : w.ownsRow B e 1 (.slice (some ⟨g, 0, none⟩) n cap) n xs) (j : Nat) (u : Value) : (w.setCell ⟨g, j, none⟩ u).ownsRow B e 1 (.slice (some ⟨g, 0, none⟩) n cap) n (xs.set j u) := by
  obtain ⟨h1, h2⟩ := h
  refine ⟨by rw [List.length_set]; exact h1, ?_⟩
  rcases h2 with ⟨h0, _⟩ | ⟨g', cap', cur, hv, hB, hh, hn, hm, hs, ht⟩
  · cases h0
  · simp only [Value.slice.injEq, Option.some.injEq, Addr.mk.injEq, and_true, true_and] at hv
    obtain ⟨rfl, rfl⟩ := hv
    refine Or.inr ⟨g, cap, cur.setIfInBounds j u, rfl, hB, Go.Joins.block_setCell hh u, hn, hm, by simpa using hs, ?_⟩
    rw [Array.toList_setIfInBounds, List.take_set, ht]
theorem bytes_set (l : List UInt8) (j : Nat) (z : UInt8) : (byteCells l).set j (.int .u8 (z.toNat : Int)) = byteCells (l.set j z) := by
  simp [byteCells, List.map_set]

/-- A row of bytes of the call's own, its block a letter. -/
def OwnB (w : World) (B g m cap : Nat) (l : List UInt8) : Prop := w.ownsRow B 5 1 (.slice (some ⟨g, 0, none⟩) m cap) m (byteCells l)
theorem Own.b {w : World} {B : Nat} {v : Value} {l : List UInt8} (h : Own w B 5 v (byteCells l)) {M : Nat} (hM : l.length = M) (h0 : 0 < M) : ∃ g cap, v = .slice (some ⟨g, 0, none⟩) M cap ∧ OwnB w B g M cap l ∧ B ≤ g ∧ g < w.heap.size := by
  subst hM
  unfold Own at h
  rw [bytes_size] at h
  obtain ⟨g, cap, rfl, h1, h2⟩ := World.ownsRow.form h h0
  exact ⟨g, cap, rfl, h, h1, h2⟩
theorem OwnB.sl {w : World} {B g m cap : Nat} {l : List UInt8} (h : OwnB w B g m cap l) : Sl w (some ⟨g, 0, none⟩) m cap (byteCells l) := by
  have hl : l.length = m := by have := h.1; rw [bytes_size, Nat.mul_one] at this; exact this
  have h2 : Own w B 5 (.slice (some ⟨g, 0, none⟩) m cap) (byteCells l) := by unfold Own; rw [bytes_size, hl]; exact h
  obtain ⟨A, c, e, hs⟩ := h2.sl
  cases e
  rw [bytes_size, hl] at hs
  exact hs
theorem OwnB.cell {w : World} {B g m cap : Nat} {l : List UInt8} (h : OwnB w B g m cap l) {j : Nat} {b : UInt8} (hb : l[j]? = some b) : w.cell? ⟨g, j, none⟩ = some (.int .u8 (b.toNat : Int)) := by
  have hl : l.length = m := by have := h.1; rw [bytes_size, Nat.mul_one] at this; exact this
  have hj := (List.getElem?_eq_some_iff.1 hb).1
  have := World.ownsRow.cellAt h j (by omega)
  rw [this]
  simp [byteCells, hb]
theorem OwnB.below {w w' : World} {B g m cap : Nat} {l : List UInt8} (h : OwnB w B g m cap l) (hb : Below w.heap.size w w') : OwnB w' B g m cap l := owns_below' h hb


/-! ### Ints -/
def numCells (l : List Int) : List Value := l.map fun n => .int .i64 n
theorem num_len (l : List Int) : (numCells l).length = l.length := by simp [numCells]
theorem num_app (l m : List Int) : numCells (l ++ m) = numCells l ++ numCells m := by simp [numCells]
theorem num_get (l : List Int) (k : Nat) (z : Int) (h : l[k]? = some z) : (numCells l)[k]? = some (.int .i64 z) := by simp [numCells, h]

/-- An int of a slice. -/
theorem num_cell {w : World} {B n : Nat} {A : Option Addr} {l : List Int} (h : Reads w B A n (numCells l)) {k : Nat} (hk : k < n) : ∃ ad z, A = some ad ∧ l[k]? = some z ∧ w.cell? (ad.add k) = some (.int .i64 z) := by
  obtain ⟨ad, u, hA, _, hu, hc⟩ := h.at_ hk
  unfold numCells at hu
  rw [List.getElem?_map] at hu
  cases hz : l[k]? with
  | none => rw [hz] at hu; simp at hu
  | some z => rw [hz] at hu; simp at hu; exact ⟨ad, z, hA, rfl, by rw [hc, ← hu]⟩
theorem Sl.nlen {w : World} {A : Option Addr} {n c : Nat} {xs : List Int} (h : Sl w A n c (numCells xs)) : xs.length = n := by rw [← num_len]; exact h.reads.1
theorem nums_one (l : List Int) : ∀ u ∈ numCells l, u.oneCell' = true := by
  intro u hu
  unfold numCells at hu
  obtain ⟨b, _, rfl⟩ := List.mem_map.1 hu
  rfl
theorem num_take (xs : List Int) (k : Nat) : numCells (xs.take k) = (numCells xs).take k := by simp [numCells, List.map_take]
theorem num_drop' (xs : List Int) (k : Nat) : numCells (xs.drop k) = (numCells xs).drop k := by simp [numCells, List.map_drop]
/-- l[k:m] of ints -/
theorem Sl.winI {w : World} {A : Option Addr} {n c : Nat} {l : List Int} (h : Sl w A n c (numCells l)) {k m : Nat} (hkm : k ≤ m) (hm : m ≤ n) (hk : k < c) : Sl w (A.map fun x => x.add k) (m - k) (c - k) (numCells ((l.drop k).take (m - k))) := by
  have hcut := h.reads.cut (k := k) (cap := c) (by omega) h.1
  rw [if_neg (by omega), ← num_drop'] at hcut
  have htake := hcut.take (k := m - k) (by omega)
  rw [← num_take] at htake
  have hc := h.2.1
  have hn := h.1
  refine ⟨by omega, by omega, fun e => ?_, htake⟩
  have := h.2.2.1
  cases A with
  | none => have := this rfl; omega
  | some a => cases e
theorem push_num (m : List Int) (k : Nat) (z : Int) (h : m[k]? = some z) : numCells (m.take k) ++ [.int .i64 z] = numCells (m.take (k + 1)) := by
  have hk := (List.getElem?_eq_some_iff.1 h).1
  rw [List.take_succ_eq_append_getElem hk, (List.getElem?_eq_some_iff.1 h).2, num_app]
  rfl
theorem Own.slI {w : World} {B : Nat} {v : Value} {l : List Int} (h : Own w B 3 v (numCells l)) : ∃ A m c, v = .slice A m c ∧ m = l.length ∧ Sl w A m c (numCells l) := by
  obtain ⟨A, c, rfl, hs⟩ := h.sl
  exact ⟨A, _, c, rfl, num_len l, hs⟩
/-- Fresh ints. -/
def GrewI (w : World) (l : List Int) (e : Ending) (w' : World) : Prop := ∃ v, e = .returned v ∧ Own w' w.heap.size 3 v (numCells l) ∧ Below w.heap.size w w'
theorem GrewI.sl {w w' : World} {l : List Int} {e : Ending} (h : GrewI w l e w') : ∃ A m c, e = .returned (.slice A m c) ∧ m = l.length ∧ Sl w' A m c (numCells l) ∧ Below w.heap.size w w' := by
  obtain ⟨v, rfl, ho, hb⟩ := h
  obtain ⟨A, m, c, rfl, hm, hs⟩ := ho.slI
  exact ⟨A, m, c, rfl, hm, hs, hb⟩
theorem quiet_drawn {P : Program} {f : FuncId} {args : Array Value} {w : World} {n : Nat} {v : Value}
    (h : Calls P f args (w.drewN n) fun e w' => e = .returned v ∧ Drawn (w.drewN n) w') : Calls P f args (w.drewN n) fun e w'' => e = .returned v ∧ ∃ m, w'' = w.drewN m :=
  h.mono fun _ _ ⟨he, m, hm⟩ => ⟨he, n + m, by rw [hm]; simp⟩

end Go.Proofs.YteokeljmggdecaaDoor
