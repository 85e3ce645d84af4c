/- TopRegex: Ba. -/
import Init.Data.List.Lemmas
import Derived.WalkKit
import Derived.WalkSpells
import Derived.WalkLawsBesides
import Derived.OneCell
import Derived.Deep.QuietTactic
import Derived.BigQuiet
import Derived.Shelf.Strings.LastIndex
import Init.Data.List.Pairwise
import Derived.Lib.UnsafeStr
import Derived.Lib.AppendStr
import Derived.Lib.Hide
import Derived.Maps.AppendAt
import Derived.Deep.AppendLies
import Derived.ArgAppend
import Derived.Laws.BytesArg
import Derived.Laws.AppendOwnNone
import Derived.Deep.Draws
import Derived.Deep.Slices
import Derived.Lib.SmallJoins
import Derived.StillTailTactics
import Derived.Test.YtlnbjdlooghpeaaGreatDoorTTri
import Derived.Test.YtlnbjdlooghpeaaGreatDoorTRy
import Derived.Test.YtlnbjdlooghpeaaGreatDoorProg
namespace Go.Proofs.YtlnbjdlooghpeaaGreatDoor
open Go.RowKit
open Go.RowKit
theorem hide {p : Prop} (h : p) : Hid p := h
theorem ret_int {k : IntKind} {a b : Int} (h : a = b) : Ending.returned (.int k a) = .returned (.int k b) := by rw [h]
theorem ret_bool {a b : Bool} (h : a = b) : Ending.returned (.bool a) = .returned (.bool b) := by rw [h]
theorem addr0 (g j : Nat) : (⟨g, 0, none⟩ : Addr).add j = ⟨g, j, none⟩ := by
  unfold Addr.add
  split <;> simp_all
theorem c1_one (w : World) (x : Value) (T : TypeId) : ∀ (j : Nat) (u : Value), [x][j]? = some u → (w.alloc (.cells #[x] T)).cell? ((⟨w.heap.size, 0, none⟩ : Addr).add j) = some u := by
  intro j u h
  match j, h with
  | 0, h =>
    simp at h
    subst h
    rw [addr0, World.cell?_alloc_mark]
    rfl
theorem c2_one (k : IntKind) (n : Int) : ∀ u ∈ [Value.int k n], u.oneCell' = true := by
  intro u hu
  simp at hu
  subst hu
  rfl
open Go.RowKit
theorem getD_byte (s : ByteArray) (k : Nat) (h : k < s.size) : s.data.toList.getD k 0 = s[k] := by
  rw [List.getD_eq_getElem?_getD, List.getElem?_eq_getElem (by simpa using h)]
  rfl
theorem size_list (s : ByteArray) : s.data.toList.length = s.size := by simp
open Go.RowKit
def Cap (B Bl : Nat) (T e : TypeId) (sz n : Nat) (xs : List Value) (w : World) : Prop :=
  B ≤ Bl ∧ ∃ v, w.heap[Bl]? = some (.cells #[v] T (0, 0)) ∧ w.ownsRow B e sz v n xs
theorem cap_push {B Bl : Nat} {T e : TypeId} {sz n m : Nat} {xs ys : List Value} {wr W0 w1 : World} {v v' : Value} (hB : B ≤ Bl) (hTe : T ≠ e) (hn : 0 < m)
    (hv : wr.heap[Bl]? = some (.cells #[v] T (0, 0))) (hown : wr.ownsRow B e sz v n xs) (hb0 : Below wr.heap.size wr W0)
    (hown' : w1.ownsRow B e sz v' m ys) (hgrow : W0.grownBy w1 v.ownBlock) :
    (∃ g' cap', v' = .slice (some ⟨g', 0, none⟩) m cap') ∧ w1.cell? ⟨Bl, 0, none⟩ = some v ∧ w1.frozen? ⟨Bl, 0, none⟩ = false ∧ Cap B Bl T e sz m ys (w1.setCell ⟨Bl, 0, none⟩ v') ∧ Below B wr (w1.setCell ⟨Bl, 0, none⟩ v') := by
  have hBl := lt_of_block hv
  have hne : some Bl ≠ v.ownBlock := fun e => by
    rcases hown.2 with ⟨rfl, _⟩ | ⟨g, cap, cur, rfl, hg, hh, _⟩
    · simp [Value.ownBlock] at e
    · simp only [Value.ownBlock, Option.some.injEq] at e
      subst e
      rw [hh] at hv
      simp at hv
      exact hTe hv.2.symm
  have hlo : ∀ k, v.ownBlock = some k → B ≤ k := fun k hk => (hown.lt k hk).1
  have hbel : Below B wr w1 := by
    refine (hb0.mono (by omega)).trans ⟨hgrow.os, hgrow.tape, hgrow.output, hgrow.size, fun k hk => hgrow.block k (by have := hb0.size; omega) fun e => ?_⟩
    have := hlo k e.symm
    omega
  have hv1 : w1.heap[Bl]? = some (.cells #[v] T (0, 0)) := (hgrow.block Bl (by have := hb0.size; omega) hne).trans ((hb0.block Bl hBl).trans hv)
  have hne' : v'.ownBlock ≠ some Bl := fun e => by
    rcases hown'.2 with ⟨rfl, _⟩ | ⟨g, cap, cur, rfl, hg, hh, _⟩
    · simp [Value.ownBlock] at e
    · simp only [Value.ownBlock, Option.some.injEq] at e
      subst e
      rw [hh] at hv1
      simp at hv1
      exact hTe hv1.2.symm
  have hex : ∃ g' cap', v' = .slice (some ⟨g', 0, none⟩) m cap' := by
    rcases hown'.2 with ⟨_, h0⟩ | ⟨g', cap', _, h, _⟩
    · omega
    · exact ⟨g', cap', h⟩
  exact ⟨hex, cell_of_one hv1, free_of_one hv1, ⟨hB, v', one_setCell hv1, ownsRow_setCell_other hown' hne' v'⟩, hbel.setCell (by exact hB) _⟩
theorem c1_at (w : World) (x : Value) (T : TypeId) (g : Nat) (hg : g = w.heap.size) : ∀ (j : Nat) (u : Value), [x][j]? = some u → (w.alloc (.cells #[x] T)).cell? ((⟨g, 0, none⟩ : Addr).add j) = some u := by
  subst hg; exact c1_one w x T
theorem toList_extract_end (s : ByteArray) (a : Nat) : (s.extract a s.size).data.toList = s.data.toList.drop a := by
  simp
  rw [List.take_of_length_le (by simp)]
open Go.RowKit
theorem own_far {w : World} {B e : Nat} {sz n b : Nat} {T : TypeId} {v : Value} {xs : List Value} {cs : Array Value} {fr : Nat × Nat} (hown : w.ownsRow B e sz v n xs) (hb : w.heap[b]? = some (.cells cs T fr)) (hTe : T ≠ e) : v.ownBlock ≠ some b := fun h => by
  rcases hown.2 with ⟨rfl, _⟩ | ⟨g, cap, cur, rfl, hg, hh, _⟩
  · simp [Value.ownBlock] at h
  · simp only [Value.ownBlock, Option.some.injEq] at h
    subst h
    rw [hh] at hb
    simp at hb
    exact hTe hb.2.1.symm
theorem owns_mono {w : World} {B B' e : Nat} {sz n : Nat} {v : Value} {xs : List Value} (h : w.ownsRow B e sz v n xs) (hB : B' ≤ B) : w.ownsRow B' e sz v n xs := by
  obtain ⟨h1, h2⟩ := h
  refine ⟨h1, ?_⟩
  rcases h2 with h2 | ⟨g, cap, cur, hv, hg, r⟩
  · exact Or.inl h2
  · exact Or.inr ⟨g, cap, cur, hv, by omega, r⟩
open Go.RowKit
def Drawn (w w' : World) : Prop := ∃ m, w' = w.drewN m
theorem Drawn.refl (w : World) : Drawn w w := ⟨0, rfl⟩
theorem Drawn.more {w w' : World} (h : Drawn w w') (m : Nat) : Drawn w (w'.drewN m) := by
  obtain ⟨k, rfl⟩ := h
  exact ⟨k + m, by simp⟩
theorem Drawn.cell {w w' : World} (h : Drawn w w') (a : Addr) : w'.cell? a = w.cell? a := by
  obtain ⟨k, rfl⟩ := h
  rfl
theorem Drawn.below {w w' : World} (h : Drawn w w') (B : Nat) : Below B w w' := by
  obtain ⟨k, rfl⟩ := h
  exact ⟨rfl, rfl, rfl, Nat.le_refl _, fun _ _ => rfl⟩
def RdS (w : World) (ao : Option Addr) (n cap sz : Nat) (xs : List Value) : Prop :=
  xs.length = n * sz ∧ n ≤ cap ∧ (0 < n → ∃ g, ao = some ⟨g, 0, none⟩ ∧ g < w.heap.size ∧ ∀ j, j < n * sz → w.cell? ⟨g, j, none⟩ = xs[j]?)
theorem RdS.at {w : World} {ao : Option Addr} {n cap : Nat} {xs : List Value} (h : RdS w ao n cap 1 xs) {k : Nat} (hk : k < n) : ∃ g, ao = some ⟨g, 0, none⟩ ∧ ∃ x, xs[k]? = some x ∧ w.cell? ⟨g, k, none⟩ = some x := by
  obtain ⟨g, hg, _, hc⟩ := h.2.2 (by omega)
  have hx : k < xs.length := by have := h.1; omega
  exact ⟨g, hg, xs[k], List.getElem?_eq_getElem hx, (hc k (by omega)).trans (List.getElem?_eq_getElem hx)⟩
theorem c1_two (w : World) (x y : Value) (T : TypeId) : ∀ (j : Nat) (u : Value), [x, y][j]? = some u → (w.alloc (.cells #[x, y] T)).cell? ((⟨w.heap.size, 0, none⟩ : Addr).add j) = some u := by
  intro j u h
  match j, h with
  | 0, h =>
    simp at h
    subst h
    rw [addr0, World.cell?_alloc_mark]
    rfl
  | 1, h =>
    simp at h
    subst h
    rw [addr0, World.cell?_alloc_mark]
    rfl
theorem c2_two (k : IntKind) (n m : Int) : ∀ u ∈ [Value.int k n, Value.int k m], u.oneCell' = true := by
  intro u hu
  simp at hu
  rcases hu with hu | hu <;> (subst hu; rfl)
open Go.RowKit
theorem toList_extract0 (s : ByteArray) (a : Nat) : (s.extract 0 a).data.toList = s.data.toList.take a := by
  simp
open Go.RowKit
theorem quiet_left {P : Program} {f : FuncId} {args : Array Value} {w : World} {n : Nat} {v : Value}
    (h : Calls P f args (w.drewN n) fun e w' => e = .returned v ∧ w.drewN n = w') : Calls P f args (w.drewN n) fun e w'' => e = .returned v ∧ ∃ m, w'' = w.drewN m :=
  h.mono fun _ _ ⟨he, hm⟩ => ⟨he, n, hm.symm⟩
open Go.RowKit
open Go.RowKit
theorem bgo {a b c : World} (h : Below a.heap.size a b) (k : Below b.heap.size b c) : Below a.heap.size a c := h.trans (k.mono h.size)
theorem bnew {a b : World} (h : Below a.heap.size a b) (o : Obj) : Below a.heap.size a (b.alloc o) := h.alloc h.size o
def Two (w : World) (b : Nat) (x y : Value) : Prop := b < w.heap.size ∧ w.cell? ⟨b, 0, none⟩ = some x ∧ w.cell? ⟨b, 1, none⟩ = some y
theorem two_alloc (w : World) (x y : Value) (T : TypeId) : Two (w.alloc (.cells #[x, y] T)) w.heap.size x y :=
  ⟨by simp, by rw [World.cell?_alloc_mark]; rfl, by rw [World.cell?_alloc_mark]; rfl⟩
theorem ba_ext {a b : ByteArray} (h : a.data.toList = b.data.toList) : a = b := ByteArray.ext (Array.ext' h)
theorem not_empty (s : ByteArray) (h : 0 < s.size) : s.toList.isEmpty = false := by
  cases h1 : s.toList.isEmpty with
  | false => rfl
  | true =>
    have h2 : s = ByteArray.empty := LastIndex.eq_of_toList (by rw [List.isEmpty_iff.1 h1]; simp [ByteArray.toList, ByteArray.toList.loop])
    rw [h2] at h
    exact absurd h (by decide)
end Go.Proofs.YtlnbjdlooghpeaaGreatDoor
namespace Go.Proofs.YtlnbjdlooghpeaaGreatDoor
open Go.RowKit
open Go.Lib (byteCells strCells)
open Go.ChangeShapes (block_add)
open Go.Deep (add_add)
def Reads (w : World) (B : Nat) (A : Option Addr) (n : Nat) (xs : List Value) : Prop :=
  xs.length = n ∧ ∀ k u, xs[k]? = some u → ∃ ad, A = some ad ∧ ad.block < B ∧ w.cell? (ad.add k) = some u
section
variable {w w' : World} {B B' n : Nat} {A : Option Addr} {xs : List Value}
theorem Reads.nil : Reads w B A 0 [] := ⟨rfl, fun k u h => by simp at h⟩
theorem Reads.at_ {k : Nat} (h : Reads w B A n xs) (hk : k < n) : ∃ ad u, A = some ad ∧ ad.block < B ∧ xs[k]? = some u ∧ w.cell? (ad.add k) = some u := by
  have hx : xs[k]? = some (xs[k]'(by rw [h.1]; exact hk)) := List.getElem?_eq_getElem _
  obtain ⟨ad, h1, h2, h3⟩ := h.2 k _ hx
  exact ⟨ad, _, h1, h2, hx, h3⟩
theorem Reads.map {P : Addr → Prop} (h : Reads w B A n xs) (hP : ∀ p, p.block < B → P p) (hk : ∀ p, P p → w'.cell? p = w.cell? p) (hB : B ≤ B') : Reads w' B' A n xs := by
  refine ⟨h.1, fun k u hu => ?_⟩
  obtain ⟨ad, h1, h2, h3⟩ := h.2 k u hu
  refine ⟨ad, h1, Nat.lt_of_lt_of_le h2 hB, ?_⟩
  rw [hk _ (hP _ (by rw [block_add]; exact h2))]
  exact h3
theorem Reads.keep (h : Reads w B A n xs) (hk : ∀ p : Addr, p.block < B → w'.cell? p = w.cell? p) : Reads w' B A n xs := h.map (fun _ hp => hp) hk (Nat.le_refl B)
theorem Reads.more (h : Reads w B A n xs) (hB : B ≤ B') : Reads w B' A n xs := h.map (fun _ hp => hp) (fun _ _ => rfl) hB
theorem Reads.below (h : Reads w B A n xs) (hb : Below B w w') : Reads w' B A n xs := h.keep fun _ hp => hb.cell hp
theorem Reads.of_own {base : Nat} {e : TypeId} {c : Nat} (h : w.ownsRow base e 1 (.slice A n c) n xs) : Reads w w.heap.size A n xs := by
  refine ⟨by rw [h.1, Nat.mul_one], fun k u hu => ?_⟩
  have hk : k < n := by rw [← Nat.mul_one n, ← h.1]; exact (List.getElem?_eq_some_iff.1 hu).1
  obtain ⟨g, cap, hv, _, hlt⟩ := h.form (by omega)
  simp only [Value.slice.injEq] at hv
  obtain ⟨rfl, _⟩ := hv
  exact ⟨_, rfl, hlt, h.cells (g := g) rfl k u hu⟩
end
theorem bytes_size (l : List UInt8) : (byteCells l).length = l.length := by simp [byteCells]
theorem bytes_get (l : List UInt8) (k : Nat) (u : Value) (h : (byteCells l)[k]? = some u) : ∃ b, l[k]? = some b ∧ u = .int .u8 (b.toNat : Int) := by
  unfold byteCells at h
  rw [List.getElem?_map] at h
  cases hl : l[k]? with
  | none => rw [hl] at h; simp at h
  | some a => rw [hl] at h; simp at h; exact ⟨a, rfl, h.symm⟩
theorem Reads.byte {w : World} {B n : Nat} {A : Option Addr} {l : List UInt8} (h : Reads w B A n (byteCells l)) {k : Nat} (hk : k < n) :
    ∃ ad b, A = some ad ∧ l[k]? = some b ∧ w.cell? (ad.add k) = some (.int .u8 (b.toNat : Int)) := by
  obtain ⟨ad, u, hA, _, hu, hc⟩ := h.at_ hk
  obtain ⟨b, hb, rfl⟩ := bytes_get l k u hu
  exact ⟨ad, b, hA, hb, hc⟩
theorem conv_run {P : Program} {w : World} {B n c : Nat} {A : Option Addr} {l : List UInt8} (h : Reads w B A n (byteCells l)) (src dst e : TypeId) (hs : P.underlying src = some (.slice e)) (he : P.underlying e = some (.int .u8)) (hd : P.underlying dst = some .string) (hA : A = none → n = 0) :
    (convert src dst (.slice A n c)).run P w = .ok (.string ⟨l.toArray⟩) w := by
  rw [run_convert_bytes_string w src dst e _ n c hs he hd]
  have hlen : l.length = n := by rw [← bytes_size]; exact h.1
  cases A with
  | none =>
    have : n = 0 := hA rfl
    subst this
    obtain rfl : l = [] := List.eq_nil_of_length_eq_zero hlen
    simp [Conv.bytesToString]
    rfl
  | some a =>
    have hl : (loadCells a n).run P w = .ok ((l.map fun b : UInt8 => (b.toNat : Int)).map (Value.int .u8)).toArray w := by
      have := run_loadCells_list (P := P) w a ((l.map fun b : UInt8 => (b.toNat : Int)).map (Value.int .u8)) (fun j v hj => by
        have hjn : j < n := by
          rcases Nat.lt_or_ge j n with h | h
          · exact h
          · rw [List.getElem?_eq_none (by simp; omega)] at hj; cases hj
        obtain ⟨ad, b, hA, hb, hc⟩ := h.byte hjn
        cases hA
        rw [hc, ← hj]
        simp [hb])
      simpa [hlen] using this
    rw [run_bytesToString w a n c _ hl, foldl_push_bytes]
    congr 2
    apply ba_ext
    have e1 : List.map ((fun n : Int => UInt8.ofNat n.toNat) ∘ fun b : UInt8 => (b.toNat : Int)) l = l := by
      conv => rhs; rw [← List.map_id l]
      exact List.map_congr_left fun x _ => by simp
    simp [ByteArray.empty, ByteArray.emptyWithCapacity]
    rw [e1]
    rfl
def Own (w : World) (B : Nat) (e : TypeId) (v : Value) (xs : List Value) : Prop := w.ownsRow B e 1 v xs.length xs
def Src (w : World) (B : Nat) (e : TypeId) (v : Value) (xs : List Value) : Prop :=
  Own w B e v xs ∨ ∃ A, v = .slice A xs.length xs.length ∧ (A = none → xs.length = 0) ∧ Reads w w.heap.size A xs.length xs
theorem Own.src {w : World} {B : Nat} {e : TypeId} {v : Value} {xs : List Value} (h : Own w B e v xs) : Src w B e v xs := Or.inl h
theorem owns_below' {w w' : World} {B e : Nat} {sz n : Nat} {v : Value} {xs : List Value} (h : w.ownsRow B e sz v n xs) (hb : Below w.heap.size w w') : w'.ownsRow B e sz v n xs := by
  obtain ⟨h1, h2⟩ := h
  refine ⟨h1, ?_⟩
  rcases h2 with h2 | ⟨g, cap, cur, hv, hg, hh, r⟩
  · exact Or.inl h2
  · exact Or.inr ⟨g, cap, cur, hv, hg, (hb.block g (lt_of_block hh)).trans hh, r⟩
theorem Own.below {w w' : World} {B : Nat} {e : TypeId} {v : Value} {xs : List Value} (h : Own w B e v xs) (hb : Below w.heap.size w w') : Own w' B e v xs := owns_below' h hb
theorem Own.mono {w : World} {B B' : Nat} {e : TypeId} {v : Value} {xs : List Value} (h : Own w B e v xs) (hb : B' ≤ B) : Own w B' e v xs := owns_mono h hb
section
variable {P : Program} {ops : Array Oper} {rest : List Oper} {o : Oper} {a : Act} {Q : Exit → Act → World → Prop}
theorem wp_push (hgd : o.guard = none) (s x : Operand) (t : TypeId) (ho : o.op = .call { callee := .builtin .append, args := #[s, x], argTypes := #[t, t] })
    (e : TypeId) (i : TypeInfo) (z : Value) (bytes : Nat) (ht : P.underlying t = some (.slice e)) (hi : P.info? e = some i) (hz : i.zero = some z) (hsize : i.size = 1) (hby : i.bytes = bytes) (hzs : z.cells.size = 1)
    (B : Nat) (v : Value) (xs : List Value) (hs : a.eval s = v) (w0 : World) (c : Value) (hc : c.oneCell' = true) (hsrc : Src w0 B e v xs) (hB : B ≤ w0.heap.size) (H : Nat) (hH : H = w0.heap.size)
    (hx : a.eval x = .slice (some ⟨H, 0, none⟩) 1 1) (hlen : (xs.length + 1) * bytes ≤ 140737488355328) (h63 : xs.length + 1 ≤ maxLen)
    (h : ∀ v' w', Own w' B e v' (xs ++ [c]) → Below B w0 w' → wpList P ops Q rest (a.put o.dst v') w') : wpList P ops Q (o :: rest) a (w0.alloc (.cells #[c] e)) := by
  subst hH
  have hsz : w0.heap.size ≤ (w0.alloc (.cells #[c] e)).heap.size := by simp
  have hone : ∀ u ∈ [c], u.oneCell' = true := by intro u hu; simp at hu; subst hu; exact hc
  have hl1 : (xs ++ [c]).length = xs.length + 1 := by simp
  rcases hsrc with hown | ⟨A, rfl, hA, hr⟩
  · refine wpList_append_own _ hgd s x t ho B e i z 1 bytes ht hi hz hsize hby hzs (by decide) v xs.length xs hs (hown.alloc _) ⟨w0.heap.size, 0, none⟩ 1 1 [c] hx rfl (c1_one _ _ _) hone h63 hlen (by omega) ?_
    intro v' w' hown' hg _
    refine h v' w' (by unfold Own; rw [hl1]; exact hown') ?_
    exact ((Below.refl B w0).alloc hB _).grown hg (by omega) fun k hk => (hown.lt k hk).1
  · have hr' : Reads (w0.alloc (.cells #[c] e)) w0.heap.size A xs.length xs := hr.keep fun p hp => World.cell?_alloc_lt w0 _ p hp
    refine wpList_append_grows _ hgd s x t ho e i z 1 bytes ht hi hz hsize hby hzs (by decide) A xs.length xs.length xs hs (fun e0 => ⟨hA e0, hA e0⟩) (by simp) (fun b hb j u hu => ?_) ⟨w0.heap.size, 0, none⟩ 1 1 [c] hx rfl (c1_one _ _ _) hone (by omega) h63 hlen ?_
    · obtain ⟨ad, hA', _, hcell⟩ := hr'.2 j u hu
      rw [hb] at hA'
      cases hA'
      exact hcell
    · intro v' w' hown' hg
      refine h v' w' (by unfold Own; rw [hl1]; exact owns_mono hown' (by omega)) ?_
      exact ((Below.refl B w0).alloc hB _).grown hg (by omega) fun k hk => by cases hk
end
def Sl (w : World) (A : Option Addr) (n c : Nat) (xs : List Value) : Prop := n ≤ c ∧ c ≤ 9223372036854775807 ∧ (A = none → c = 0) ∧ Reads w w.heap.size A n xs
theorem Sl.below {w w' : World} {A : Option Addr} {n c : Nat} {xs : List Value} (h : Sl w A n c xs) (hb : Below w.heap.size w w') : Sl w' A n c xs :=
  ⟨h.1, h.2.1, h.2.2.1, (h.2.2.2.below hb).more hb.size⟩
theorem Sl.nil (w : World) : Sl w none 0 0 [] := ⟨Nat.le_refl _, by omega, fun _ => rfl, Reads.nil⟩
theorem Own.sl {w : World} {B : Nat} {e : TypeId} {v : Value} {xs : List Value} (h : Own w B e v xs) : ∃ A c, v = .slice A xs.length c ∧ Sl w A xs.length c xs := by
  have h' := h
  rcases h'.2 with ⟨rfl, h0⟩ | ⟨g, cap, cur, rfl, hb, hg, hc, hm, r⟩
  · obtain rfl : xs = [] := List.eq_nil_of_length_eq_zero h0
    exact ⟨none, 0, rfl, Sl.nil w⟩
  · exact ⟨_, cap, rfl, hc, by unfold maxLen at hm; omega, fun e => (by cases e), Reads.of_own h⟩
theorem Sl.reads {w : World} {A : Option Addr} {n c : Nat} {xs : List Value} (h : Sl w A n c xs) : Reads w w.heap.size A n xs := h.2.2.2
theorem bytes_one (l : List UInt8) : ∀ u ∈ byteCells l, u.oneCell' = true := by
  intro u hu
  unfold byteCells at hu
  obtain ⟨b, _, rfl⟩ := List.mem_map.1 hu
  rfl
section
variable {P : Program} {ops : Array Oper} {rest : List Oper} {o : Oper} {a : Act} {Q : Exit → Act → World → Prop}
theorem wp_join (hgd : o.guard = none) (s x : Operand) (t : TypeId) (ho : o.op = .call { callee := .builtin .append, args := #[s, x], argTypes := #[t, t] })
    (e : TypeId) (i : TypeInfo) (z : Value) (bytes : Nat) (ht : P.underlying t = some (.slice e)) (hi : P.info? e = some i) (hz : i.zero = some z) (hsize : i.size = 1) (hby : i.bytes = bytes) (hzs : z.cells.size = 1)
    (B : Nat) (v : Value) (xs : List Value) (hs : a.eval s = v) (w : World) (hown : Own w B e v xs) (hB : B ≤ w.heap.size)
    (A : Option Addr) (n c : Nat) (ys : List Value) (hx : a.eval x = .slice A n c) (hsl : Sl w A n c ys) (hone : ∀ u ∈ ys, u.oneCell' = true) (hlen : (xs.length + n) * bytes ≤ 140737488355328) (h63 : xs.length + n ≤ maxLen)
    (h : ∀ v' w', Own w' B e v' (xs ++ ys) → Below B w w' → wpList P ops Q rest (a.put o.dst v') w') : wpList P ops Q (o :: rest) a w := by
  obtain ⟨hnc, hc, hA, hr⟩ := hsl
  have hyl : ys.length = n := hr.1
  have hl1 : (xs ++ ys).length = xs.length + n := by rw [List.length_append, hyl]
  cases A with
  | none =>
    have hc0 := hA rfl
    have hn0 : n = 0 := by omega
    subst hc0 hn0
    obtain rfl : ys = [] := List.eq_nil_of_length_eq_zero hyl
    refine wpList_append_own_none hgd s x t ho B e i 1 ht hi v xs.length xs hs hown hx ?_
    exact h v w (by rw [List.append_nil]; exact hown) (Below.refl _ _)
  | some ad =>
    refine wpList_append_own _ hgd s x t ho B e i z 1 bytes ht hi hz hsize hby hzs (by decide) v xs.length xs hs hown ad n c ys hx (by omega) (fun j u hu => ?_) hone h63 hlen hB ?_
    · obtain ⟨ad', e', _, h3⟩ := hr.2 j u hu
      cases e'
      exact h3
    · intro v' w' hown' hg _
      refine h v' w' (by unfold Own; rw [hl1]; exact hown') ?_
      exact (Below.refl B w).grown hg hB fun k hk => (hown.lt k hk).1
end
theorem lit_sl (w : World) (cs : Array Value) (T : TypeId) (xs : List Value) (n : Nat) (hx : cs.toList = xs) (hn : xs.length = n) (hm : n ≤ 9223372036854775807) : Sl (w.alloc (.cells cs T)) (some ⟨w.heap.size, 0, none⟩) n n xs := by
  refine ⟨Nat.le_refl _, hm, (fun e => by cases e), hn, fun j u hu => ⟨_, rfl, by simp, ?_⟩⟩
  rw [addr0, World.cell?_alloc_mark, ← hu, ← hx]
  simp
theorem Own.sl5 {w : World} {B : Nat} {v : Value} {l : List UInt8} (h : Own w B 5 v (byteCells l)) : ∃ A m c, v = .slice A m c ∧ m = l.length ∧ Sl w A m c (byteCells l) := by
  obtain ⟨A, c, rfl, hs⟩ := h.sl
  exact ⟨A, _, c, rfl, bytes_size l, hs⟩
def Far (w w' : World) (v v' : Value) : Prop := w.heap.size ≤ w'.heap.size ∧ ∀ g, g < w.heap.size → v.ownBlock ≠ some g → w'.heap[g]? = w.heap[g]? ∧ v'.ownBlock ≠ some g
def Lies (w : World) (v : Value) (A : Option Addr) (n c : Nat) (xs : List Value) : Prop := Sl w A n c xs ∧ (0 < n → ∀ ad, A = some ad → v.ownBlock ≠ some ad.block)
theorem Far.refl (w : World) (v : Value) : Far w w v v := ⟨Nat.le_refl _, fun _ _ h => ⟨rfl, h⟩⟩
theorem Far.trans {a b c : World} {u v x : Value} (h : Far a b u v) (k : Far b c v x) : Far a c u x :=
  ⟨Nat.le_trans h.1 k.1, fun g hg hu => by
    obtain ⟨h1, h2⟩ := h.2 g hg hu
    obtain ⟨k1, k2⟩ := k.2 g (Nat.lt_of_lt_of_le hg h.1) h2
    exact ⟨k1.trans h1, k2⟩⟩
theorem Far.of_below {w w' : World} {v : Value} (h : Below w.heap.size w w') : Far w w' v v := ⟨h.size, fun g hg hv => ⟨h.block g hg, hv⟩⟩
theorem Lies.far {w w' : World} {v v' : Value} {A : Option Addr} {n c : Nat} {xs : List Value} (h : Lies w v A n c xs) (hf : Far w w' v v') : Lies w' v' A n c xs := by
  obtain ⟨⟨h1, h2, h3, h4⟩, h5⟩ := h
  refine ⟨⟨h1, h2, h3, h4.1, fun k u hu => ?_⟩, fun hn ad e => ?_⟩
  · obtain ⟨ad, e, hb, hc⟩ := h4.2 k u hu
    have hn : 0 < n := by
      have := (List.getElem?_eq_some_iff.1 hu).1
      rw [h4.1] at this
      omega
    have hg := (hf.2 ad.block hb (h5 hn ad e)).1
    refine ⟨ad, e, Nat.lt_of_lt_of_le hb hf.1, ?_⟩
    rw [← hc]
    exact World.cell?_of_block (w := w) (by rw [Go.ChangeShapes.block_add]; exact hg)
  · obtain ⟨ad', u, e', hb, _⟩ := h4.at_ hn
    rw [e] at e'
    cases e'
    exact (hf.2 ad.block hb (h5 hn ad e)).2
theorem Lies.below {w w' : World} {v : Value} {A : Option Addr} {n c : Nat} {xs : List Value} (h : Lies w v A n c xs) (hb : Below w.heap.size w w') : Lies w' v A n c xs := h.far (Far.of_below hb)
theorem Lies.new {w w' : World} {B : Nat} {e : TypeId} {v : Value} {ws : List Value} {A : Option Addr} {n c : Nat} {xs : List Value} (hown : Own w B e v ws) (hs : Sl w' A n c xs) (hg : ∀ ad, A = some ad → w.heap.size ≤ ad.block) : Lies w' v A n c xs :=
  ⟨hs, fun hn ad e' hv => by
    have := (hown.lt _ hv).2
    have := hg ad e'
    omega⟩
section
variable {P : Program} {ops : Array Oper} {rest : List Oper} {o : Oper} {a : Act} {Q : Exit → Act → World → Prop}
theorem wp_push_far (hgd : o.guard = none) (s x : Operand) (t : TypeId) (ho : o.op = .call { callee := .builtin .append, args := #[s, x], argTypes := #[t, t] })
    (e : TypeId) (i : TypeInfo) (z : Value) (bytes : Nat) (ht : P.underlying t = some (.slice e)) (hi : P.info? e = some i) (hz : i.zero = some z) (hsize : i.size = 1) (hby : i.bytes = bytes) (hzs : z.cells.size = 1)
    (B : Nat) (v : Value) (xs : List Value) (hs : a.eval s = v) (w0 : World) (c : Value) (hc : c.oneCell' = true) (hown : Own w0 B e v xs) (hB : B ≤ w0.heap.size) (H : Nat) (hH : H = w0.heap.size)
    (hx : a.eval x = .slice (some ⟨H, 0, none⟩) 1 1) (hlen : (xs.length + 1) * bytes ≤ 140737488355328) (h63 : xs.length + 1 ≤ maxLen) (T : TypeId)
    (h : ∀ v' w', Own w' B e v' (xs ++ [c]) → Below B w0 w' → Far w0 w' v v' → wpList P ops Q rest (a.put o.dst v') w') : wpList P ops Q (o :: rest) a (w0.alloc (.cells #[c] T)) := by
  subst hH
  have hsz : w0.heap.size < (w0.alloc (.cells #[c] T)).heap.size := by simp
  have hone : ∀ u ∈ [c], u.oneCell' = true := by intro u hu; simp at hu; subst hu; exact hc
  have hl1 : (xs ++ [c]).length = xs.length + 1 := by simp
  refine wpList_append_own_at _ hgd s x t ho B e i z 1 bytes ht hi hz hsize hby hzs (by decide) v xs.length xs hs (hown.alloc _) ⟨w0.heap.size, 0, none⟩ 1 1 [c] hx rfl (c1_one _ _ _) hone h63 hlen (by omega) ?_
  intro v' w' hown' hg _ hat
  refine h v' w' (by unfold Own; rw [hl1]; exact hown') ?_ ⟨by have := hg.size; omega, fun g hlt hne => ⟨?_, ?_⟩⟩
  · exact ((Below.refl B w0).alloc hB _).grown hg (by omega) fun k hk => (hown.lt k hk).1
  · exact (hg.block g (by omega) (fun e => hne e.symm)).trans (((Below.refl w0.heap.size w0).alloc (Nat.le_refl _) _).block g hlt)
  · rcases hat with hat | hat
    · rw [hat]; exact hne
    · rw [hat]; intro e; injection e with e; omega
theorem wp_join_far (hgd : o.guard = none) (s x : Operand) (t : TypeId) (ho : o.op = .call { callee := .builtin .append, args := #[s, x], argTypes := #[t, t] })
    (e : TypeId) (i : TypeInfo) (z : Value) (bytes : Nat) (ht : P.underlying t = some (.slice e)) (hi : P.info? e = some i) (hz : i.zero = some z) (hsize : i.size = 1) (hby : i.bytes = bytes) (hzs : z.cells.size = 1)
    (B : Nat) (v : Value) (xs : List Value) (hs : a.eval s = v) (w : World) (hown : Own w B e v xs) (hB : B ≤ w.heap.size)
    (A : Option Addr) (n c : Nat) (ys : List Value) (hx : a.eval x = .slice A n c) (hsl : Sl w A n c ys) (hone : ∀ u ∈ ys, u.oneCell' = true) (hlen : (xs.length + n) * bytes ≤ 140737488355328) (h63 : xs.length + n ≤ maxLen)
    (h : ∀ v' w', Own w' B e v' (xs ++ ys) → Below B w w' → Far w w' v v' → wpList P ops Q rest (a.put o.dst v') w') : wpList P ops Q (o :: rest) a w := by
  obtain ⟨hnc, hc, hA, hr⟩ := hsl
  have hyl : ys.length = n := hr.1
  have hl1 : (xs ++ ys).length = xs.length + n := by rw [List.length_append, hyl]
  cases A with
  | none =>
    have hc0 := hA rfl
    have hn0 : n = 0 := by omega
    subst hc0 hn0
    obtain rfl : ys = [] := List.eq_nil_of_length_eq_zero hyl
    refine wpList_append_own_none hgd s x t ho B e i 1 ht hi v xs.length xs hs hown hx ?_
    exact h v w (by rw [List.append_nil]; exact hown) (Below.refl _ _) (Far.refl _ _)
  | some ad =>
    refine wpList_append_own_at _ hgd s x t ho B e i z 1 bytes ht hi hz hsize hby hzs (by decide) v xs.length xs hs hown ad n c ys hx (by omega) (fun j u hu => ?_) hone h63 hlen hB ?_
    · obtain ⟨ad', e', _, h3⟩ := hr.2 j u hu
      cases e'
      exact h3
    · intro v' w' hown' hg _ hat
      refine h v' w' (by unfold Own; rw [hl1]; exact hown') ?_ ⟨hg.size, fun g hlt hne => ⟨hg.block g hlt (fun e => hne e.symm), ?_⟩⟩
      · exact (Below.refl B w).grown hg hB fun k hk => (hown.lt k hk).1
      · rcases hat with hat | hat
        · rw [hat]; exact hne
        · rw [hat]; intro e; injection e with e; omega
end
def numCells (l : List Int) : List Value := l.map fun n => .int .i64 n
theorem num_len (l : List Int) : (numCells l).length = l.length := by simp [numCells]
theorem num_app (l m : List Int) : numCells (l ++ m) = numCells l ++ numCells m := by simp [numCells]
theorem num_cell {w : World} {B n : Nat} {A : Option Addr} {l : List Int} (h : Reads w B A n (numCells l)) {k : Nat} (hk : k < n) : ∃ ad z, A = some ad ∧ l[k]? = some z ∧ w.cell? (ad.add k) = some (.int .i64 z) := by
  obtain ⟨ad, u, hA, _, hu, hc⟩ := h.at_ hk
  unfold numCells at hu
  rw [List.getElem?_map] at hu
  cases hz : l[k]? with
  | none => rw [hz] at hu; simp at hu
  | some z => rw [hz] at hu; simp at hu; exact ⟨ad, z, hA, rfl, by rw [hc, ← hu]⟩
theorem Sl.nlen {w : World} {A : Option Addr} {n c : Nat} {xs : List Int} (h : Sl w A n c (numCells xs)) : xs.length = n := by rw [← num_len]; exact h.reads.1
theorem Own.slI {w : World} {B : Nat} {v : Value} {l : List Int} (h : Own w B 3 v (numCells l)) : ∃ A m c, v = .slice A m c ∧ m = l.length ∧ Sl w A m c (numCells l) := by
  obtain ⟨A, c, rfl, hs⟩ := h.sl
  exact ⟨A, _, c, rfl, num_len l, hs⟩
def GrewI (w : World) (l : List Int) (e : Ending) (w' : World) : Prop := ∃ v, e = .returned v ∧ Own w' w.heap.size 3 v (numCells l) ∧ Below w.heap.size w w'
theorem GrewI.sl {w w' : World} {l : List Int} {e : Ending} (h : GrewI w l e w') : ∃ A m c, e = .returned (.slice A m c) ∧ m = l.length ∧ Sl w' A m c (numCells l) ∧ Below w.heap.size w w' := by
  obtain ⟨v, rfl, ho, hb⟩ := h
  obtain ⟨A, m, c, rfl, hm, hs⟩ := ho.slI
  exact ⟨A, m, c, rfl, hm, hs, hb⟩
end Go.Proofs.YtlnbjdlooghpeaaGreatDoor
namespace Go.Proofs.YtlnbjdlooghpeaaGreatDoor
open Go.RowKit
open Go.ChangeShapes (block_add)
def RgS (W : World) (ok : Nat → Prop) (A : Option Addr) (n c : Nat) (set : List (UInt8 × UInt8)) : Prop :=
  n ≤ c ∧ c ≤ 9223372036854775807 ∧ set.length = n ∧ ∀ i r, set[i]? = some r → ∃ g o, A = some ⟨g, o, none⟩ ∧ ok g ∧ W.cell? ⟨g, o + i * 2, none⟩ = some (.int .u8 (r.1.toNat : Int)) ∧ W.cell? ⟨g, o + i * 2 + 1, none⟩ = some (.int .u8 (r.2.toNat : Int))
def VsS (W : World) (ok : Nat → Prop) (B : Option Addr) (m d : Nat) (vs : List Value) : Prop :=
  m ≤ d ∧ d ≤ 9223372036854775807 ∧ vs.length = m ∧ ∀ i v, vs[i]? = some v → ∃ g o c0 c1 c2 c3 c4, B = some ⟨g, o, none⟩ ∧ ok g ∧ v = .agg #[c0, c1, c2, c3, c4] ∧
    W.cell? ⟨g, o + i * 5, none⟩ = some c0 ∧ W.cell? ⟨g, o + i * 5 + 1, none⟩ = some c1 ∧ W.cell? ⟨g, o + i * 5 + 2, none⟩ = some c2 ∧ W.cell? ⟨g, o + i * 5 + 3, none⟩ = some c3 ∧ W.cell? ⟨g, o + i * 5 + 4, none⟩ = some c4
inductive RxV (W : World) (ok : Nat → Prop) : Value → Rx → Prop
  | mk (k a b : Int) (A B : Option Addr) (n c m d : Nat) (set : List (UInt8 × UInt8)) (vs : List Value) (l : List Rx) (hset : RgS W ok A n c set) (hvs : VsS W ok B m d vs) (hlen : l.length = m)
      (hk : -9223372036854775808 ≤ k ∧ k ≤ 9223372036854775807) (ha : -9223372036854775808 ≤ a ∧ a ≤ 9223372036854775807) (hb : -9223372036854775808 ≤ b ∧ b ≤ 9223372036854775807)
      (hr : ∀ (i : Nat) (v : Value) (x : Rx), vs[i]? = some v → l[i]? = some x → RxV W ok v x) : RxV W ok (.agg #[.int .i64 k, .slice A n c, .int .i64 a, .int .i64 b, .slice B m d]) (.mk k set a b l)
section
variable {W W' : World} {ok ok' : Nat → Prop}
theorem RgS.map {A : Option Addr} {n c : Nat} {set : List (UInt8 × UInt8)} (h : RgS W ok A n c set) (hc : ∀ (p : Addr), ok p.block → p.block < W.heap.size → W'.cell? p = W.cell? p) (ho : ∀ g, ok g → g < W.heap.size → ok' g) : RgS W' ok' A n c set := by
  refine ⟨h.1, h.2.1, h.2.2.1, fun i r hr => ?_⟩
  obtain ⟨g, o, hA, hg, h0, h1⟩ := h.2.2.2 i r hr
  have hlt : g < W.heap.size := World.block_lt_of_cell? _ _ h0
  exact ⟨g, o, hA, ho g hg hlt, (hc ⟨g, o + i * 2, none⟩ hg hlt).trans h0, (hc ⟨g, o + i * 2 + 1, none⟩ hg hlt).trans h1⟩
theorem VsS.map {B : Option Addr} {m d : Nat} {vs : List Value} (h : VsS W ok B m d vs) (hc : ∀ (p : Addr), ok p.block → p.block < W.heap.size → W'.cell? p = W.cell? p) (ho : ∀ g, ok g → g < W.heap.size → ok' g) : VsS W' ok' B m d vs := by
  refine ⟨h.1, h.2.1, h.2.2.1, fun i v hv => ?_⟩
  obtain ⟨g, o, c0, c1, c2, c3, c4, hB, hg, e, h0, h1, h2, h3, h4⟩ := h.2.2.2 i v hv
  have hlt : g < W.heap.size := World.block_lt_of_cell? _ _ h0
  exact ⟨g, o, c0, c1, c2, c3, c4, hB, ho g hg hlt, e, (hc ⟨g, _, none⟩ hg hlt).trans h0, (hc ⟨g, _, none⟩ hg hlt).trans h1, (hc ⟨g, _, none⟩ hg hlt).trans h2, (hc ⟨g, _, none⟩ hg hlt).trans h3, (hc ⟨g, _, none⟩ hg hlt).trans h4⟩
theorem RxV.map {v : Value} {r : Rx} (h : RxV W ok v r) (hc : ∀ (p : Addr), ok p.block → p.block < W.heap.size → W'.cell? p = W.cell? p) (ho : ∀ g, ok g → g < W.heap.size → ok' g) : RxV W' ok' v r := by
  induction h with
  | mk k a b A B n c m d set vs l hset hvs hlen hk ha hb hr ih => exact .mk k a b A B n c m d set vs l (hset.map hc ho) (hvs.map hc ho) hlen hk ha hb ih
theorem RgS.below {A : Option Addr} {n c : Nat} {set : List (UInt8 × UInt8)} (h : RgS W ok A n c set) (hb : Below W.heap.size W W') : RgS W' ok A n c set := h.map (fun _ _ hp => hb.cell hp) fun _ h _ => h
theorem VsS.below {B : Option Addr} {m d : Nat} {vs : List Value} (h : VsS W ok B m d vs) (hb : Below W.heap.size W W') : VsS W' ok B m d vs := h.map (fun _ _ hp => hb.cell hp) fun _ h _ => h
theorem RxV.kept {v : Value} {r : Rx} (h : RxV W ok v r) (hb : Below W.heap.size W W') : RxV W' ok v r := h.map (fun _ _ hp => hb.cell hp) fun _ h _ => h
theorem RgS.at_ {A : Option Addr} {n c : Nat} {set : List (UInt8 × UInt8)} (h : RgS W ok A n c set) {i : Nat} (hi : i < n) :
    ∃ g o r, A = some ⟨g, o, none⟩ ∧ set[i]? = some r ∧ W.cell? ⟨g, o + i * 2, none⟩ = some (.int .u8 (r.1.toNat : Int)) ∧ W.cell? ⟨g, o + i * 2 + 1, none⟩ = some (.int .u8 (r.2.toNat : Int)) := by
  have hl : i < set.length := by rw [h.2.2.1]; exact hi
  obtain ⟨g, o, hA, _, h0, h1⟩ := h.2.2.2 i _ (List.getElem?_eq_getElem hl)
  exact ⟨g, o, set[i], hA, List.getElem?_eq_getElem hl, h0, h1⟩
theorem VsS.at_ {B : Option Addr} {m d : Nat} {vs : List Value} (h : VsS W ok B m d vs) {i : Nat} (hi : i < m) :
    ∃ g o c0 c1 c2 c3 c4, B = some ⟨g, o, none⟩ ∧ vs[i]? = some (.agg #[c0, c1, c2, c3, c4]) ∧
    W.cell? ⟨g, o + i * 5, none⟩ = some c0 ∧ W.cell? ⟨g, o + i * 5 + 1, none⟩ = some c1 ∧ W.cell? ⟨g, o + i * 5 + 2, none⟩ = some c2 ∧ W.cell? ⟨g, o + i * 5 + 3, none⟩ = some c3 ∧ W.cell? ⟨g, o + i * 5 + 4, none⟩ = some c4 := by
  have hl : i < vs.length := by rw [h.2.2.1]; exact hi
  obtain ⟨g, o, c0, c1, c2, c3, c4, hB, _, e, h0⟩ := h.2.2.2 i _ (List.getElem?_eq_getElem hl)
  exact ⟨g, o, c0, c1, c2, c3, c4, hB, by rw [List.getElem?_eq_getElem hl, e], h0⟩
end
def Five (w : World) (b : Nat) (c0 c1 c2 c3 c4 : Value) : Prop :=
  b < w.heap.size ∧ w.cell? ⟨b, 0, none⟩ = some c0 ∧ w.cell? ⟨b, 1, none⟩ = some c1 ∧ w.cell? ⟨b, 2, none⟩ = some c2 ∧ w.cell? ⟨b, 3, none⟩ = some c3 ∧ w.cell? ⟨b, 4, none⟩ = some c4
theorem five_new (w : World) (c0 c1 c2 c3 c4 : Value) (T : TypeId) : Five (w.alloc (.cells #[c0, c1, c2, c3, c4] T)) w.heap.size c0 c1 c2 c3 c4 := by
  refine ⟨by simp, ?_, ?_, ?_, ?_, ?_⟩ <;> (rw [World.cell?_alloc_mark]; rfl)
theorem Five.keep {w w' : World} {b : Nat} {c0 c1 c2 c3 c4 : Value} (h : Five w b c0 c1 c2 c3 c4) (hb : Below w.heap.size w w') : Five w' b c0 c1 c2 c3 c4 := by
  obtain ⟨h0, h1, h2, h3, h4, h5⟩ := h
  have key : ∀ (k : Nat) (u : Value), w.cell? ⟨b, k, none⟩ = some u → w'.cell? ⟨b, k, none⟩ = some u := fun k u hu => (hb.cell (p := ⟨b, k, none⟩) h0).trans hu
  exact ⟨Nat.lt_of_lt_of_le h0 hb.size, key _ _ h1, key _ _ h2, key _ _ h3, key _ _ h4, key _ _ h5⟩
end Go.Proofs.YtlnbjdlooghpeaaGreatDoor
namespace Go.Proofs.YtlnbjdlooghpeaaGreatDoor
open Go.RowKit
end Go.Proofs.YtlnbjdlooghpeaaGreatDoor
namespace Go.Proofs.YtlnbjdlooghpeaaGreatDoor
open Go.RowKit
theorem bel_drew (w : World) : Below w.heap.size w w.drew := ⟨rfl, rfl, rfl, Nat.le_refl _, fun _ _ => rfl⟩
theorem int_ne {a b : Int} (h : a ≠ b) : (a != b) = true := by rw [bne_iff_ne]; exact h
theorem int_eq {a b : Int} (h : a = b) : (a != b) = false := by rw [h]; simp
end Go.Proofs.YtlnbjdlooghpeaaGreatDoor
