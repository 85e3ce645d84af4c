/- Small lemmas on memory that every seat uses: rows of the call's own, slices that read as lists, worlds that have only drawn, structs of two cells. -/
import Derived.WalkKit
import Derived.WalkSpells
import Derived.WalkLawsBesides
import Derived.OneCell
import Derived.Deep.QuietTactic
import Derived.BigQuiet
import Derived.Shelf.Strings.LastIndex
namespace Go.Proofs.YteokeljmggdecaaDoor
open Go.RowKit

open Go.RowKit

theorem hide {p : Prop} (h : p) : Hid p := h

theorem ret_int {k : IntKind} {a b : Int} (h : a = b) : Ending.returned (.int k a) = .returned (.int k b) := by rw [h]

theorem ret_bool {a b : Bool} (h : a = b) : Ending.returned (.bool a) = .returned (.bool b) := by rw [h]

theorem addr0 (g j : Nat) : (⟨g, 0, none⟩ : Addr).add j = ⟨g, j, none⟩ := by
  unfold Addr.add
  split <;> simp_all

theorem c1_one (w : World) (x : Value) (T : TypeId) : ∀ (j : Nat) (u : Value), [x][j]? = some u → (w.alloc (.cells #[x] T)).cell? ((⟨w.heap.size, 0, none⟩ : Addr).add j) = some u := by
  intro j u h
  match j, h with
  | 0, h =>
    simp at h
    subst h
    rw [addr0, World.cell?_alloc_mark]
    rfl

theorem c2_one (k : IntKind) (n : Int) : ∀ u ∈ [Value.int k n], u.oneCell' = true := by
  intro u hu
  simp at hu
  subst hu
  rfl

theorem c2_str (s : ByteArray) : ∀ u ∈ [Value.string s], u.oneCell' = true := by
  intro u hu
  simp at hu
  subst hu
  rfl

theorem c5_one (w wr : World) (o : Obj) (h : Below w.heap.size w wr) : w.heap.size ≤ (wr.alloc o).heap.size := by
  have := h.size
  simp
  omega

/-- Behind an append to a row of the call's own. -/
theorem below_app {w wr w1 : World} {o : Obj} {v : Value} {e : TypeId} {size n : Nat} {xs : List Value} (h : Below w.heap.size w wr) (hown : wr.ownsRow w.heap.size e size v n xs) (hg : (wr.alloc o).grownBy w1 v.ownBlock) : Below w.heap.size w w1 :=
  (h.alloc h.size o).grown hg (c5_one w wr o h) fun k hk => (hown.lt k hk).1

def nums (l : List Nat) : List Value := l.map fun (n : Nat) => Value.int .i64 (n : Int)

open Go.RowKit

theorem getD_byte (s : ByteArray) (k : Nat) (h : k < s.size) : s.data.toList.getD k 0 = s[k] := by
  rw [List.getD_eq_getElem?_getD, List.getElem?_eq_getElem (by simpa using h)]
  rfl

theorem size_list (s : ByteArray) : s.data.toList.length = s.size := by simp

open Go.RowKit

/-- Block Bl is a captured slice variable that owns the cells xs. -/
def Cap (B Bl : Nat) (T e : TypeId) (sz n : Nat) (xs : List Value) (w : World) : Prop :=
  B ≤ Bl ∧ ∃ v, w.heap[Bl]? = some (.cells #[v] T (0, 0)) ∧ w.ownsRow B e sz v n xs

theorem cap_push {B Bl : Nat} {T e : TypeId} {sz n m : Nat} {xs ys : List Value} {wr W0 w1 : World} {v v' : Value} (hB : B ≤ Bl) (hTe : T ≠ e) (hn : 0 < m)
    (hv : wr.heap[Bl]? = some (.cells #[v] T (0, 0))) (hown : wr.ownsRow B e sz v n xs) (hb0 : Below wr.heap.size wr W0)
    (hown' : w1.ownsRow B e sz v' m ys) (hgrow : W0.grownBy w1 v.ownBlock) :
    (∃ g' cap', v' = .slice (some ⟨g', 0, none⟩) m cap') ∧ w1.cell? ⟨Bl, 0, none⟩ = some v ∧ w1.frozen? ⟨Bl, 0, none⟩ = false ∧ Cap B Bl T e sz m ys (w1.setCell ⟨Bl, 0, none⟩ v') ∧ Below B wr (w1.setCell ⟨Bl, 0, none⟩ v') := by
  have hBl := lt_of_block hv
  have hne : some Bl ≠ v.ownBlock := fun e => by
    rcases hown.2 with ⟨rfl, _⟩ | ⟨g, cap, cur, rfl, hg, hh, _⟩
    · simp [Value.ownBlock] at e
    · simp only [Value.ownBlock, Option.some.injEq] at e
      subst e
      rw [hh] at hv
      simp at hv
      exact hTe hv.2.symm
  have hlo : ∀ k, v.ownBlock = some k → B ≤ k := fun k hk => (hown.lt k hk).1
  have hbel : Below B wr w1 := by
    refine (hb0.mono (by omega)).trans ⟨hgrow.os, hgrow.tape, hgrow.output, hgrow.size, fun k hk => hgrow.block k (by have := hb0.size; omega) fun e => ?_⟩
    have := hlo k e.symm
    omega
  have hv1 : w1.heap[Bl]? = some (.cells #[v] T (0, 0)) := (hgrow.block Bl (by have := hb0.size; omega) hne).trans ((hb0.block Bl hBl).trans hv)
  have hne' : v'.ownBlock ≠ some Bl := fun e => by
    rcases hown'.2 with ⟨rfl, _⟩ | ⟨g, cap, cur, rfl, hg, hh, _⟩
    · simp [Value.ownBlock] at e
    · simp only [Value.ownBlock, Option.some.injEq] at e
      subst e
      rw [hh] at hv1
      simp at hv1
      exact hTe hv1.2.symm
  have hex : ∃ g' cap', v' = .slice (some ⟨g', 0, none⟩) m cap' := by
    rcases hown'.2 with ⟨_, h0⟩ | ⟨g', cap', _, h, _⟩
    · omega
    · exact ⟨g', cap', h⟩
  exact ⟨hex, cell_of_one hv1, free_of_one hv1, ⟨hB, v', one_setCell hv1, ownsRow_setCell_other hown' hne' v'⟩, hbel.setCell (by exact hB) _⟩

theorem c1_at (w : World) (x : Value) (T : TypeId) (g : Nat) (hg : g = w.heap.size) : ∀ (j : Nat) (u : Value), [x][j]? = some u → (w.alloc (.cells #[x] T)).cell? ((⟨g, 0, none⟩ : Addr).add j) = some u := by
  subst hg; exact c1_one w x T

theorem toList_extract_end (s : ByteArray) (a : Nat) : (s.extract a s.size).data.toList = s.data.toList.drop a := by
  simp
  rw [List.take_of_length_le (by simp)]

open Go.RowKit

theorem own_far {w : World} {B e : Nat} {sz n b : Nat} {T : TypeId} {v : Value} {xs : List Value} {cs : Array Value} {fr : Nat × Nat} (hown : w.ownsRow B e sz v n xs) (hb : w.heap[b]? = some (.cells cs T fr)) (hTe : T ≠ e) : v.ownBlock ≠ some b := fun h => by
  rcases hown.2 with ⟨rfl, _⟩ | ⟨g, cap, cur, rfl, hg, hh, _⟩
  · simp [Value.ownBlock] at h
  · simp only [Value.ownBlock, Option.some.injEq] at h
    subst h
    rw [hh] at hb
    simp at hb
    exact hTe hb.2.1.symm

theorem owns_mono {w : World} {B B' e : Nat} {sz n : Nat} {v : Value} {xs : List Value} (h : w.ownsRow B e sz v n xs) (hB : B' ≤ B) : w.ownsRow B' e sz v n xs := by
  obtain ⟨h1, h2⟩ := h
  refine ⟨h1, ?_⟩
  rcases h2 with h2 | ⟨g, cap, cur, hv, hg, r⟩
  · exact Or.inl h2
  · exact Or.inr ⟨g, cap, cur, hv, by omega, r⟩

open Go.RowKit

/-- The slice v of n elements of sz cells reads as xs. -/
def Rd (w : World) (v : Value) (n sz : Nat) (xs : List Value) : Prop :=
  xs.length = n * sz ∧ ∃ ao cap, v = .slice ao n cap ∧ n ≤ cap ∧ (0 < n → ∃ g, ao = some ⟨g, 0, none⟩ ∧ g < w.heap.size ∧ ∀ j, j < n * sz → w.cell? ⟨g, j, none⟩ = xs[j]?)

theorem Rd.of_owns {w : World} {B e : Nat} {sz n : Nat} {v : Value} {xs : List Value} (h : w.ownsRow B e sz v n xs) : Rd w v n sz xs := by
  refine ⟨h.1, ?_⟩
  rcases h.2 with ⟨rfl, rfl⟩ | ⟨g, cap, cur, rfl, hg, hh, hcap, r⟩
  · exact ⟨none, 0, rfl, Nat.le_refl _, fun h => by omega⟩
  · exact ⟨_, cap, rfl, hcap, fun _ => ⟨g, rfl, lt_of_block hh, fun j hj => h.cellAt j hj⟩⟩

theorem Rd.below {w w' : World} {n sz : Nat} {v : Value} {xs : List Value} (h : Rd w v n sz xs) (hb : Below w.heap.size w w') : Rd w' v n sz xs := by
  obtain ⟨h1, ao, cap, hv, hcap, h2⟩ := h
  refine ⟨h1, ao, cap, hv, hcap, fun hn => ?_⟩
  obtain ⟨g, hg, hlt, hc⟩ := h2 hn
  exact ⟨g, hg, by have := hb.size; omega, fun j hj => (hb.cell (p := ⟨g, j, none⟩) hlt).trans (hc j hj)⟩

def Drawn (w w' : World) : Prop := ∃ m, w' = w.drewN m

theorem Drawn.refl (w : World) : Drawn w w := ⟨0, rfl⟩

theorem Drawn.more {w w' : World} (h : Drawn w w') (m : Nat) : Drawn w (w'.drewN m) := by
  obtain ⟨k, rfl⟩ := h
  exact ⟨k + m, by simp⟩

theorem Drawn.cell {w w' : World} (h : Drawn w w') (a : Addr) : w'.cell? a = w.cell? a := by
  obtain ⟨k, rfl⟩ := h
  rfl

theorem Drawn.below {w w' : World} (h : Drawn w w') (B : Nat) : Below B w w' := by
  obtain ⟨k, rfl⟩ := h
  exact ⟨rfl, rfl, rfl, Nat.le_refl _, fun _ _ => rfl⟩

def spans : List (Nat × Nat) → List Value
  | [] => []
  | (a, b) :: l => .int .i64 (a : Int) :: .int .i64 (b : Int) :: spans l

theorem spans_len (l : List (Nat × Nat)) : (spans l).length = l.length * 2 := by
  induction l with
  | nil => rfl
  | cons x l ih => simp [spans, ih]; omega

theorem spans_get : ∀ (l : List (Nat × Nat)) (k : Nat) (t : Nat × Nat), l[k]? = some t → (spans l)[k * 2]? = some (.int .i64 (t.1 : Int)) ∧ (spans l)[k * 2 + 1]? = some (.int .i64 (t.2 : Int)) := by
  intro l
  induction l with
  | nil => intro k t h; simp at h
  | cons x l ih =>
    intro k t h
    cases k with
    | zero => simp at h; subst h; exact ⟨rfl, rfl⟩
    | succ k =>
      have := ih k t (by simpa using h)
      rw [show (k + 1) * 2 = k * 2 + 1 + 1 by omega]
      exact this

theorem spans_append (l m : List (Nat × Nat)) : spans (l ++ m) = spans l ++ spans m := by
  induction l with
  | nil => rfl
  | cons x l ih => simp [spans, ih]

/-- The slice of n elements of sz cells at ao reads as xs. -/
def RdS (w : World) (ao : Option Addr) (n cap sz : Nat) (xs : List Value) : Prop :=
  xs.length = n * sz ∧ n ≤ cap ∧ (0 < n → ∃ g, ao = some ⟨g, 0, none⟩ ∧ g < w.heap.size ∧ ∀ j, j < n * sz → w.cell? ⟨g, j, none⟩ = xs[j]?)

theorem Rd.s {w : World} {v : Value} {n sz : Nat} {xs : List Value} (h : Rd w v n sz xs) : ∃ ao cap, v = .slice ao n cap ∧ RdS w ao n cap sz xs := by
  obtain ⟨h1, ao, cap, hv, h2⟩ := h
  exact ⟨ao, cap, hv, h1, h2⟩

theorem RdS.rd {w : World} {ao : Option Addr} {n cap sz : Nat} {xs : List Value} (h : RdS w ao n cap sz xs) : Rd w (.slice ao n cap) n sz xs := ⟨h.1, ao, cap, rfl, h.2⟩

theorem RdS.below {w w' : World} {ao : Option Addr} {n cap sz : Nat} {xs : List Value} (h : RdS w ao n cap sz xs) (hb : Below w.heap.size w w') : RdS w' ao n cap sz xs := by
  obtain ⟨ao', cap', hv, h'⟩ := (h.rd.below hb).s
  simp at hv
  obtain ⟨rfl, rfl⟩ := hv
  exact h'

theorem RdS.at {w : World} {ao : Option Addr} {n cap : Nat} {xs : List Value} (h : RdS w ao n cap 1 xs) {k : Nat} (hk : k < n) : ∃ g, ao = some ⟨g, 0, none⟩ ∧ ∃ x, xs[k]? = some x ∧ w.cell? ⟨g, k, none⟩ = some x := by
  obtain ⟨g, hg, _, hc⟩ := h.2.2 (by omega)
  have hx : k < xs.length := by have := h.1; omega
  exact ⟨g, hg, xs[k], List.getElem?_eq_getElem hx, (hc k (by omega)).trans (List.getElem?_eq_getElem hx)⟩

theorem nums_get (l : List Nat) (k : Nat) (x : Value) (h : (nums l)[k]? = some x) : ∃ a, l[k]? = some a ∧ x = .int .i64 (a : Int) := by
  unfold nums at h
  rw [List.getElem?_map] at h
  cases hl : l[k]? with
  | none => rw [hl] at h; simp at h
  | some a => rw [hl] at h; simp at h; exact ⟨a, rfl, h.symm⟩

theorem c1_two (w : World) (x y : Value) (T : TypeId) : ∀ (j : Nat) (u : Value), [x, y][j]? = some u → (w.alloc (.cells #[x, y] T)).cell? ((⟨w.heap.size, 0, none⟩ : Addr).add j) = some u := by
  intro j u h
  match j, h with
  | 0, h =>
    simp at h
    subst h
    rw [addr0, World.cell?_alloc_mark]
    rfl
  | 1, h =>
    simp at h
    subst h
    rw [addr0, World.cell?_alloc_mark]
    rfl

theorem c2_two (k : IntKind) (n m : Int) : ∀ u ∈ [Value.int k n, Value.int k m], u.oneCell' = true := by
  intro u hu
  simp at hu
  rcases hu with hu | hu <;> (subst hu; rfl)

theorem two_new (w : World) (x y : Value) (T : TypeId) (w1 : World) (hb : Below (w.alloc (.cells #[x, y] T)).heap.size (w.alloc (.cells #[x, y] T)) w1) :
    w1.cell? ⟨w.heap.size, 0, none⟩ = some x ∧ w1.cell? ⟨w.heap.size, 1, none⟩ = some y ∧ w1.frozen? ⟨w.heap.size, 0, none⟩ = false ∧ w1.frozen? ⟨w.heap.size, 1, none⟩ = false ∧ w.heap.size < w1.heap.size := by
  have hlt : w.heap.size < (w.alloc (.cells #[x, y] T)).heap.size := by simp
  refine ⟨?_, ?_, ?_, ?_, ?_⟩
  · rw [hb.cell (p := ⟨w.heap.size, 0, none⟩) hlt, World.cell?_alloc_mark]; rfl
  · rw [hb.cell (p := ⟨w.heap.size, 1, none⟩) hlt, World.cell?_alloc_mark]; rfl
  · rw [hb.frozen (p := ⟨w.heap.size, 0, none⟩) hlt, World.frozen?_alloc_mark]; simp
  · rw [hb.frozen (p := ⟨w.heap.size, 1, none⟩) hlt, World.frozen?_alloc_mark]; simp
  · have := hb.size; omega

open Go.RowKit

theorem toList_extract0 (s : ByteArray) (a : Nat) : (s.extract 0 a).data.toList = s.data.toList.take a := by
  simp

open Go.RowKit

theorem quiet_left {P : Program} {f : FuncId} {args : Array Value} {w : World} {n : Nat} {v : Value}
    (h : Calls P f args (w.drewN n) fun e w' => e = .returned v ∧ w.drewN n = w') : Calls P f args (w.drewN n) fun e w'' => e = .returned v ∧ ∃ m, w'' = w.drewN m :=
  h.mono fun _ _ ⟨he, hm⟩ => ⟨he, n, hm.symm⟩

open Go.RowKit

theorem rd_lit (w : World) (cs : Array Value) (T : TypeId) (n sz : Nat) (h : cs.size = n * sz) : Rd (w.alloc (.cells cs T)) (.slice (some ⟨w.heap.size, 0, none⟩) n n) n sz cs.toList :=
  ⟨by simpa using h, _, n, rfl, Nat.le_refl _, fun _ => ⟨w.heap.size, rfl, by simp, fun j _ => by rw [World.cell?_alloc_mark]; simp⟩⟩

open Go.RowKit

theorem bgo {a b c : World} (h : Below a.heap.size a b) (k : Below b.heap.size b c) : Below a.heap.size a c := h.trans (k.mono h.size)

theorem bnew {a b : World} (h : Below a.heap.size a b) (o : Obj) : Below a.heap.size a (b.alloc o) := h.alloc h.size o

theorem bdr {a b : World} (h : Below a.heap.size a b) (m : Nat) : Below a.heap.size a (b.drewN m) := h.trans (Drawn.below ⟨m, rfl⟩ _)

/-- Block b holds the two cells x and y. -/
def Two (w : World) (b : Nat) (x y : Value) : Prop := b < w.heap.size ∧ w.cell? ⟨b, 0, none⟩ = some x ∧ w.cell? ⟨b, 1, none⟩ = some y

theorem Two.keep {w w' : World} {b : Nat} {x y : Value} (h : Two w b x y) (hb : Below w.heap.size w w') : Two w' b x y :=
  ⟨by have := hb.size; have := h.1; omega, (hb.cell (p := ⟨b, 0, none⟩) h.1).trans h.2.1, (hb.cell (p := ⟨b, 1, none⟩) h.1).trans h.2.2⟩

theorem two_alloc (w : World) (x y : Value) (T : TypeId) : Two (w.alloc (.cells #[x, y] T)) w.heap.size x y :=
  ⟨by simp, by rw [World.cell?_alloc_mark]; rfl, by rw [World.cell?_alloc_mark]; rfl⟩

theorem Two.new {w : World} {b : Nat} {x y : Value} (h : Two w b x y) (o : Obj) : Two (w.alloc o) b x y := h.keep (bnew (Below.refl _ _) o)

/-- Block b holds the two cells x and y, and may be written. -/
def TwoF (w : World) (b : Nat) (x y : Value) : Prop := Two w b x y ∧ w.frozen? ⟨b, 0, none⟩ = false ∧ w.frozen? ⟨b, 1, none⟩ = false

theorem TwoF.keep {w w' : World} {b : Nat} {x y : Value} (h : TwoF w b x y) (hb : Below w.heap.size w w') : TwoF w' b x y :=
  ⟨h.1.keep hb, (hb.frozen (p := ⟨b, 0, none⟩) h.1.1).trans h.2.1, (hb.frozen (p := ⟨b, 1, none⟩) h.1.1).trans h.2.2⟩

theorem twoF_alloc (w : World) (x y : Value) (T : TypeId) : TwoF (w.alloc (.cells #[x, y] T)) w.heap.size x y :=
  ⟨two_alloc w x y T, by rw [World.frozen?_alloc_mark]; simp, by rw [World.frozen?_alloc_mark]; simp⟩

theorem TwoF.put {w : World} {b : Nat} {x y : Value} (h : TwoF w b x y) (u v : Value) : TwoF ((w.setCell ⟨b, 0, none⟩ u).setCell ⟨b, 1, none⟩ v) b u v := by
  obtain ⟨⟨h0, h1, h2⟩, f0, f1⟩ := h
  refine ⟨⟨by simpa [World.setCell] using h0, ?_, ?_⟩, by simpa using f0, by simpa using f1⟩
  · rw [World.cell?_setCell_other _ _ _ _ (fun e => absurd (congrArg Addr.off e) (by simp)), World.cell?_setCell_same _ _ _ h1]
  · refine World.cell?_setCell_same _ _ _ (u := y) ?_
    rw [World.cell?_setCell_other _ _ _ _ (fun e => absurd (congrArg Addr.off e) (by simp))]
    exact h2

theorem Two.far {w : World} {b c : Nat} {x y : Value} (h : Two w b x y) (hc : b ≠ c) (o : Nat) (u : Value) : Two (w.setCell ⟨c, o, none⟩ u) b x y := by
  obtain ⟨h0, h1, h2⟩ := h
  refine ⟨by simpa [World.setCell] using h0, ?_, ?_⟩
  · rw [World.cell?_setCell_other _ _ _ _ (fun e => hc (congrArg Addr.block e).symm)]; exact h1
  · rw [World.cell?_setCell_other _ _ _ _ (fun e => hc (congrArg Addr.block e).symm)]; exact h2

theorem ba_ext {a b : ByteArray} (h : a.data.toList = b.data.toList) : a = b := ByteArray.ext (Array.ext' h)

theorem not_empty (s : ByteArray) (h : 0 < s.size) : s.toList.isEmpty = false := by
  cases h1 : s.toList.isEmpty with
  | false => rfl
  | true =>
    have h2 : s = ByteArray.empty := LastIndex.eq_of_toList (by rw [List.isEmpty_iff.1 h1]; simp [ByteArray.toList, ByteArray.toList.loop])
    rw [h2] at h
    exact absurd h (by decide)

end Go.Proofs.YteokeljmggdecaaDoor
