/- Layer 9: TA, TB. -/
import Derived.Test.YtkghbhcjgogaeaaDoorGv
import Derived.Deep.Cut
/-! ### TA -/
namespace Go.Proofs.YtkghbhcjgogaeaaDoor
open Go.RowKit

def oneR (c : UInt8) : Rx := .mk 1 [(c, c)] 0 0 []
def seqR (l : List Rx) : Rx := .mk 2 [] 0 0 l
def timR (a b : Int) (x : Rx) : Rx := .mk 4 [] a b [x]
def plusR : Rx := timR 1 (-1) (oneR 98)
def starR : Rx := timR 0 (-1) (oneR 97)
def altR : Rx := .mk 3 [] 0 0 [oneR 97, seqR [oneR 97, oneR 98]]
def boundR : Rx := .mk 7 [] 0 0 []
def apcR : Rx := seqR [oneR 97, plusR, oneR 99]
def bbR : Rx := seqR [.mk 5 [] 0 0 [], oneR 98]
def fR : Rx := seqR [boundR, oneR 102, boundR]
theorem ex1 : findP apcR (⟨#[120, 97, 98, 98, 99]⟩ : ByteArray).data.toList 0 = some (1, 5) := by decide +kernel
theorem ex2 : endsA apcR (⟨#[120, 97, 98, 98, 99]⟩ : ByteArray).data.toList 0 = [] := by decide +kernel
theorem ex3 : allP starR (⟨#[97, 97, 98]⟩ : ByteArray).data.toList = [(0, 2), (2, 2), (3, 3)] := by decide +kernel
theorem ex4 : allP altR (⟨#[97, 98, 97, 98]⟩ : ByteArray).data.toList = [(0, 2), (2, 4)] := by decide +kernel
theorem ex5 : findP bbR (⟨#[97, 10, 98]⟩ : ByteArray).data.toList 0 = some (2, 3) := by decide +kernel
theorem ex6 : matchA fR (⟨#[102, 46, 98]⟩ : ByteArray).data.toList = true := by decide +kernel
theorem ex7 : matchA fR (⟨#[102, 98]⟩ : ByteArray).data.toList = false := by decide +kernel
theorem ex8 : wholeA starR (⟨#[97, 97]⟩ : ByteArray).data.toList = true := by decide +kernel
theorem ex9 : wholeA starR (⟨#[97, 98]⟩ : ByteArray).data.toList = false := by decide +kernel
end Go.Proofs.YtkghbhcjgogaeaaDoor
/-! ### TB -/
namespace Go.Proofs.YtkghbhcjgogaeaaDoor
open Go.RowKit

def anyB (_ : Nat) : Prop := True
theorem RxV.any {W : World} {ok : Nat → Prop} {v : Value} {r : Rx} (h : RxV W ok v r) : RxV W anyB v r := h.map (fun _ _ _ => rfl) fun _ _ _ => trivial
/-- The values vs at B are the expressions l. -/
def ElsV (W : World) (B : Option Addr) (m d : Nat) (l : List Rx) : Prop :=
  ∃ vs, VsS W anyB B m d vs ∧ l.length = m ∧ ∀ (i : Nat) (u : Value) (x : Rx), vs[i]? = some u → l[i]? = some x → RxV W anyB u x
theorem ElsV.below {W W' : World} {B : Option Addr} {m d : Nat} {l : List Rx} (h : ElsV W B m d l) (hb : Below W.heap.size W W') : ElsV W' B m d l := by
  obtain ⟨vs, h1, h2, h3⟩ := h
  exact ⟨vs, h1.below hb, h2, fun i u x hu hx => (h3 i u x hu hx).kept hb⟩
theorem ElsV.mk {W : World} {B : Option Addr} {m d : Nat} {l : List Rx} (h : ElsV W B m d l) (k a b : Int) (hk : -9223372036854775808 ≤ k ∧ k ≤ 9223372036854775807) (ha : -9223372036854775808 ≤ a ∧ a ≤ 9223372036854775807) (hb : -9223372036854775808 ≤ b ∧ b ≤ 9223372036854775807) :
    RxV W anyB (.agg #[.int .i64 k, .slice none 0 0, .int .i64 a, .int .i64 b, .slice B m d]) (.mk k [] a b l) := by
  obtain ⟨vs, h1, h2, h3⟩ := h
  exact .mk k a b none B 0 0 m d [] vs l (RgS.nil _ _) h1 h2 hk ha hb h3
theorem els1 (w : World) (a0 a1 a2 a3 a4 : Value) (x : Rx) (hx : RxV w anyB (.agg #[a0, a1, a2, a3, a4]) x) : ElsV (w.alloc (.cells #[a0, a1, a2, a3, a4] 25)) (some ⟨w.heap.size, 0, none⟩) 1 1 [x] := by
  refine ⟨[.agg #[a0, a1, a2, a3, a4]], ⟨Nat.le_refl _, by decide, rfl, fun i u hu => ?_⟩, rfl, fun i u q hu hq => ?_⟩
  · match i, hu with
    | 0, hu =>
      simp at hu
      subst hu
      refine ⟨w.heap.size, 0, a0, a1, a2, a3, a4, rfl, trivial, rfl, ?_, ?_, ?_, ?_, ?_⟩ <;> (rw [World.cell?_alloc_mark]; rfl)
  · match i, hu, hq with
    | 0, hu, hq =>
      simp at hu hq
      subst hu hq
      exact hx.kept (bel_alloc _ _)
theorem els2 (w : World) (a0 a1 a2 a3 a4 b0 b1 b2 b3 b4 : Value) (x y : Rx) (hx : RxV w anyB (.agg #[a0, a1, a2, a3, a4]) x) (hy : RxV w anyB (.agg #[b0, b1, b2, b3, b4]) y) : ElsV (w.alloc (.cells #[a0, a1, a2, a3, a4, b0, b1, b2, b3, b4] 25)) (some ⟨w.heap.size, 0, none⟩) 2 2 [x, y] := by
  refine ⟨[.agg #[a0, a1, a2, a3, a4], .agg #[b0, b1, b2, b3, b4]], ⟨Nat.le_refl _, by decide, rfl, fun i u hu => ?_⟩, rfl, fun i u q hu hq => ?_⟩
  · match i, hu with
    | 0, hu =>
      simp at hu
      subst hu
      refine ⟨w.heap.size, 0, a0, a1, a2, a3, a4, rfl, trivial, rfl, ?_, ?_, ?_, ?_, ?_⟩ <;> (rw [World.cell?_alloc_mark]; rfl)
    | 1, hu =>
      simp at hu
      subst hu
      refine ⟨w.heap.size, 0, b0, b1, b2, b3, b4, rfl, trivial, rfl, ?_, ?_, ?_, ?_, ?_⟩ <;> (rw [World.cell?_alloc_mark]; rfl)
  · match i, hu, hq with
    | 0, hu, hq =>
      simp at hu hq
      subst hu hq
      exact hx.kept (bel_alloc _ _)
    | 1, hu, hq =>
      simp at hu hq
      subst hu hq
      exact hy.kept (bel_alloc _ _)
theorem els3 (w : World) (a0 a1 a2 a3 a4 b0 b1 b2 b3 b4 c0 c1 c2 c3 c4 : Value) (x y z : Rx) (hx : RxV w anyB (.agg #[a0, a1, a2, a3, a4]) x) (hy : RxV w anyB (.agg #[b0, b1, b2, b3, b4]) y) (hz : RxV w anyB (.agg #[c0, c1, c2, c3, c4]) z) :
    ElsV (w.alloc (.cells #[a0, a1, a2, a3, a4, b0, b1, b2, b3, b4, c0, c1, c2, c3, c4] 25)) (some ⟨w.heap.size, 0, none⟩) 3 3 [x, y, z] := by
  refine ⟨[.agg #[a0, a1, a2, a3, a4], .agg #[b0, b1, b2, b3, b4], .agg #[c0, c1, c2, c3, c4]], ⟨Nat.le_refl _, by decide, rfl, fun i u hu => ?_⟩, rfl, fun i u q hu hq => ?_⟩
  · match i, hu with
    | 0, hu =>
      simp at hu
      subst hu
      refine ⟨w.heap.size, 0, a0, a1, a2, a3, a4, rfl, trivial, rfl, ?_, ?_, ?_, ?_, ?_⟩ <;> (rw [World.cell?_alloc_mark]; rfl)
    | 1, hu =>
      simp at hu
      subst hu
      refine ⟨w.heap.size, 0, b0, b1, b2, b3, b4, rfl, trivial, rfl, ?_, ?_, ?_, ?_, ?_⟩ <;> (rw [World.cell?_alloc_mark]; rfl)
    | 2, hu =>
      simp at hu
      subst hu
      refine ⟨w.heap.size, 0, c0, c1, c2, c3, c4, rfl, trivial, rfl, ?_, ?_, ?_, ?_, ?_⟩ <;> (rw [World.cell?_alloc_mark]; rfl)
  · match i, hu, hq with
    | 0, hu, hq =>
      simp at hu hq
      subst hu hq
      exact hx.kept (bel_alloc _ _)
    | 1, hu, hq =>
      simp at hu hq
      subst hu hq
      exact hy.kept (bel_alloc _ _)
    | 2, hu, hq =>
      simp at hu hq
      subst hu hq
      exact hz.kept (bel_alloc _ _)
theorem els3p {w : World} {a0 a1 a2 a3 a4 b0 b1 b2 b3 b4 c0 c1 c2 c3 c4 : Value} {x y z : Rx} {q : Nat} (hx : RxV w anyB (.agg #[a0, a1, a2, a3, a4]) x) (hy : RxV w anyB (.agg #[b0, b1, b2, b3, b4]) y) (hz : RxV w anyB (.agg #[c0, c1, c2, c3, c4]) z) (hq : w.heap.size = q) :
    ElsV (w.alloc (.cells #[a0, a1, a2, a3, a4, b0, b1, b2, b3, b4, c0, c1, c2, c3, c4] 25)) (some ⟨q, 0, none⟩) 3 3 [x, y, z] := by
  subst hq
  exact els3 w _ _ _ _ _ _ _ _ _ _ _ _ _ _ _ _ _ _ hx hy hz
theorem els2p {w : World} {a0 a1 a2 a3 a4 b0 b1 b2 b3 b4 : Value} {x y : Rx} {q : Nat} (hx : RxV w anyB (.agg #[a0, a1, a2, a3, a4]) x) (hy : RxV w anyB (.agg #[b0, b1, b2, b3, b4]) y) (hq : w.heap.size = q) :
    ElsV (w.alloc (.cells #[a0, a1, a2, a3, a4, b0, b1, b2, b3, b4] 25)) (some ⟨q, 0, none⟩) 2 2 [x, y] := by
  subst hq
  exact els2 w _ _ _ _ _ _ _ _ _ _ _ _ hx hy
theorem twoF_over {w w' : World} {x y : Value} (hb : Below (w.alloc (.cells #[x, y] 32)).heap.size (w.alloc (.cells #[x, y] 32)) w') : TwoF w' w.heap.size x y := (twoF_alloc w x y 32).keep hb
theorem twoF_drew {w w' : World} {x y : Value} (hb : Below (w.drew.alloc (.cells #[x, y] 32)).heap.size (w.drew.alloc (.cells #[x, y] 32)) w') : TwoF w' w.heap.size x y := (twoF_alloc w.drew x y 32).keep hb
theorem twoF_under {w w' : World} {x y : Value} {o : Obj} (hb : Below ((w.alloc (.cells #[x, y] 32)).alloc o).heap.size ((w.alloc (.cells #[x, y] 32)).alloc o) w') : TwoF w' w.heap.size x y := ((twoF_alloc w x y 32).keep (bel_alloc _ o)).keep hb
theorem TwoF.under {w w' : World} {b : Nat} {x y : Value} {o : Obj} (h : TwoF w b x y) (hb : Below (w.alloc o).heap.size (w.alloc o) w') : TwoF w' b x y := (h.keep (bel_alloc w o)).keep hb
/-- A set of one byte, its five cells letters. -/
theorem set26' (c : UInt8) (z : Int) (hz : z = (c.toNat : Int)) (w : World) : Calls Tryd.prog 26 #[.int .u8 z] w fun e w' => ∃ (q0 q1 q2 : Int) (qA qB : Option Addr) (qn qc qm qd : Nat), e = .returned (.agg #[.int .i64 q0, .slice qA qn qc, .int .i64 q1, .int .i64 q2, .slice qB qm qd]) ∧ RxV w' anyB (.agg #[.int .i64 q0, .slice qA qn qc, .int .i64 q1, .int .i64 q2, .slice qB qm qd]) (oneR c) ∧ Below w.heap.size w w' := by
  subst hz
  refine (set26 c w).mono ?_
  rintro e w' ⟨v, rfl, hr, hb⟩
  obtain ⟨q0, q1, q2, qA, qB, qn, qc, qm, qd, rfl⟩ := rxv_shape hr
  exact ⟨q0, q1, q2, qA, qB, qn, qc, qm, qd, rfl, hr.any, hb⟩
theorem cat23' (B : Option Addr) (m d : Nat) (l : List Rx) (w : World) (h : ElsV w B m d l) : Calls Tryd.prog 23 #[.slice B m d] w fun e w' => ∃ (q0 q1 q2 : Int) (qA qB : Option Addr) (qn qc qm qd : Nat), e = .returned (.agg #[.int .i64 q0, .slice qA qn qc, .int .i64 q1, .int .i64 q2, .slice qB qm qd]) ∧ RxV w' anyB (.agg #[.int .i64 q0, .slice qA qn qc, .int .i64 q1, .int .i64 q2, .slice qB qm qd]) (seqR l) ∧ Below w.heap.size w w' := by
  obtain ⟨vs, h1, h2, h3⟩ := h
  refine (cat23 B m d l vs w anyB h1 h2 h3).mono ?_
  rintro e w' ⟨v, rfl, hr, hb⟩
  obtain ⟨q0, q1, q2, qA, qB, qn, qc, qm, qd, rfl⟩ := rxv_shape hr
  exact ⟨q0, q1, q2, qA, qB, qn, qc, qm, qd, rfl, hr.any, hb⟩
/-- A box of an expression. -/
structure Bx (w : World) (b : Nat) (q0 q1 q2 : Int) (qA qB : Option Addr) (qn qc qm qd : Nat) (r : Rx) : Prop where
  five : Five w b (.int .i64 q0) (.slice qA qn qc) (.int .i64 q1) (.int .i64 q2) (.slice qB qm qd)
  rx : RxV w anyB (.agg #[.int .i64 q0, .slice qA qn qc, .int .i64 q1, .int .i64 q2, .slice qB qm qd]) r
theorem Bx.below {w w' : World} {b : Nat} {q0 q1 q2 : Int} {qA qB : Option Addr} {qn qc qm qd : Nat} {r : Rx} (h : Bx w b q0 q1 q2 qA qB qn qc qm qd r) (hb : Below w.heap.size w w') : Bx w' b q0 q1 q2 qA qB qn qc qm qd r := ⟨h.five.keep hb, h.rx.kept hb⟩
theorem bx_new {w : World} {q0 q1 q2 : Int} {qA qB : Option Addr} {qn qc qm qd : Nat} {r : Rx} (h : RxV w anyB (.agg #[.int .i64 q0, .slice qA qn qc, .int .i64 q1, .int .i64 q2, .slice qB qm qd]) r) :
    Bx (w.alloc (.cells #[.int .i64 q0, .slice qA qn qc, .int .i64 q1, .int .i64 q2, .slice qB qm qd] 25)) w.heap.size q0 q1 q2 qA qB qn qc qm qd r := ⟨five_new _ _ _ _ _ _ _, h.kept (bel_alloc _ _)⟩
end Go.Proofs.YtkghbhcjgogaeaaDoor
