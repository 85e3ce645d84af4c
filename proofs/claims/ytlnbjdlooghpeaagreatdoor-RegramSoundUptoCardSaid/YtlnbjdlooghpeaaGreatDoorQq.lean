/- Layer 10: the examples' expressions and conditions, reckoned and in memory; one and gram. -/
import Derived.Test.YtlnbjdlooghpeaaGreatDoorQn
import Derived.Deep.Cut
namespace Go.Proofs.YtlnbjdlooghpeaaGreatDoor
open Go.RowKit

def oneR (c : UInt8) : Rx := .mk 1 [(c, c)] 0 0 []
def seqR (l : List Rx) : Rx := .mk 2 [] 0 0 l
def timR (a b : Int) (x : Rx) : Rx := .mk 4 [] a b [x]
def maybeR : Rx := timR 0 1 (oneR 98)
def moreR : Rx := timR 1 (-1) (oneR 97)
def abcR : Rx := seqR [oneR 97, maybeR, oneR 99]
def fooR : Rx := seqR [oneR 102, oneR 111, oneR 111]
def barR : Rx := seqR [oneR 98, oneR 97, oneR 114]
def fmbR : Rx := seqR [fooR, moreR, barR]
def gramN (c : Int) : Nd := .mk 3 c []
def andE : Nd := .mk 4 0 [gramN 6713199, gramN 6447474]
def fiveN : Nd := .mk 4 0 [gramN 5, gramN 6]
def sixN : Nd := .mk 4 0 [.mk 1 0 [], fiveN, gramN 5]
theorem ex1 : literalsS abcR = some [[97, 98, 99], [97, 99]] := by decide +kernel
theorem ex2 : literalsS moreR = none := by decide +kernel
theorem ex3 : needS fmbR = andE := by decide +kernel
theorem ex4 : needS moreR = .mk 1 0 [] := by decide +kernel
theorem ex5 : rightN 1 andE = true := by decide +kernel
theorem ex6 : evalS andE [6447474, 6713199] = true := by decide +kernel
theorem ex7 : evalS andE [6713199] = false := by decide +kernel
theorem ex8 : simplifyS sixN = fiveN := by decide +kernel
theorem ex9 : ¬ andE = gramN 5 := by decide +kernel

theorem RgS.nil (W : World) (ok : Nat → Prop) : RgS W ok none 0 0 [] := ⟨Nat.le_refl _, by omega, rfl, fun i r h => by simp at h⟩
theorem two_cell {w : World} {b : Nat} {x y : Value} {T : TypeId} (h : w.heap[b]? = some (.cells #[x, y] T (0, 0))) : w.cell? ⟨b, 0, none⟩ = some x ∧ w.cell? ⟨b, 1, none⟩ = some y ∧ w.frozen? ⟨b, 0, none⟩ = false ∧ w.frozen? ⟨b, 1, none⟩ = false := by
  refine ⟨?_, ?_, ?_, ?_⟩ <;> simp [World.cell?, World.frozen?, h]
def anyB (_ : Nat) : Prop := True
theorem RxV.any {W : World} {ok : Nat → Prop} {v : Value} {r : Rx} (h : RxV W ok v r) : RxV W anyB v r := h.map (fun _ _ _ => rfl) fun _ _ _ => trivial
/-- The values vs at B are the expressions l. -/
def ElsV (W : World) (B : Option Addr) (m d : Nat) (l : List Rx) : Prop :=
  ∃ vs, VsS W anyB B m d vs ∧ l.length = m ∧ ∀ (i : Nat) (u : Value) (x : Rx), vs[i]? = some u → l[i]? = some x → RxV W anyB u x
theorem ElsV.below {W W' : World} {B : Option Addr} {m d : Nat} {l : List Rx} (h : ElsV W B m d l) (hb : Below W.heap.size W W') : ElsV W' B m d l := by
  obtain ⟨vs, h1, h2, h3⟩ := h
  exact ⟨vs, h1.below hb, h2, fun i u x hu hx => (h3 i u x hu hx).kept hb⟩
theorem ElsV.mk {W : World} {B : Option Addr} {m d : Nat} {l : List Rx} (h : ElsV W B m d l) (k a b : Int) (hk : -9223372036854775808 ≤ k ∧ k ≤ 9223372036854775807) (ha : -9223372036854775808 ≤ a ∧ a ≤ 9223372036854775807) (hb : -9223372036854775808 ≤ b ∧ b ≤ 9223372036854775807) :
    RxV W anyB (.agg #[.int .i64 k, .slice none 0 0, .int .i64 a, .int .i64 b, .slice B m d]) (.mk k [] a b l) := by
  obtain ⟨vs, h1, h2, h3⟩ := h
  exact .mk k a b none B 0 0 m d [] vs l (RgS.nil _ _) h1 h2 hk ha hb h3
theorem els1 (w : World) (a0 a1 a2 a3 a4 : Value) (x : Rx) (hx : RxV w anyB (.agg #[a0, a1, a2, a3, a4]) x) : ElsV (w.alloc (.cells #[a0, a1, a2, a3, a4] 25)) (some ⟨w.heap.size, 0, none⟩) 1 1 [x] := by
  refine ⟨[.agg #[a0, a1, a2, a3, a4]], ⟨Nat.le_refl _, by decide, rfl, fun i u hu => ?_⟩, rfl, fun i u q hu hq => ?_⟩
  · match i, hu with
    | 0, hu =>
      simp at hu
      subst hu
      refine ⟨w.heap.size, 0, a0, a1, a2, a3, a4, rfl, trivial, rfl, ?_, ?_, ?_, ?_, ?_⟩ <;> (rw [World.cell?_alloc_mark]; rfl)
  · match i, hu, hq with
    | 0, hu, hq =>
      simp at hu hq
      subst hu hq
      exact hx.kept (bel_alloc _ _)
theorem els2 (w : World) (a0 a1 a2 a3 a4 b0 b1 b2 b3 b4 : Value) (x y : Rx) (hx : RxV w anyB (.agg #[a0, a1, a2, a3, a4]) x) (hy : RxV w anyB (.agg #[b0, b1, b2, b3, b4]) y) : ElsV (w.alloc (.cells #[a0, a1, a2, a3, a4, b0, b1, b2, b3, b4] 25)) (some ⟨w.heap.size, 0, none⟩) 2 2 [x, y] := by
  refine ⟨[.agg #[a0, a1, a2, a3, a4], .agg #[b0, b1, b2, b3, b4]], ⟨Nat.le_refl _, by decide, rfl, fun i u hu => ?_⟩, rfl, fun i u q hu hq => ?_⟩
  · match i, hu with
    | 0, hu =>
      simp at hu
      subst hu
      refine ⟨w.heap.size, 0, a0, a1, a2, a3, a4, rfl, trivial, rfl, ?_, ?_, ?_, ?_, ?_⟩ <;> (rw [World.cell?_alloc_mark]; rfl)
    | 1, hu =>
      simp at hu
      subst hu
      refine ⟨w.heap.size, 0, b0, b1, b2, b3, b4, rfl, trivial, rfl, ?_, ?_, ?_, ?_, ?_⟩ <;> (rw [World.cell?_alloc_mark]; rfl)
  · match i, hu, hq with
    | 0, hu, hq =>
      simp at hu hq
      subst hu hq
      exact hx.kept (bel_alloc _ _)
    | 1, hu, hq =>
      simp at hu hq
      subst hu hq
      exact hy.kept (bel_alloc _ _)
theorem els3 (w : World) (a0 a1 a2 a3 a4 b0 b1 b2 b3 b4 c0 c1 c2 c3 c4 : Value) (x y z : Rx) (hx : RxV w anyB (.agg #[a0, a1, a2, a3, a4]) x) (hy : RxV w anyB (.agg #[b0, b1, b2, b3, b4]) y) (hz : RxV w anyB (.agg #[c0, c1, c2, c3, c4]) z) :
    ElsV (w.alloc (.cells #[a0, a1, a2, a3, a4, b0, b1, b2, b3, b4, c0, c1, c2, c3, c4] 25)) (some ⟨w.heap.size, 0, none⟩) 3 3 [x, y, z] := by
  refine ⟨[.agg #[a0, a1, a2, a3, a4], .agg #[b0, b1, b2, b3, b4], .agg #[c0, c1, c2, c3, c4]], ⟨Nat.le_refl _, by decide, rfl, fun i u hu => ?_⟩, rfl, fun i u q hu hq => ?_⟩
  · match i, hu with
    | 0, hu =>
      simp at hu
      subst hu
      refine ⟨w.heap.size, 0, a0, a1, a2, a3, a4, rfl, trivial, rfl, ?_, ?_, ?_, ?_, ?_⟩ <;> (rw [World.cell?_alloc_mark]; rfl)
    | 1, hu =>
      simp at hu
      subst hu
      refine ⟨w.heap.size, 0, b0, b1, b2, b3, b4, rfl, trivial, rfl, ?_, ?_, ?_, ?_, ?_⟩ <;> (rw [World.cell?_alloc_mark]; rfl)
    | 2, hu =>
      simp at hu
      subst hu
      refine ⟨w.heap.size, 0, c0, c1, c2, c3, c4, rfl, trivial, rfl, ?_, ?_, ?_, ?_, ?_⟩ <;> (rw [World.cell?_alloc_mark]; rfl)
  · match i, hu, hq with
    | 0, hu, hq =>
      simp at hu hq
      subst hu hq
      exact hx.kept (bel_alloc _ _)
    | 1, hu, hq =>
      simp at hu hq
      subst hu hq
      exact hy.kept (bel_alloc _ _)
    | 2, hu, hq =>
      simp at hu hq
      subst hu hq
      exact hz.kept (bel_alloc _ _)
theorem els3p {w : World} {a0 a1 a2 a3 a4 b0 b1 b2 b3 b4 c0 c1 c2 c3 c4 : Value} {x y z : Rx} {q : Nat} (hx : RxV w anyB (.agg #[a0, a1, a2, a3, a4]) x) (hy : RxV w anyB (.agg #[b0, b1, b2, b3, b4]) y) (hz : RxV w anyB (.agg #[c0, c1, c2, c3, c4]) z) (hq : w.heap.size = q) :
    ElsV (w.alloc (.cells #[a0, a1, a2, a3, a4, b0, b1, b2, b3, b4, c0, c1, c2, c3, c4] 25)) (some ⟨q, 0, none⟩) 3 3 [x, y, z] := by
  subst hq
  exact els3 w _ _ _ _ _ _ _ _ _ _ _ _ _ _ _ _ _ _ hx hy hz
theorem els2p {w : World} {a0 a1 a2 a3 a4 b0 b1 b2 b3 b4 : Value} {x y : Rx} {q : Nat} (hx : RxV w anyB (.agg #[a0, a1, a2, a3, a4]) x) (hy : RxV w anyB (.agg #[b0, b1, b2, b3, b4]) y) (hq : w.heap.size = q) :
    ElsV (w.alloc (.cells #[a0, a1, a2, a3, a4, b0, b1, b2, b3, b4] 25)) (some ⟨q, 0, none⟩) 2 2 [x, y] := by
  subst hq
  exact els2 w _ _ _ _ _ _ _ _ _ _ _ _ hx hy

theorem load_fiveR {W : World} {b : Nat} {c0 c1 c2 c3 c4 : Value} (h : Five W b c0 c1 c2 c3 c4) : (loadVar 25 ⟨b, 0, none⟩).run Tryz.prog W = .ok (.agg #[c0, c1, c2, c3, c4]) W := by
  obtain ⟨h0, h1, h2, h3, h4, h5⟩ := h
  go_simp
theorem res_boxR {fn : Func} {p : Tmp} (h : fn.results = #[.cell p 25]) (tmps : Array Value) (W : World) (b : Nat) (c0 c1 c2 c3 c4 : Value) (hp : tmps.getD p undef = .pointer (some ⟨b, 0, none⟩)) (hf : Five W b c0 c1 c2 c3 c4) :
    (results fn tmps).run Tryz.prog W = .ok (.agg #[c0, c1, c2, c3, c4]) W := by
  have hp' : tmps[p]?.getD undef = .pointer (some ⟨b, 0, none⟩) := by simpa using hp
  simp [results, h, hp', asAddr, load_fiveR hf]
set_option maxRecDepth 100000 in
set_option maxHeartbeats 2000000 in
theorem one10 (x : UInt8) (W : World) : Calls Tryz.prog 22 #[.int .u8 (x.toNat : Int)] W fun e w' => ∃ v, e = .returned v ∧ RxV w' (fun _ => True) v (.mk 1 [(x, x)] 0 0 []) ∧ Below W.heap.size W w' := by
  go_enter Tryz.func22, Tryz.ntmps22
  go_wp2
  obtain ⟨w1, hw1⟩ : ∃ w1, W.alloc (.cells #[.int .i64 1, .slice (some ⟨W.heap.size + 1, 0, none⟩) 1 1, .int .i64 0, .int .i64 0, .slice none 0 0] 25) = w1 := ⟨_, rfl⟩
  have hF : Five w1 W.heap.size (.int .i64 1) (.slice (some ⟨W.heap.size + 1, 0, none⟩) 1 1) (.int .i64 0) (.int .i64 0) (.slice none 0 0) := by rw [← hw1]; exact five_new W _ _ _ _ _ 25
  have hs1 : w1.heap.size = W.heap.size + 1 := by rw [← hw1]; simp
  have hb1 : Below W.heap.size W w1 := by rw [← hw1]; exact bnew (Below.refl _ _) _
  rw [hw1]
  have hb2 := bnew (Below.refl _ w1) (.cells #[.int .u8 (x.toNat : Int), .int .u8 (x.toNat : Int)] 88)
  have q2 := heap_alloc_new w1 (.cells #[.int .u8 (x.toNat : Int), .int .u8 (x.toNat : Int)] 88)
  rw [hs1] at q2
  obtain ⟨z0, z1, -, -⟩ := two_cell q2
  refine bodyPost_ret (res_boxR rfl _ _ W.heap.size _ _ _ _ _ rfl (hF.keep hb2)) rfl ⟨_, rfl, ?_, bgo hb1 hb2⟩
  refine RxV.mk 1 0 0 _ _ 1 1 0 0 [(x, x)] [] [] ⟨Nat.le_refl _, by omega, rfl, fun i r hr => ?_⟩ ⟨Nat.le_refl _, by omega, rfl, fun i v hv => (by simp at hv)⟩ rfl (by omega) (by omega) (by omega) (fun i v y hv _ => (by simp at hv))
  obtain rfl : i = 0 := by
    have := (List.getElem?_eq_some_iff.1 hr).1
    simp at this
    exact this
  simp at hr
  subst hr
  exact ⟨_, 0, rfl, trivial, z0, z1⟩
/-- A set of one byte, its five cells letters. -/
theorem one10' (c : UInt8) (z : Int) (hz : z = (c.toNat : Int)) (w : World) : Calls Tryz.prog 22 #[.int .u8 z] w fun e w' => ∃ (q0 q1 q2 : Int) (qA qB : Option Addr) (qn qc qm qd : Nat), e = .returned (.agg #[.int .i64 q0, .slice qA qn qc, .int .i64 q1, .int .i64 q2, .slice qB qm qd]) ∧ RxV w' anyB (.agg #[.int .i64 q0, .slice qA qn qc, .int .i64 q1, .int .i64 q2, .slice qB qm qd]) (oneR c) ∧ Below w.heap.size w w' := by
  subst hz
  refine (one10 c w).mono ?_
  rintro e w' ⟨v, rfl, hr, hb⟩
  obtain ⟨q0, q1, q2, qA, qB, qn, qc, qm, qd, rfl⟩ := rxv_shape hr
  exact ⟨q0, q1, q2, qA, qB, qn, qc, qm, qd, rfl, hr.any, hb⟩
set_option maxRecDepth 100000 in
set_option maxHeartbeats 2000000 in
theorem gram10 (z : Int) (W : World) : Calls Tryz.prog 24 #[.int .i64 z] W fun e w' => e = .returned (.agg #[.int .i64 3, .int .i64 z, .slice none 0 0]) ∧ Below W.heap.size W w' := by
  go_enter Tryz.func24, Tryz.ntmps24
  go_wp2
  refine bodyPost_ret (res_box rfl _ _ W.heap.size _ _ _ rfl (tri3_new W _ _ _ 32)) rfl ⟨rfl, bnew (Below.refl _ _) _⟩
/-- A box of an expression. -/
structure Bx (w : World) (b : Nat) (q0 q1 q2 : Int) (qA qB : Option Addr) (qn qc qm qd : Nat) (r : Rx) : Prop where
  five : Five w b (.int .i64 q0) (.slice qA qn qc) (.int .i64 q1) (.int .i64 q2) (.slice qB qm qd)
  rx : RxV w anyB (.agg #[.int .i64 q0, .slice qA qn qc, .int .i64 q1, .int .i64 q2, .slice qB qm qd]) r
theorem Bx.below {w w' : World} {b : Nat} {q0 q1 q2 : Int} {qA qB : Option Addr} {qn qc qm qd : Nat} {r : Rx} (h : Bx w b q0 q1 q2 qA qB qn qc qm qd r) (hb : Below w.heap.size w w') : Bx w' b q0 q1 q2 qA qB qn qc qm qd r := ⟨h.five.keep hb, h.rx.kept hb⟩
theorem bx_new {w : World} {q0 q1 q2 : Int} {qA qB : Option Addr} {qn qc qm qd : Nat} {r : Rx} (h : RxV w anyB (.agg #[.int .i64 q0, .slice qA qn qc, .int .i64 q1, .int .i64 q2, .slice qB qm qd]) r) :
    Bx (w.alloc (.cells #[.int .i64 q0, .slice qA qn qc, .int .i64 q1, .int .i64 q2, .slice qB qm qd] 25)) w.heap.size q0 q1 q2 qA qB qn qc qm qd r := ⟨five_new _ _ _ _ _ _ _, h.kept (bel_alloc _ _)⟩
theorem rep_box {w : World} {q0 q1 q2 : Int} {qA qB : Option Addr} {qn qc qm qd : Nat} {x : Rx} (hr : RxV w anyB (.agg #[.int .i64 q0, .slice qA qn qc, .int .i64 q1, .int .i64 q2, .slice qB qm qd]) x) (a b : Int) (ha : -9223372036854775808 ≤ a ∧ a ≤ 9223372036854775807) (hb : -9223372036854775808 ≤ b ∧ b ≤ 9223372036854775807) :
    Bx ((w.alloc (.cells #[.int .i64 q0, .slice qA qn qc, .int .i64 q1, .int .i64 q2, .slice qB qm qd] 25)).alloc (.cells #[.int .i64 4, .slice none 0 0, .int .i64 a, .int .i64 b, .slice (some ⟨w.heap.size, 0, none⟩) 1 1] 25)) (w.heap.size + 1) 4 a b none (some ⟨w.heap.size, 0, none⟩) 0 0 1 1 (timR a b x) ∧
    Below w.heap.size w ((w.alloc (.cells #[.int .i64 q0, .slice qA qn qc, .int .i64 q1, .int .i64 q2, .slice qB qm qd] 25)).alloc (.cells #[.int .i64 4, .slice none 0 0, .int .i64 a, .int .i64 b, .slice (some ⟨w.heap.size, 0, none⟩) 1 1] 25)) := by
  have h := bx_new ((els1 w _ _ _ _ _ _ hr).mk 4 a b (by omega) ha hb)
  rw [World.size_alloc] at h
  exact ⟨h, bnew (bel_alloc w _) _⟩
theorem below_realloc {B : Nat} {w X : World} {o o2 : Obj} (h : Below B w (X.alloc o)) (hB : B ≤ X.heap.size) : Below B w (X.alloc o2) :=
  ⟨h.os, h.tape, h.output, by have := h.size; rw [World.size_alloc] at this ⊢; exact this, fun k hk => by
    have := h.block k hk
    rw [Below.heap_alloc _ _ _ (by omega)] at this ⊢
    exact this⟩

/-- Three expressions as a sequence in a box. -/
theorem seq_box {w : World} {a0 a1 a2 a3 a4 b0 b1 b2 b3 b4 c0 c1 c2 c3 c4 : Value} {x y z : Rx} (hx : RxV w anyB (.agg #[a0, a1, a2, a3, a4]) x) (hy : RxV w anyB (.agg #[b0, b1, b2, b3, b4]) y) (hz : RxV w anyB (.agg #[c0, c1, c2, c3, c4]) z) :
    Bx ((w.alloc (.cells #[a0, a1, a2, a3, a4, b0, b1, b2, b3, b4, c0, c1, c2, c3, c4] 25)).alloc (.cells #[.int .i64 2, .slice none 0 0, .int .i64 0, .int .i64 0, .slice (some ⟨w.heap.size, 0, none⟩) 3 3] 25)) (w.heap.size + 1) 2 0 0 none (some ⟨w.heap.size, 0, none⟩) 0 0 3 3 (seqR [x, y, z]) ∧
    Below w.heap.size w ((w.alloc (.cells #[a0, a1, a2, a3, a4, b0, b1, b2, b3, b4, c0, c1, c2, c3, c4] 25)).alloc (.cells #[.int .i64 2, .slice none 0 0, .int .i64 0, .int .i64 0, .slice (some ⟨w.heap.size, 0, none⟩) 3 3] 25)) := by
  have h := bx_new ((els3 w _ _ _ _ _ _ _ _ _ _ _ _ _ _ _ _ _ _ hx hy hz).mk 2 0 0 (by omega) (by omega) (by omega))
  rw [World.size_alloc] at h
  exact ⟨h, bnew (bel_alloc w _) _⟩

/-! ### conditions -/
/-- The conditions l lie at B. -/
def NelsV (W : World) (B : Option Addr) (m d : Nat) (l : List Nd) : Prop :=
  ∃ vs, NsS W anyB B m d vs ∧ l.length = m ∧ ∀ (i : Nat) (u : Value) (x : Nd), vs[i]? = some u → l[i]? = some x → NdV W anyB u x
theorem NelsV.below {W W' : World} {B : Option Addr} {m d : Nat} {l : List Nd} (h : NelsV W B m d l) (hb : Below W.heap.size W W') : NelsV W' B m d l := by
  obtain ⟨vs, h1, h2, h3⟩ := h
  exact ⟨vs, h1.below hb, h2, fun i u x hu hx => (h3 i u x hu hx).kept hb⟩
theorem NelsV.mk {W : World} {B : Option Addr} {m d : Nat} {l : List Nd} (h : NelsV W B m d l) (k : Int) (hk : -9223372036854775808 ≤ k ∧ k ≤ 9223372036854775807) :
    NdV W anyB (.agg #[.int .i64 k, .int .i64 0, .slice B m d]) (.mk k 0 l) := by
  obtain ⟨vs, h1, h2, h3⟩ := h
  exact .mk k 0 B m d vs l h1 h2 hk (by omega) h3
theorem nels2 (w : World) (a0 a1 a2 b0 b1 b2 : Value) (x y : Nd) (hx : NdV w anyB (.agg #[a0, a1, a2]) x) (hy : NdV w anyB (.agg #[b0, b1, b2]) y) : NelsV (w.alloc (.cells #[a0, a1, a2, b0, b1, b2] 32)) (some ⟨w.heap.size, 0, none⟩) 2 2 [x, y] := by
  refine ⟨[.agg #[a0, a1, a2], .agg #[b0, b1, b2]], ⟨Nat.le_refl _, by decide, rfl, fun i u hu => ?_⟩, rfl, fun i u q hu hq => ?_⟩
  · match i, hu with
    | 0, hu =>
      simp at hu
      subst hu
      refine ⟨w.heap.size, 0, a0, a1, a2, rfl, trivial, rfl, ?_, ?_, ?_⟩ <;> (rw [World.cell?_alloc_mark]; rfl)
    | 1, hu =>
      simp at hu
      subst hu
      refine ⟨w.heap.size, 0, b0, b1, b2, rfl, trivial, rfl, ?_, ?_, ?_⟩ <;> (rw [World.cell?_alloc_mark]; rfl)
  · match i, hu, hq with
    | 0, hu, hq =>
      simp at hu hq
      subst hu hq
      exact hx.kept (bel_alloc _ _)
    | 1, hu, hq =>
      simp at hu hq
      subst hu hq
      exact hy.kept (bel_alloc _ _)
theorem nels3 (w : World) (a0 a1 a2 b0 b1 b2 c0 c1 c2 : Value) (x y z : Nd) (hx : NdV w anyB (.agg #[a0, a1, a2]) x) (hy : NdV w anyB (.agg #[b0, b1, b2]) y) (hz : NdV w anyB (.agg #[c0, c1, c2]) z) : NelsV (w.alloc (.cells #[a0, a1, a2, b0, b1, b2, c0, c1, c2] 32)) (some ⟨w.heap.size, 0, none⟩) 3 3 [x, y, z] := by
  refine ⟨[.agg #[a0, a1, a2], .agg #[b0, b1, b2], .agg #[c0, c1, c2]], ⟨Nat.le_refl _, by decide, rfl, fun i u hu => ?_⟩, rfl, fun i u q hu hq => ?_⟩
  · match i, hu with
    | 0, hu =>
      simp at hu
      subst hu
      refine ⟨w.heap.size, 0, a0, a1, a2, rfl, trivial, rfl, ?_, ?_, ?_⟩ <;> (rw [World.cell?_alloc_mark]; rfl)
    | 1, hu =>
      simp at hu
      subst hu
      refine ⟨w.heap.size, 0, b0, b1, b2, rfl, trivial, rfl, ?_, ?_, ?_⟩ <;> (rw [World.cell?_alloc_mark]; rfl)
    | 2, hu =>
      simp at hu
      subst hu
      refine ⟨w.heap.size, 0, c0, c1, c2, rfl, trivial, rfl, ?_, ?_, ?_⟩ <;> (rw [World.cell?_alloc_mark]; rfl)
  · match i, hu, hq with
    | 0, hu, hq =>
      simp at hu hq
      subst hu hq
      exact hx.kept (bel_alloc _ _)
    | 1, hu, hq =>
      simp at hu hq
      subst hu hq
      exact hy.kept (bel_alloc _ _)
    | 2, hu, hq =>
      simp at hu hq
      subst hu hq
      exact hz.kept (bel_alloc _ _)
theorem nels3p {w : World} {a0 a1 a2 b0 b1 b2 c0 c1 c2 : Value} {x y z : Nd} {q : Nat} (hx : NdV w anyB (.agg #[a0, a1, a2]) x) (hy : NdV w anyB (.agg #[b0, b1, b2]) y) (hz : NdV w anyB (.agg #[c0, c1, c2]) z) (hq : w.heap.size = q) :
    NelsV (w.alloc (.cells #[a0, a1, a2, b0, b1, b2, c0, c1, c2] 32)) (some ⟨q, 0, none⟩) 3 3 [x, y, z] := by
  subst hq
  exact nels3 w _ _ _ _ _ _ _ _ _ _ _ _ hx hy hz
theorem gram_ndv (w : World) (z : Int) (hz : -9223372036854775808 ≤ z ∧ z ≤ 9223372036854775807) : NdV w anyB (.agg #[.int .i64 3, .int .i64 z, .slice none 0 0]) (gramN z) := ndv_leaf 3 z (by omega) hz
/-- A box of a condition. -/
structure Nx (w : World) (b : Nat) (k g : Int) (B : Option Addr) (m d : Nat) (r : Nd) : Prop where
  tri : Tri3 w b (.int .i64 k) (.int .i64 g) (.slice B m d)
  nd : NdV w anyB (.agg #[.int .i64 k, .int .i64 g, .slice B m d]) r
theorem Nx.below {w w' : World} {b : Nat} {k g : Int} {B : Option Addr} {m d : Nat} {r : Nd} (h : Nx w b k g B m d r) (hb : Below w.heap.size w w') : Nx w' b k g B m d r := ⟨h.tri.keep hb, h.nd.kept hb⟩
theorem nx_new {w : World} {k g : Int} {B : Option Addr} {m d : Nat} {r : Nd} (h : NdV w anyB (.agg #[.int .i64 k, .int .i64 g, .slice B m d]) r) :
    Nx (w.alloc (.cells #[.int .i64 k, .int .i64 g, .slice B m d] 32)) w.heap.size k g B m d r := ⟨tri3_new _ _ _ _ _, h.kept (bel_alloc _ _)⟩
/-- Two trigrams' condition in a box. -/
theorem two_box (w : World) (y z : Int) (hy : -9223372036854775808 ≤ y ∧ y ≤ 9223372036854775807) (hz : -9223372036854775808 ≤ z ∧ z ≤ 9223372036854775807) :
    Nx ((w.alloc (.cells #[.int .i64 3, .int .i64 y, .slice none 0 0, .int .i64 3, .int .i64 z, .slice none 0 0] 32)).alloc (.cells #[.int .i64 4, .int .i64 0, .slice (some ⟨w.heap.size, 0, none⟩) 2 2] 32)) (w.heap.size + 1) 4 0 (some ⟨w.heap.size, 0, none⟩) 2 2 (.mk 4 0 [gramN y, gramN z]) ∧
    Below w.heap.size w ((w.alloc (.cells #[.int .i64 3, .int .i64 y, .slice none 0 0, .int .i64 3, .int .i64 z, .slice none 0 0] 32)).alloc (.cells #[.int .i64 4, .int .i64 0, .slice (some ⟨w.heap.size, 0, none⟩) 2 2] 32)) := by
  have h := nx_new ((nels2 w _ _ _ _ _ _ _ _ (gram_ndv w y hy) (gram_ndv w z hz)).mk 4 (by omega))
  rw [World.size_alloc] at h
  exact ⟨h, bnew (bel_alloc w _) _⟩
/-- A condition, its cells letters. -/
theorem gotA_ex {W w' : World} {n : Nd} {e : Ending} (h : GotA W n e w') : ∃ (k g : Int) (B : Option Addr) (m d : Nat), e = .returned (.agg #[.int .i64 k, .int .i64 g, .slice B m d]) ∧ NdV w' anyB (.agg #[.int .i64 k, .int .i64 g, .slice B m d]) n ∧ k = n.kind ∧ Below W.heap.size W w' := by
  obtain ⟨v, rfl, h1, h2⟩ := h
  obtain ⟨k, g, B, m, d, rfl, h3, -⟩ := ndv_shape h1
  exact ⟨k, g, B, m, d, rfl, h1.weak fun _ _ => trivial, h3, h2⟩
theorem sl_str2 (w : World) : Sl (w.alloc (.cells #[.string ⟨#[97, 98, 99]⟩, .string ⟨#[97, 99]⟩] 9)) (some ⟨w.heap.size, 0, none⟩) 2 2 (strCells [[97, 98, 99], [97, 99]]) := by
  exact lit_sl w _ _ _ 2 rfl rfl (by omega)
theorem sl_int2 (w : World) (y z : Int) : Sl (w.alloc (.cells #[.int .i64 y, .int .i64 z] 3)) (some ⟨w.heap.size, 0, none⟩) 2 2 (numCells [y, z]) := by
  exact lit_sl w _ _ _ 2 rfl rfl (by omega)
theorem sl_int1 (w : World) (y : Int) : Sl (w.alloc (.cells #[.int .i64 y] 3)) (some ⟨w.heap.size, 0, none⟩) 1 1 (numCells [y]) := by
  exact lit_sl w _ _ _ 1 rfl rfl (by omega)
end Go.Proofs.YtlnbjdlooghpeaaGreatDoor
