/- TopRegex: Yb. -/
import Derived.Test.YtlnbjdlooghpeaaGreatDoorTYa
import Derived.Test.YtlnbjdlooghpeaaGreatDoorTLz
import Derived.Test.YtlnbjdlooghpeaaGreatDoorTQq
namespace Go.Proofs.YtlnbjdlooghpeaaGreatDoor
open Go.RowKit Go.Shelf
theorem range_mid {α : Type} {P : Program} {g : Operand} {ps : Array Tmp} {assign body : Code} {Q : Exit → Act → World → Prop} {a : Act} {w : World} {gf : Nat} {first caps : Array Value} (hg : a.eval g = .func (.func gf) first caps)
    (eg : ∀ args w, (callFunc gf args).run P w = .ok (.enter gf args) w) {encs : α → Array Value} {c : Nat} {Kp : World → World → Prop} {xs : List α} (hc : Iters P gf first caps encs c Kp xs w) (hps : ∀ x, (encs x).size = ps.size)
    (hKt : ∀ A B C, Kp A B → Kp B C → Kp A C) (hKb : ∀ W l o, w.heap.size ≤ l → Kp W (W.putObj l o))
    (I : Nat → World → Prop) (hI : ∀ k A B, I k A → Below A.heap.size A B → I k B) (hIp : ∀ k A o, I k A → I k (A.putObj (w.heap.size + 1) o)) (h0 : I 0 w)
    (Mid : Nat → α → Act → World → Prop) (hMp : ∀ k x b A o, Mid k x b A → Mid k x b (A.putObj (w.heap.size + 1) o))
    (hassign : ∀ (l k : Nat) (x : α) (W : World), xs[k]? = some x → I k W → w.heap.size + 2 + c ≤ W.heap.size →
      assign.wpIn (Fence.wide.inRound l) 6 P (Exit.then (fun b W1 => Mid k x b W1 ∧ Stay w.heap.size (2 + c) Kp W W1) (fun _ _ _ => False)) { tmps := (ps.zip (encs x)).foldl (fun t (p, v) => t.setIfInBounds p v) a.tmps, defers := [] } W)
    (hbody : ∀ (l k : Nat) (x : α) (b : Act) (W : World), xs[k]? = some x → Mid k x b W → w.heap.size + 2 + c ≤ W.heap.size → body.wpIn (Fence.wide.inRound l) 6 P (roundEnd fun W' => Stay w.heap.size (2 + c) Kp W W' ∧ I (k + 1) W') b W)
    (hdone : ∀ W, I xs.length W → W.heap[w.heap.size]? = some (.deferred (some [])) → Q .normal { a with defers := { target := .collected w.heap.size, args := #[] } :: a.defers } W) :
    (Code.rangeFunc g ps assign body).wpIn Fence.wide 8 P Q a w := by
  refine wpIn_rangeFunc fun fn hfn => ?_
  obtain ⟨rc, hrc⟩ : ∃ rc : LoopState → Loop, rc = fun st => { state := st, pending := none, fn, tmps := a.tmps, params := ps, assign, body, defers := w.heap.size } := ⟨_, rfl⟩
  obtain ⟨W1, hW1⟩ : ∃ W1, (w.alloc (.deferred (some []))).alloc (.loop (rc .ready)) = W1 := ⟨_, rfl⟩
  have hsz : W1.heap.size = w.heap.size + 2 := by rw [← hW1]; simp
  have hL : W1.heap[w.heap.size + 1]? = some (.loop (rc .ready)) := by
    have := World.alloc_heap_new (w.alloc (.deferred (some []))) (.loop (rc .ready))
    rwa [World.size_alloc, hW1] at this
  have hD : W1.heap[w.heap.size]? = some (.deferred (some [])) := by rw [← hW1]; exact (Below.heap_alloc _ _ _ (by simp)).trans (World.alloc_heap_new w _)
  have hB : Below w.heap.size w W1 := by rw [← hW1]; exact ((Below.refl _ w).alloc (Nat.le_refl _) _).alloc (by simp) _
  refine ⟨w.heap.size + 1, [{ target := .collected w.heap.size, args := #[] }], W1, { target := .fn (.func gf) caps, args := first ++ #[.func (.yield (w.heap.size + 1)) #[] #[]] }, W1, gf, first ++ #[.func (.yield (w.heap.size + 1)) #[] #[]] ++ caps, W1, ?_, ?_, fun f' _ => trivial, ?_, fun _ => by omega, ?_⟩
  · rw [← hW1, hrc]; exact run_enterLoop_outer _ _ _ _ _
  · simp only [resolve, hg]
    simp [go_sem]
  · simp [invoke, go_sem, eg]
  have hI1 : I 0 W1 := hI 0 w W1 h0 hB
  refine (hc (w.heap.size + 1) (fun k W => I k W ∧ W.heap[w.heap.size + 1]? = some (.loop (rc .ready)) ∧ W.heap[w.heap.size]? = some (.deferred (some []))) W1 hB ?_ ?_ ⟨hI1, hL, hD⟩).mono ?_
  · rintro k A B ⟨h1, h2, h3⟩ hb
    exact ⟨hI k A B h1 hb, (hb.block _ (Array.getElem?_eq_some_iff.1 h2).1).trans h2, (hb.block _ (Array.getElem?_eq_some_iff.1 h3).1).trans h3⟩
  · rintro k x W hx ⟨hi, hl, hd⟩ hle
    rw [hsz] at hle ⊢
    have hlt : w.heap.size + 1 < W.heap.size := (Array.getElem?_eq_some_iff.1 hl).1
    have hy := run_yield (P := P) (args := encs x) hl (by rw [hrc]; exact hps x)
    rw [hrc] at hy
    refine ⟨fn, _, assign, body, hy, roundIn_of_wpIn hfn (wpIn_mono (hassign _ k x W hx hi (by omega)) ?_)⟩
    rintro e b W2 hp
    cases e with
    | normal =>
      obtain ⟨hmid, hs2, hst2, hk2⟩ := hp
      have hl1 := (hst2 (w.heap.size + 1) (by omega) (by omega)).trans hl
      have hd1 := (hst2 w.heap.size (by omega) (by omega)).trans hd
      have hlt2 : w.heap.size + 1 < W2.heap.size := (Array.getElem?_eq_some_iff.1 hl1).1
      refine ⟨_, run_beginRound hl1 (by rw [hrc]), ?_⟩
      have hl2 := World.putObj_heap_same (o := .loop { rc .ready with state := .busy }) hlt2
      have hd2 : (W2.putObj (w.heap.size + 1) (.loop { rc .ready with state := .busy })).heap[w.heap.size]? = some (.deferred (some [])) := (World.putObj_heap_other (by omega)).trans hd1
      refine wpIn_mono (hbody _ k x b _ hx (hMp k x b W2 _ hmid) (by rw [World.putObj_size]; omega)) ?_
      rintro e a3 W3 hp
      cases e with
      | normal =>
        obtain ⟨⟨hs3, hst, hk3⟩, hi3⟩ := hp
        have hl3 := (hst (w.heap.size + 1) (by omega) (by omega)).trans hl2
        have hd3 := (hst w.heap.size (by omega) (by omega)).trans hd2
        have hlt3 : w.heap.size + 1 < W3.heap.size := (Array.getElem?_eq_some_iff.1 hl3).1
        have hr := run_endRound (P := P) none hl3
        rw [World.putObj_size] at hs3
        refine ⟨_, _, hr, rfl, ⟨hIp _ _ _ hi3, ?_, (World.putObj_heap_other (by omega)).trans hd3⟩, by rw [World.putObj_size]; omega, fun q h1 h2 => ?_, hKt _ _ _ hk2 (hKt _ _ _ (hKt _ _ _ (hKb W2 _ _ (by omega)) hk3) (hKb W3 _ _ (by omega)))⟩
        · rw [World.putObj_heap_same hlt3, hrc]
          rfl
        · rw [World.putObj_heap_other (by omega), hst q (by omega) (by omega), World.putObj_heap_other (by omega), hst2 q (by omega) (by omega)]
      | ret => exact hp.elim
      | exit id => exact hp.elim
      | goto t => exact hp.elim
      | panic ch => exact hp.elim
      | outgrown => exact hp.elim
    | ret => exact hp.elim
    | exit id => exact hp.elim
    | goto t => exact hp.elim
    | panic ch => exact hp.elim
    | outgrown => exact hp.elim
  · rintro e W2 ⟨⟨v, rfl⟩, hi, hl, hd⟩
    have he := run_endLoop (P := P) hl (by rw [hrc]; simp)
    have hq := hdone _ (hIp _ _ (.loop { rc .ready with state := .exhausted }) hi) ((World.putObj_heap_other (by omega)).trans hd)
    rw [hrc] at he hq
    exact ⟨none, _, he, hq⟩
end Go.Proofs.YtlnbjdlooghpeaaGreatDoor
namespace Go.Proofs.YtlnbjdlooghpeaaGreatDoor
open Go.RowKit
open Go.ChangeShapes (block_add)
section
variable {W W' : World} {ok : Nat → Prop}
end
section
variable {P : Program} {ops : Array Oper} {rest : List Oper} {o : Oper} {a : Act} {Q : Exit → Act → World → Prop}
end
end Go.Proofs.YtlnbjdlooghpeaaGreatDoor
namespace Go.Proofs.YtlnbjdlooghpeaaGreatDoor
open Go.RowKit Go.Shelf
open Go.ChangeShapes (block_add)
theorem mirL_rev (l : List Rx) : l.reverse.map mirR = mirL l := by
  induction l with
  | nil => rfl
  | cons x l ih =>
    rw [List.reverse_cons, List.map_append, ih]
    unfold mirL
    conv => rhs; unfold mirL
    simp
def KpAt (H bx : Nat) (A B : World) : Prop := (∀ k, k < H → B.heap[k]? = A.heap[k]?) ∧ B.heap[bx]? = A.heap[bx]?
theorem KpAt.cell {H bx : Nat} {A B : World} (h : KpAt H bx A B) {p : Addr} (hp : p.block < H ∨ p.block = bx) : B.cell? p = A.cell? p := by
  rcases hp with hp | hp
  · exact World.cell?_of_block (h.1 p.block hp)
  · exact World.cell?_of_block (by rw [hp]; exact h.2)
theorem KpAt.trans {H bx : Nat} {A B C : World} (h : KpAt H bx A B) (k : KpAt H bx B C) : KpAt H bx A C := ⟨fun q hq => (k.1 q hq).trans (h.1 q hq), k.2.trans h.2⟩
set_option maxRecDepth 100000 in
set_option maxHeartbeats 4000000 in
theorem back91' (H bx : Nat) (B : Option Addr) (m d : Nat) (vs : List Value) (w : World) (hc : w.cell? ⟨bx, 0, none⟩ = some (.slice B m d)) (hvs : VsS w (fun g => g < H) B m d vs) (hH : H ≤ w.heap.size) :
    Iters Tryz.prog 148 #[] #[.pointer (some ⟨bx, 0, none⟩)] (fun q : Nat => #[.int .i64 (q : Int), vs.getD q undef]) 0 (KpAt H bx) (List.range m).reverse w := by
  intro l J W hW hJ hY h0
  show CallsIn Fence.wide 7 Tryz.prog 148 #[.func (.yield l) #[] #[], .pointer (some ⟨bx, 0, none⟩)] W _
  have hbx : bx < w.heap.size := World.block_lt_of_cell? _ _ hc
  have hm63 : (m : Int) ≤ 9223372036854775807 := by have := hvs.1; have := hvs.2.1; omega
  have hvl := hvs.2.2.1
  have hwW : KpAt H bx w W := ⟨fun k hk => hW.block k (by omega), hW.block bx hbx⟩
  have HY := hide hY
  have HJ := hide hJ
  have Hc := hide hc
  have Hvs := hide hvs
  have HwW := hide hwW
  have H0 := hide h0
  have hcW := (hwW.cell (p := ⟨bx, 0, none⟩) (Or.inr rfl)).trans hc
  clear hY hJ hc hvs hwW h0
  refine callsIn_of_wp Tryz.func148 rfl trivial ?_ rfl
  simp only [Tryz.ntmps148, List.size_toArray, List.length_cons, List.length_nil, Nat.reduceAdd, Nat.reduceSub, Array.replicate_succ, Array.replicate_zero, List.push_toArray, List.append_toArray, List.nil_append, List.cons_append]
  gi_wp2
  gi_loopw [3] (fun y wr => ∃ k : Nat, k ≤ m ∧ y = .int .i64 ((m : Int) - 1 - (k : Int)) ∧ J k wr ∧ KpAt H bx W wr ∧ W.heap.size ≤ wr.heap.size) (fun y _ => (intOf y + 1).toNat)
  case atStart => exact ⟨0, Nat.zero_le _, by simp, H0.out, ⟨fun _ _ => rfl, rfl⟩, Nat.le_refl _⟩
  case round =>
    obtain ⟨k, hk, rfl, hJk, hlow, hsz⟩ := hrel
    obtain ⟨w1, hw1⟩ : ∃ w1, w1 = wr := ⟨wr, rfl⟩
    subst hw1
    by_cases hlt : k < m
    · obtain ⟨j, hj⟩ : ∃ j, m - 1 - k = j := ⟨_, rfl⟩
      have hji : (m : Int) - 1 - (k : Int) = (j : Int) := by omega
      rw [hji]
      have hjm : j < m := by omega
      have hd : decide ((0 : Int) ≤ (j : Int)) = true := decide_eq_true (by omega)
      have hxs : (List.range m).reverse[k]? = some j := by
        rw [List.getElem?_reverse (by simpa using hlt), List.length_range, hj, List.getElem?_range hjm]
      have hww : KpAt H bx w w1 := HwW.out.trans hlow
      have cb := (hww.cell (p := ⟨bx, 0, none⟩) (Or.inr rfl)).trans Hc.out
      obtain ⟨g, o, c0, c1, c2, c3, c4, rfl, hgH, hv, x0, x1, x2, x3, x4⟩ := Hvs.out.2.2.2 j vs[j] (List.getElem?_eq_getElem (by omega))
      have z0 := (hww.cell (p := ⟨g, o + j * 5, none⟩) (Or.inl hgH)).trans x0
      have z1 := (hww.cell (p := ⟨g, o + j * 5 + 1, none⟩) (Or.inl hgH)).trans x1
      have z2 := (hww.cell (p := ⟨g, o + j * 5 + 2, none⟩) (Or.inl hgH)).trans x2
      have z3 := (hww.cell (p := ⟨g, o + j * 5 + 3, none⟩) (Or.inl hgH)).trans x3
      have z4 := (hww.cell (p := ⟨g, o + j * 5 + 4, none⟩) (Or.inl hgH)).trans x4
      have hvd : vs.getD j undef = .agg #[c0, c1, c2, c3, c4] := by
        rw [List.getD_eq_getElem?_getD, List.getElem?_eq_getElem (show j < vs.length by omega), hv]
        rfl
      obtain ⟨fn, tmps, assign, body, hyl, hR⟩ := HY.out k j w1 hxs hJk (by omega)
      simp only [hvd] at hyl
      have HR := hide hR
      have Hlow := hide hlow
      clear hR hlow hJk x0 x1 x2 x3 x4 hxs hv hww hvd
      gi_wp2
      refine HR.out.mono ?_
      rintro e w3 ⟨rfl, hJ3, hst⟩
      have J3 := hide hJ3
      have St := hide hst
      clear hJ3 hst hyl
      gi_wp2
      go_roundw
      case rel => exact ⟨k + 1, by omega, congrArg (Value.int .i64) (by omega), J3.out, Hlow.out.trans St.out.2.2, Nat.le_trans hsz St.out.1⟩
      case measure => simp [intOf]
    · obtain rfl : k = m := by omega
      have hji : (k : Int) - 1 - (k : Int) = -1 := by omega
      rw [hji]
      have Hj := hide hJk
      clear hJk hlow
      gi_wp2
      go_end0
      exact ⟨⟨_, rfl⟩, by rw [List.length_reverse, List.length_range]; exact Hj.out⟩
def OwnY (W : World) (B : Nat) (ok : Nat → Prop) (v : Value) (xs : List Rx) : Prop :=
  ∃ cs vs : List Value, W.ownsRow B 25 5 v xs.length cs ∧ vs.length = xs.length ∧
    (∀ (i : Nat) (u : Value), vs[i]? = some u → ∃ c0 c1 c2 c3 c4, u = .agg #[c0, c1, c2, c3, c4] ∧ cs[i * 5]? = some c0 ∧ cs[i * 5 + 1]? = some c1 ∧ cs[i * 5 + 2]? = some c2 ∧ cs[i * 5 + 3]? = some c3 ∧ cs[i * 5 + 4]? = some c4) ∧
    ∀ (i : Nat) (u : Value) (x : Rx), vs[i]? = some u → xs[i]? = some x → RxV W (fun g => ok g ∧ v.ownBlock ≠ some g) u x
theorem OwnY.nil (W : World) (B : Nat) (ok : Nat → Prop) : OwnY W B ok (.slice none 0 0) [] := ⟨[], [], World.ownsRow_nil _ _ _ _, rfl, fun i u h => by simp at h, fun i u x h => by simp at h⟩
theorem OwnY.below {W W' : World} {B : Nat} {ok : Nat → Prop} {v : Value} {xs : List Rx} (h : OwnY W B ok v xs) (hb : Below W.heap.size W W') : OwnY W' B ok v xs := by
  obtain ⟨cs, vs, h1, h2, h3, h4⟩ := h
  exact ⟨cs, vs, owns_below' h1 hb, h2, h3, fun i u x hu hx => (h4 i u x hu hx).kept hb⟩
theorem OwnY.put {W : World} {B : Nat} {ok : Nat → Prop} {v : Value} {xs : List Rx} (h : OwnY W B ok v xs) (l : Nat) (o : Obj) (hl : ¬ ok l) (hB : l < B) : OwnY (W.putObj l o) B ok v xs := by
  obtain ⟨cs, vs, h1, h2, h3, h4⟩ := h
  exact ⟨cs, vs, own_put h1 _ _ (fun e => by have := (World.ownsRow.lt h1 _ e).1; omega), h2, h3, fun i u x hu hx => (h4 i u x hu hx).map (fun p hp _ => World.cell?_of_block (World.putObj_heap_other (fun e => hl (by rw [← e]; exact hp.1)))) fun g hg _ => hg⟩
theorem OwnY.lt {W : World} {B : Nat} {ok : Nat → Prop} {v : Value} {xs : List Rx} (h : OwnY W B ok v xs) {g : Nat} (hg : v.ownBlock = some g) : B ≤ g ∧ g < W.heap.size := by
  obtain ⟨cs, vs, h1, -⟩ := h
  exact World.ownsRow.lt h1 g hg
theorem OwnY.s {W : World} {B : Nat} {ok : Nat → Prop} {v : Value} {xs : List Rx} (h : OwnY W B ok v xs) : ∃ (A : Option Addr) (m d : Nat) (vs : List Value), v = .slice A m d ∧ m = xs.length ∧ VsS W (fun g => v.ownBlock = some g) A m d vs ∧ ∀ (i : Nat) (u : Value) (x : Rx), vs[i]? = some u → xs[i]? = some x → RxV W (fun g => ok g ∧ v.ownBlock ≠ some g) u x := by
  obtain ⟨cs, vs, h1, h2, h3, h4⟩ := h
  rcases h1.2 with ⟨rfl, h0⟩ | ⟨g, cap, cur, rfl, hb, hg, hc, hm, r⟩
  · obtain rfl : xs = [] := List.eq_nil_of_length_eq_zero h0
    obtain rfl : vs = [] := List.eq_nil_of_length_eq_zero h2
    exact ⟨none, 0, 0, [], rfl, rfl, VsS.nil _ _, h4⟩
  · refine ⟨_, xs.length, cap, vs, rfl, rfl, ⟨hc, by unfold maxLen at hm; omega, h2, fun i u hu => ?_⟩, h4⟩
    obtain ⟨c0, c1, c2, c3, c4, e, e0, e1, e2, e3, e4⟩ := h3 i u hu
    have hi := (List.getElem?_eq_some_iff.1 hu).1
    have key : ∀ j, j < 5 → W.cell? ⟨g, 0 + i * 5 + j, none⟩ = cs[i * 5 + j]? := fun j hj => by
      rw [Nat.zero_add]
      exact h1.cellAt (i * 5 + j) (by omega)
    exact ⟨g, 0, c0, c1, c2, c3, c4, rfl, rfl, e, (key 0 (by omega)).trans e0, (key 1 (by omega)).trans e1, (key 2 (by omega)).trans e2, (key 3 (by omega)).trans e3, (key 4 (by omega)).trans e4⟩
def putAtY (w : World) (b o : Nat) (u0 u1 u2 u3 u4 : Value) : World := ((((w.setCell ⟨b, o, none⟩ u0).setCell ⟨b, o + 1, none⟩ u1).setCell ⟨b, o + 2, none⟩ u2).setCell ⟨b, o + 3, none⟩ u3).setCell ⟨b, o + 4, none⟩ u4
theorem putAt_block {w : World} {b o : Nat} {u0 u1 u2 u3 u4 : Value} {q : Nat} (h : q ≠ b) : (putAtY w b o u0 u1 u2 u3 u4).heap[q]? = w.heap[q]? := by
  unfold putAtY
  have key : ∀ (W : World) (j : Nat) (u : Value), (W.setCell ⟨b, j, none⟩ u).heap[q]? = W.heap[q]? := fun W j u => Below.heap_setCell W ⟨b, j, none⟩ _ q h
  rw [key, key, key, key, key]
theorem putAt_own {w : World} {B e g n cap : Nat} {xs : List Value} (h : w.ownsRow B e 5 (.slice (some ⟨g, 0, none⟩) n cap) n xs) (o : Nat) (u0 u1 u2 u3 u4 : Value) :
    (putAtY w g o u0 u1 u2 u3 u4).ownsRow B e 5 (.slice (some ⟨g, 0, none⟩) n cap) n (((((xs.set o u0).set (o + 1) u1).set (o + 2) u2).set (o + 3) u3).set (o + 4) u4) :=
  row_setZ (row_setZ (row_setZ (row_setZ (row_setZ h _ _) _ _) _ _) _ _) _ _
theorem putAt_sizeY (w : World) (b o : Nat) (u0 u1 u2 u3 u4 : Value) : (putAtY w b o u0 u1 u2 u3 u4).heap.size = w.heap.size := by simp [putAtY, World.setCell]
theorem putAt_turns {p : Nat → Prop} {A w : World} {b o : Nat} {u0 u1 u2 u3 u4 : Value} (h : Turns p A w) (hp : b < A.heap.size → p b) : Turns p A (putAtY w b o u0 u1 u2 u3 u4) :=
  ((((h.set (a := ⟨b, o, none⟩) hp).set (a := ⟨b, o + 1, none⟩) hp).set (a := ⟨b, o + 2, none⟩) hp).set (a := ⟨b, o + 3, none⟩) hp).set (a := ⟨b, o + 4, none⟩) hp
theorem set5_eq (cs : List Value) (o : Nat) (z0 z1 z2 z3 z4 u0 u1 u2 u3 u4 : Value) (h : cs.length = o) :
    (((((cs ++ [z0, z1, z2, z3, z4]).set o u0).set (o + 1) u1).set (o + 2) u2).set (o + 3) u3).set (o + 4) u4 = cs ++ [u0, u1, u2, u3, u4] := by
  have key : ∀ (ms : List Value) (j : Nat) (u : Value), (cs ++ ms).set (o + j) u = cs ++ ms.set j u := fun ms j u => by
    rw [List.set_append_right _ _ (by omega), show o + j - cs.length = j by omega]
  have k0 := key [z0, z1, z2, z3, z4] 0 u0
  rw [Nat.add_zero] at k0
  rw [k0, key, key, key, key]
  rfl
theorem ownY_end {W0 Z : World} {B g cap k : Nat} {ok : Nat → Prop} {v : Value} {xs : List Rx} (hk : xs.length = k) {cs vs : List Value} (h1 : W0.ownsRow B 25 5 v k cs) (h2 : vs.length = xs.length)
    (h3 : ∀ (i : Nat) (u : Value), vs[i]? = some u → ∃ c0 c1 c2 c3 c4, u = .agg #[c0, c1, c2, c3, c4] ∧ cs[i * 5]? = some c0 ∧ cs[i * 5 + 1]? = some c1 ∧ cs[i * 5 + 2]? = some c2 ∧ cs[i * 5 + 3]? = some c3 ∧ cs[i * 5 + 4]? = some c4)
    (h4 : ∀ (i : Nat) (u : Value) (x : Rx), vs[i]? = some u → xs[i]? = some x → RxV W0 (fun g => ok g ∧ v.ownBlock ≠ some g) u x)
    (d0 d1 d2 d3 d4 : Value) {Zf : World} (hZ : Zf.ownsRow B 25 5 (.slice (some ⟨g, 0, none⟩) (k + 1) cap) (k + 1) (cs ++ [d0, d1, d2, d3, d4])) {b : Nat} (hblk : ∀ q, q ≠ g → q ≠ b → Zf.heap[q]? = Z.heap[q]?)
    (hT : Turns (fun q => v.ownBlock = some q) W0 Z) (hg : v.ownBlock = some g ∨ W0.heap.size ≤ g) {x : Rx} (hr : RxV Z (fun q => ok q ∧ q ≠ g) (.agg #[d0, d1, d2, d3, d4]) x) (hb : ¬ ok b) :
    OwnY Zf B ok (.slice (some ⟨g, 0, none⟩) (k + 1) cap) (xs ++ [x]) := by
  have hcl : cs.length = k * 5 := h1.1
  have hcell : ∀ p : Addr, p.block ≠ g → p.block ≠ b → Zf.cell? p = Z.cell? p := fun p h1 h2 => World.cell?_of_block (hblk _ h1 h2)
  have hne : ∀ q, ok q → q ≠ b := fun q hq e => hb (by rw [← e]; exact hq)
  refine ⟨cs ++ [d0, d1, d2, d3, d4], vs ++ [.agg #[d0, d1, d2, d3, d4]], by rw [List.length_append, hk]; exact hZ, by simp [h2], fun j w hu => ?_, fun j w y hu hy => ?_⟩
  · by_cases hj : j < vs.length
    · rw [List.getElem?_append_left hj] at hu
      obtain ⟨e0, e1, e2, e3, e4, e, f0, f1, f2, f3, f4⟩ := h3 j w hu
      have key : ∀ (q : Nat) (d : Value), q < 5 → cs[j * 5 + q]? = some d → (cs ++ [d0, d1, d2, d3, d4])[j * 5 + q]? = some d := fun q d hq hd => by
        rw [List.getElem?_append_left (by omega)]; exact hd
      exact ⟨e0, e1, e2, e3, e4, e, key 0 _ (by omega) f0, key 1 _ (by omega) f1, key 2 _ (by omega) f2, key 3 _ (by omega) f3, key 4 _ (by omega) f4⟩
    · rw [List.getElem?_append_right (by omega)] at hu
      have hj' : j = vs.length := by
        have := (List.getElem?_eq_some_iff.1 hu).1
        simp at this
        omega
      subst hj'
      rw [Nat.sub_self] at hu
      cases hu
      have key : ∀ q, q < 5 → (cs ++ [d0, d1, d2, d3, d4])[vs.length * 5 + q]? = [d0, d1, d2, d3, d4][q]? := fun q hq => by
        rw [List.getElem?_append_right (by omega), show vs.length * 5 + q - cs.length = q by omega]
      exact ⟨d0, d1, d2, d3, d4, rfl, key 0 (by omega), key 1 (by omega), key 2 (by omega), key 3 (by omega), key 4 (by omega)⟩
  · by_cases hj : j < vs.length
    · rw [List.getElem?_append_left hj] at hu
      rw [List.getElem?_append_left (by omega)] at hy
      have hne2 : ∀ q, q < W0.heap.size → v.ownBlock ≠ some q → q ≠ g := fun q hq hv e => by
        rcases hg with hg | hg
        · exact hv (by rw [e]; exact hg)
        · omega
      refine (h4 j w y hu hy).map (fun p hp hlt => ?_) fun q hq hlt => ⟨hq.1, fun e => ?_⟩
      · exact (hcell p (hne2 _ hlt hp.2) (hne _ hp.1)).trans (World.cell?_of_block (hT.block _ hlt hp.2))
      · simp [Value.ownBlock] at e
        exact hne2 q hlt hq.2 e.symm
    · rw [List.getElem?_append_right (by omega)] at hu hy
      have hj' : j = vs.length := by
        have := (List.getElem?_eq_some_iff.1 hu).1
        simp at this
        omega
      subst hj'
      rw [Nat.sub_self] at hu
      rw [h2, Nat.sub_self] at hy
      cases hu
      cases hy
      refine hr.map (fun p hp hlt => hcell p hp.2 (hne _ hp.1)) fun q hq _ => ⟨hq.1, fun e => hq.2 ?_⟩
      simp [Value.ownBlock] at e
      exact e.symm
theorem news5 {w w' : World} {c0 c1 c2 c3 c4 : Value} {T : TypeId} {b : Nat} (hb : w.heap.size = b) (h : Below (w.alloc (.cells #[c0, c1, c2, c3, c4] T)).heap.size (w.alloc (.cells #[c0, c1, c2, c3, c4] T)) w') :
    ∀ (j : Nat) (u : Value), [c0, c1, c2, c3, c4][j]? = some u → w'.cell? ((⟨b, 0, none⟩ : Addr).add j) = some u := by
  subst hb
  intro j u hu
  refine (h.cell (p := (⟨w.heap.size, 0, none⟩ : Addr).add j) ?_).trans (c1_row w c0 c1 c2 c3 c4 T j u hu)
  rw [addr0]
  simp
theorem rxv_grown {w w' : World} {B g H N : Nat} {v v0 : Value} {x : Rx} {e : TypeId} {sz n : Nat} {xs : List Value} (h : RxV w (fun q => q < H ∨ N ≤ q) v0 x) (hown : w.ownsRow B e sz v n xs) (hB : H ≤ B) (hN : ∀ q, v.ownBlock = some q → q < N) (hg : w.grownBy w' v.ownBlock) (hat : v.ownBlock = some g ∨ g = w.heap.size) :
    RxV w' (fun q => (q < H ∨ N ≤ q) ∧ q ≠ g) v0 x := by
  have hne : ∀ q, (q < H ∨ N ≤ q) → v.ownBlock ≠ some q := fun q hq e => by
    have h1 := (World.ownsRow.lt hown q e).1
    have h2 := hN q e
    omega
  refine h.map (fun p hp hlt => World.cell?_of_block (hg.block _ hlt fun e => hne _ hp e.symm)) fun q hq hlt => ⟨hq, fun e => ?_⟩
  rcases hat with hat | hat
  · exact hne q hq (by rw [e]; exact hat)
  · omega
end Go.Proofs.YtlnbjdlooghpeaaGreatDoor
