/- Layer 9: Rg, Rd, O1, O2, O3, O4. -/
import Derived.Test.YtkghbhcjgogaeaaDoorGb
import Derived.RangeFuncNested
import Derived.RangeFuncBound
import Derived.RangeFuncCalls
import Derived.RangeFuncLeaves
import Derived.RangeFuncBox
import Derived.Shelf.Abstract
import Derived.Shelf.RegionOpen
import Derived.OwnWalkIn
import Derived.TacticsInMore
import Derived.LoopNIn
import Derived.LoopIn
import Derived.RegionIn
import Derived.Deep.RegionHeld
import Derived.TacticsIn
import Derived.Test.YtkghbhcjgogaeaaDoorProg
import Derived.BigRegion
import Derived.StillTailTactics
import Derived.Shelf.Spec.TrailingZeros
/-! ### Rg -/
namespace Go.Proofs.YtkghbhcjgogaeaaDoor
open Go.RowKit Go.Shelf

/-- From A to B the c blocks from n on are as they were, and what Kp says. -/
def Stay (n c : Nat) (Kp : World → World → Prop) (A B : World) : Prop := A.heap.size ≤ B.heap.size ∧ (∀ q, n ≤ q → q < n + c → B.heap[q]? = A.heap[q]?) ∧ Kp A B
/-- The function gf, called at what is bound, a yield and what is captured, hands over xs in their order; its own c blocks are the first that it makes. -/
def Iters {α : Type} (P : Program) (gf : Nat) (first caps : Array Value) (encs : α → Array Value) (c : Nat) (Kp : World → World → Prop) (xs : List α) (w : World) : Prop :=
  ∀ (l : Nat) (J : Nat → World → Prop) (W : World), Below w.heap.size w W → (∀ k A B, J k A → Below A.heap.size A B → J k B) →
    (∀ k x W1, xs[k]? = some x → J k W1 → W.heap.size + c ≤ W1.heap.size → YieldAt Fence.wide 6 P l (encs x) W1 fun e W' => e = .returned (.bool true) ∧ J (k + 1) W' ∧ Stay W.heap.size c Kp W1 W') →
    J 0 W → CallsIn Fence.wide 7 P gf (first ++ #[.func (.yield l) #[] #[]] ++ caps) W fun e W' => (∃ v, e = .returned v) ∧ J xs.length W'

/-- How a round's body is left: at its end. -/
def roundEnd (R : World → Prop) : Exit → Act → World → Prop
  | .normal, _, W => R W
  | _, _, _ => False

theorem range_all {α : Type} {P : Program} {g : Operand} {ps : Array Tmp} {assign body : Code} {Q : Exit → Act → World → Prop} {a : Act} {w : World} {gf : Nat} {first caps : Array Value} (hg : a.eval g = .func (.func gf) first caps)
    (eg : ∀ args w, (callFunc gf args).run P w = .ok (.enter gf args) w) {encs : α → Array Value} {c : Nat} {Kp : World → World → Prop} {xs : List α} (hc : Iters P gf first caps encs c Kp xs w) (hps : ∀ x, (encs x).size = ps.size)
    (hKt : ∀ A B C, Kp A B → Kp B C → Kp A C) (hKb : ∀ W l o, w.heap.size ≤ l → Kp W (W.putObj l o))
    (I : Nat → World → Prop) (hI : ∀ k A B, I k A → Below A.heap.size A B → I k B) (hIp : ∀ k A o, I k A → I k (A.putObj (w.heap.size + 1) o)) (h0 : I 0 w) (a₁ : α → Act)
    (hassign : ∀ (l : Nat) (x : α) (W : World) (K : Act → World → Prop), K (a₁ x) W →
      assign.wpIn (Fence.wide.inRound l) 6 P (Exit.then K (fun _ _ _ => False)) { tmps := (ps.zip (encs x)).foldl (fun t (p, v) => t.setIfInBounds p v) a.tmps, defers := [] } W)
    (hbody : ∀ (l k : Nat) (x : α) (W : World), xs[k]? = some x → I k W → w.heap.size + 2 + c ≤ W.heap.size → body.wpIn (Fence.wide.inRound l) 6 P (roundEnd fun W' => Stay w.heap.size (2 + c) Kp W W' ∧ I (k + 1) W') (a₁ x) W)
    (hdone : ∀ W, I xs.length W → W.heap[w.heap.size]? = some (.deferred (some [])) → Q .normal { a with defers := { target := .collected w.heap.size, args := #[] } :: a.defers } W) :
    (Code.rangeFunc g ps assign body).wpIn Fence.wide 8 P Q a w := by
  refine wpIn_rangeFunc fun fn hfn => ?_
  obtain ⟨rc, hrc⟩ : ∃ rc : LoopState → Loop, rc = fun st => { state := st, pending := none, fn, tmps := a.tmps, params := ps, assign, body, defers := w.heap.size } := ⟨_, rfl⟩
  obtain ⟨W1, hW1⟩ : ∃ W1, (w.alloc (.deferred (some []))).alloc (.loop (rc .ready)) = W1 := ⟨_, rfl⟩
  have hsz : W1.heap.size = w.heap.size + 2 := by rw [← hW1]; simp
  have hL : W1.heap[w.heap.size + 1]? = some (.loop (rc .ready)) := by
    have := World.alloc_heap_new (w.alloc (.deferred (some []))) (.loop (rc .ready))
    rwa [World.size_alloc, hW1] at this
  have hD : W1.heap[w.heap.size]? = some (.deferred (some [])) := by rw [← hW1]; exact (Below.heap_alloc _ _ _ (by simp)).trans (World.alloc_heap_new w _)
  have hB : Below w.heap.size w W1 := by rw [← hW1]; exact ((Below.refl _ w).alloc (Nat.le_refl _) _).alloc (by simp) _
  refine ⟨w.heap.size + 1, [{ target := .collected w.heap.size, args := #[] }], W1, { target := .fn (.func gf) caps, args := first ++ #[.func (.yield (w.heap.size + 1)) #[] #[]] }, W1, gf, first ++ #[.func (.yield (w.heap.size + 1)) #[] #[]] ++ caps, W1, ?_, ?_, fun f' _ => trivial, ?_, fun _ => by omega, ?_⟩
  · rw [← hW1, hrc]; exact run_enterLoop_outer _ _ _ _ _
  · simp only [resolve, hg]
    simp [go_sem]
  · simp [invoke, go_sem, eg]
  have hI1 : I 0 W1 := hI 0 w W1 h0 hB
  refine (hc (w.heap.size + 1) (fun k W => I k W ∧ W.heap[w.heap.size + 1]? = some (.loop (rc .ready)) ∧ W.heap[w.heap.size]? = some (.deferred (some []))) W1 hB ?_ ?_ ⟨hI1, hL, hD⟩).mono ?_
  · rintro k A B ⟨h1, h2, h3⟩ hb
    exact ⟨hI k A B h1 hb, (hb.block _ (Array.getElem?_eq_some_iff.1 h2).1).trans h2, (hb.block _ (Array.getElem?_eq_some_iff.1 h3).1).trans h3⟩
  · rintro k x W hx ⟨hi, hl, hd⟩ hle
    rw [hsz] at hle ⊢
    have hlt : w.heap.size + 1 < W.heap.size := (Array.getElem?_eq_some_iff.1 hl).1
    have hy := run_yield (P := P) (args := encs x) hl (by rw [hrc]; exact hps x)
    rw [hrc] at hy
    refine ⟨fn, _, assign, body, hy, roundIn_of_wpIn hfn (hassign _ x W _ ⟨_, run_beginRound hl (by rw [hrc]), ?_⟩)⟩
    have hl2 := World.putObj_heap_same (o := .loop { rc .ready with state := .busy }) hlt
    have hd2 : (W.putObj (w.heap.size + 1) (.loop { rc .ready with state := .busy })).heap[w.heap.size]? = some (.deferred (some [])) := (World.putObj_heap_other (by omega)).trans hd
    refine wpIn_mono (hbody _ k x _ hx (hIp k W _ hi) (by rw [World.putObj_size]; omega)) ?_
    rintro e a3 W3 hp
    cases e with
    | normal =>
      obtain ⟨⟨hs3, hst, hk3⟩, hi3⟩ := hp
      have hl3 := (hst (w.heap.size + 1) (by omega) (by omega)).trans hl2
      have hd3 := (hst w.heap.size (by omega) (by omega)).trans hd2
      have hlt3 : w.heap.size + 1 < W3.heap.size := (Array.getElem?_eq_some_iff.1 hl3).1
      have hr := run_endRound (P := P) none hl3
      rw [World.putObj_size] at hs3
      refine ⟨_, _, hr, rfl, ⟨hIp _ _ _ hi3, ?_, (World.putObj_heap_other (by omega)).trans hd3⟩, by rw [World.putObj_size]; exact hs3, fun q h1 h2 => ?_, hKt _ _ _ (hKt _ _ _ (hKb W _ _ (by omega)) hk3) (hKb W3 _ _ (by omega))⟩
      · rw [World.putObj_heap_same hlt3, hrc]
        rfl
      · rw [World.putObj_heap_other (by omega), hst q (by omega) (by omega), World.putObj_heap_other (by omega)]
    | ret => exact hp.elim
    | exit id => exact hp.elim
    | goto t => exact hp.elim
    | panic ch => exact hp.elim
    | outgrown => exact hp.elim
  · rintro e W2 ⟨⟨v, rfl⟩, hi, hl, hd⟩
    have he := run_endLoop (P := P) hl (by rw [hrc]; simp)
    have hq := hdone _ (hIp _ _ (.loop { rc .ready with state := .exhausted }) hi) ((World.putObj_heap_other (by omega)).trans hd)
    rw [hrc] at he hq
    exact ⟨none, _, he, hq⟩
end Go.Proofs.YtkghbhcjgogaeaaDoor
/-! ### Rd -/
namespace Go.Proofs.YtkghbhcjgogaeaaDoor
open Go.RowKit

/-- No defer statement. -/
def calm (ops : Array Oper) : Bool := ops.all fun o => match o.op with | .defer _ => false | _ => true
theorem calm_at {ops : Array Oper} (h : calm ops = true) {i : Nat} {o : Oper} (ho : ops[i]? = some o) : ∀ c, o.op ≠ .defer c := by
  intro c e
  unfold calm at h
  rw [Array.all_eq_true] at h
  obtain ⟨hi, rfl⟩ := Array.getElem?_eq_some_iff.1 ho
  have := h i hi
  rw [e] at this
  cases this

section
variable {P : Program} {o : Oper} {a : Act} {w : World} {next : Act → World → Prop} {Q : Exit → Act → World → Prop} {ops : Array Oper}
theorem op_round (l n : Nat) (hd : ∀ c, o.op ≠ .defer c) (h : o.wp P a w next Q) : o.wpIn (Fence.wide.inRound l) n P a w next Q := by
  refine ⟨fun _ _ => trivial, ?_⟩
  rw [show (Fence.wide.inRound l).round = some l from rfl, Oper.semAt_some l a.eval o hd]
  unfold Oper.wp at h
  generalize (execOp a.eval o).run P w = r at *
  cases r with
  | ok v w' =>
    cases v with
    | value u => exact h
    | skip => exact h
    | defer d => exact h
    | enter f args => exact ⟨fun e => by simp [Fence.inRound, Fence.wide] at e, CallsIn.inRound l (callsIn_wide.2 h)⟩
    | row r args => exact ⟨fun e => by simp [Fence.inRound, Fence.wide] at e, fun c cs _ => let ⟨v, w', r, s⟩ := h c cs; ⟨v, w', r, stepsIn_wide.2 s⟩⟩
    | _ => exact h.elim
  | halt x w' =>
    cases x with
    | panic u => exact h
    | _ => exact h.elim

theorem ops_round (l n : Nat) (hd : calm ops = true) (hL : ¬ LetsOut Q) : ∀ (idx : List Nat) (a : Act) (w : World), wpOps P ops Q idx a w → wpOpsIn (Fence.wide.inRound l) n P ops Q idx a w
  | [], _, _, h => h
  | i :: rest, a, w, h => by
    unfold wpOps at h
    unfold wpOpsIn
    cases ho : ops[i]? with
    | none =>
      rw [ho] at h
      exact ops_round l n hd hL rest a w h
    | some o =>
      rw [ho] at h
      by_cases hw : Region.wanted o (yielded ops a.tmps) = true
      · simp only [hw, if_true] at h ⊢
        exact op_round l n (calm_at hd ho) (Oper.wp_mono (fun a w => ops_round l n hd hL rest a w) (h.resolve_right fun hx => hL hx.2))
      · simp only [hw, Bool.false_eq_true, if_false] at h ⊢
        exact ⟨fun _ _ => trivial, ops_round l n hd hL rest _ w h⟩

theorem region_round {S : World → Prop} {id : Nat} (l n : Nat) (hd : calm ops = true) (hL : ¬ LetsOut Q) (hm : P.follows .mixedOrders = true)
    (h : wpAnyH P .any ops Q S ops.size (Array.replicate ops.size false) a w.drew) : (Code.region id ops true).wpIn (Fence.wide.inRound l) n P Q a w :=
  wpIn_region_draw fun t => ops_round l n hd hL _ _ _ (by
    simp only [Region.schedule, hm, Bool.true_or, if_true]
    exact wpAny_sound ops.size t _ a _ (wpAny_of_held _ _ _ _ h))
theorem region_round_list {id : Nat} (l n : Nat) (hd : calm ops = true) (hL : ¬ LetsOut Q) (h : wpList P ops Q ops.toList a w) : (Code.region id ops false).wpIn (Fence.wide.inRound l) n P Q a w :=
  wpIn_region (ops_round l n hd hL _ _ _ (by
    rw [List.range_eq_range', ← Array.length_toList, wpOps_eq_wpList ops.toList 0 (by simp)]
    exact h))
theorem region_round_lit {id : Nat} {ls : List Oper} (l n : Nat) (hd : calm ls.toArray = true) (hL : ¬ LetsOut Q) (h : wpList P ls.toArray Q ls a w) : (Code.region id ls.toArray false).wpIn (Fence.wide.inRound l) n P Q a w :=
  region_round_list l n hd hL (by simpa using h)
end

/-- What holds between two statements. -/
theorem seq_mid {F : Fence} {n : Nat} {P : Program} {Q : Exit → Act → World → Prop} {a : Act} {w : World} {x y : Code} (R : Act → World → Prop) (hx : x.wpIn F n P (Exit.then R Q) a w) (hy : ∀ a w, R a w → y.wpIn F n P Q a w) : (x.seq y).wpIn F n P Q a w :=
  wpIn_seq (wpIn_mono hx fun e a w h => by
    cases e
    case normal => exact hy a w h
    all_goals exact h)

end Go.Proofs.YtkghbhcjgogaeaaDoor
/-! ### O1 -/
namespace Go.Proofs.YtkghbhcjgogaeaaDoor
open Go.RowKit

theorem info84 : (Tryd.prog.info? 84).map (fun i => (i.zero, i.size, i.bytes)) = some (some (.agg #[.int .i64 0, .int .u64 0, .int .u64 0, .int .u64 0, .int .u64 0]), 5, 40) := by kernel_rfl
theorem empty37 (b : Bool) (B n c : Nat) (A : Option Addr) (W : World) (h : W.cell? ⟨B, 0, none⟩ = some (.slice A n c)) (hb : ((n : Int) == 0) = b) : Calls Tryd.prog 37 #[.pointer (some ⟨B, 0, none⟩)] W fun e w' => e = .returned (.bool b) ∧ W = w' := by
  have Hb := hide hb
  clear hb
  go_enter Tryd.func37, Tryd.ntmps37
  go_wp2
  go_ret
  exact ⟨ret_bool Hb.out, rfl⟩

set_option maxRecDepth 100000 in
set_option maxHeartbeats 4000000 in
theorem put59 (n0 B m q : Nat) (v : Value) (W : World) (h : Box n0 W B v m) (hm : m < 2305843009213693952) (hq : q < 61) :
    Calls Tryd.prog 59 #[.pointer (some ⟨B, 0, none⟩), .int .i64 (q : Int)] W (PutV n0 W B v (m ||| 2 ^ q)) := by
  have hBn := h.1
  have hac := h.2.2
  have hcell := cell_of_one h.2.1
  have hfree := free_of_one h.2.1
  have d1 : (q : Int).tdiv 256 = 0 := by rw [Int.tdiv_eq_ediv_of_nonneg (by omega)]; omega
  have d2 : (q : Int) / 256 = 0 := by omega
  have Hm := hide hm
  have H := hide h
  clear h hm
  obtain ⟨i0, hi, hz0, hz1, hz2⟩ := info_parts info84
  rcases hac with ⟨h0, rfl⟩ | ⟨h0, hown⟩
  · have HE := hide (fun j => (show (W.drewN j).cell? ⟨B, 0, none⟩ = some (.slice none 0 0) from hcell))
    have H0 := hide h0
    clear h0
    go_enter Tryd.func59, Tryd.ntmps59
    go_wp2
    go_quiet ((go_at_call 37; exact quiet_left (empty37 true _ _ _ _ _ (HE.out _) rfl)))
    go_wp2_with (at_builtin; refine wp_push_row rfl (.tmp 30) (.tmp 33) 50 rfl i0 _ _ Tryd.underlying50 hi hz0 hz1 hz2 rfl (by decide) _ _ _ _ _ _ (rowC_one 0) rfl _ rfl rfl ?_)
    intro g cap w1 hg hown hb
    have O1 := hide hown
    have B1 := hide ((show Below W.heap.size W (W.drewN nq) from Drawn.below ⟨nq, rfl⟩ _).trans hb)
    have hcell1 := (B1.out.cell (p := ⟨B, 0, none⟩) H.out.lt).trans hcell
    have hfree1 := (B1.out.frozen (p := ⟨B, 0, none⟩) H.out.lt).trans hfree
    clear hown hb hcell hfree
    go_wp2
    obtain ⟨X, hX⟩ : ∃ X, w1.setCell ⟨B, 0, none⟩ (.slice (some ⟨g, 0, none⟩) 1 cap) = X := ⟨_, rfl⟩
    rw [hX]
    have hgB : g ≠ B := by have := H.out.lt; omega
    have x0 : X.cell? ⟨B, 0, none⟩ = some (.slice (some ⟨g, 0, none⟩) 1 cap) := by rw [← hX]; exact World.cell?_setCell_same _ _ _ hcell1
    have OX := hide (show X.ownsRow W.heap.size 84 5 (.slice (some ⟨g, 0, none⟩) 1 cap) 1 (rowC 0) by
      rw [← hX]; exact ownsRow_setCell_other O1.out (fun e => hgB (by simpa [Value.ownBlock] using e)) _)
    have x1 : X.cell? ⟨g, 1, none⟩ = some (.int .u64 0) := World.ownsRow.cellAt OX.out 1 (by omega)
    have x2 : X.frozen? ⟨g, 1, none⟩ = false := World.ownsRow.frozenAt OX.out 1
    have HX := hide hX
    have Hg := hide hg
    have e1 : (q : Int).tmod 256 = q := by rw [Int.tmod_eq_emod_of_nonneg (by omega)]; omega
    have e2 : (q : Int).tdiv 64 = 0 := by rw [Int.tdiv_eq_ediv_of_nonneg (by omega)]; omega
    have e3 : (q : Int).tmod 64 = q := by rw [Int.tmod_eq_emod_of_nonneg (by omega)]; omega
    clear hcell1 hfree1 hX
    have w0 : IntKind.i64.wrap 0 = 0 := rfl
    have wq : IntKind.i64.wrap (q : Int) = (q : Int) := IntWalk.i64_in _ (by omega)
    go_still_tail 23, (by kernel_rfl)
    change wpList _ _ _ _ _ X.drew
    go_wp2
    go_end0
    have hm0 := H0.out
    subst hm0
    refine ⟨rfl, put_end hBn ?_ (owns_mono OX.out (by have := H.out.lt; omega)) ?_ (Or.inr Hg.out) Hm.out hq 0 rfl⟩
    · rw [← HX.out]
      exact one_setCell ((B1.out.block B H.out.lt).trans H.out.2.1)
    · rw [← HX.out]
      exact (Turns.of_below B1.out).set fun _ => Or.inl rfl
  · obtain ⟨g, cap, rfl, hgB, hglt⟩ := World.ownsRow.form hown (by omega)
    have hne : g ≠ B := fun e => own_far hown H.out.2.1 (by decide) (by rw [e]; rfl)
    have x0 : W.cell? ⟨g, 0, none⟩ = some (.int .i64 0) := World.ownsRow.cellAt hown 0 (by omega)
    have x1 : W.cell? ⟨g, 1, none⟩ = some (.int .u64 (m : Int)) := World.ownsRow.cellAt hown 1 (by omega)
    have x2 : W.frozen? ⟨g, 1, none⟩ = false := World.ownsRow.frozenAt hown 1
    have HE := hide (fun j => (show (W.drewN j).cell? ⟨B, 0, none⟩ = some (.slice (some ⟨g, 0, none⟩) 1 cap) from hcell))
    have H0 := hide h0
    have HO := hide hown
    have w0 : IntKind.i64.wrap 0 = 0 := rfl
    have wq : IntKind.i64.wrap (q : Int) = (q : Int) := IntWalk.i64_in _ (by omega)
    clear h0 hown hfree
    go_enter Tryd.func59, Tryd.ntmps59
    go_wp2
    go_quiet ((go_at_call 37; exact quiet_left (empty37 false _ _ _ _ _ (HE.out _) rfl)))
    go_wp2
    obtain ⟨X, hX⟩ : ∃ X, W.drewN nq = X := ⟨_, rfl⟩
    rw [hX]
    have hcell' : X.cell? ⟨B, 0, none⟩ = some (.slice (some ⟨g, 0, none⟩) 1 cap) := by rw [← hX]; exact hcell
    have x1' : X.cell? ⟨g, 1, none⟩ = some (.int .u64 (m : Int)) := by rw [← hX]; exact x1
    have x2' : X.frozen? ⟨g, 1, none⟩ = false := by rw [← hX]; exact x2
    have HX := hide hX
    have e1 : (q : Int).tmod 256 = q := by rw [Int.tmod_eq_emod_of_nonneg (by omega)]; omega
    have e2 : (q : Int).tdiv 64 = 0 := by rw [Int.tdiv_eq_ediv_of_nonneg (by omega)]; omega
    have e3 : (q : Int).tmod 64 = q := by rw [Int.tmod_eq_emod_of_nonneg (by omega)]; omega
    clear hX hcell x0 x1 x2
    go_still_tail 23, (by kernel_rfl)
    change wpList _ _ _ _ _ X.drew
    go_wp2
    go_end0
    refine ⟨rfl, put_end (cap := cap) hBn ?_ ?_ ?_ (Or.inl rfl) Hm.out hq _ rfl⟩
    · rw [← HX.out]; exact H.out.2.1
    · rw [← HX.out]; exact HO.out
    · rw [← HX.out]; exact (Turns.refl _ _).drawn _
end Go.Proofs.YtkghbhcjgogaeaaDoor
/-! ### O2 -/
namespace Go.Proofs.YtkghbhcjgogaeaaDoor
open Go.RowKit

theorem Acc.form {n0 : Nat} {W : World} {v : Value} {m : Nat} (h : Acc n0 W v m) : ∃ A n c, v = .slice A n c := by
  rcases h with ⟨_, rfl⟩ | ⟨_, h⟩
  · exact ⟨_, _, _, rfl⟩
  · obtain ⟨g, cap, rfl, _, _⟩ := World.ownsRow.form h (by omega)
    exact ⟨_, _, _, rfl⟩
/-- A store into a block that is none of the row's. -/
theorem acc_off {n0 : Nat} {W : World} {v : Value} {m : Nat} (h : Acc n0 W v m) (b : Nat) (u : Value) (hb : b < n0) : Acc n0 (W.setCell ⟨b, 0, none⟩ u) v m := by
  rcases h with h | ⟨h0, h⟩
  · exact Or.inl h
  · exact Or.inr ⟨h0, ownsRow_setCell_other h (fun e => absurd (World.ownsRow.lt h b e).1 (by omega)) u⟩
/-- put, where only what the call itself has made turns. -/
theorem put_own (n0 B m q : Nat) (v : Value) (W : World) (h : Box n0 W B v m) (hn : n0 ≤ W.heap.size) (hm : m < 2305843009213693952) (hq : q < 61) :
    Calls Tryd.prog 59 #[.pointer (some ⟨B, 0, none⟩), .int .i64 (q : Int)] W fun e w' => e = .returned (.tuple #[]) ∧ ∃ A n c, Box n0 w' B (.slice A n c) (m ||| 2 ^ q) ∧ Below n0 W w' :=
  (put59 n0 B m q v W h hm hq).mono fun e w' ⟨he, v', hb, ht, _⟩ => by
    obtain ⟨A, n, c, rfl⟩ := hb.2.2.form
    exact ⟨he, A, n, c, hb, ht.below hn fun k hk => by
      rcases hk with rfl | hk
      · exact h.1
      · exact (h.low hk).1⟩
/-- A set of offsets, returned. -/
def RetO (W : World) (m : Nat) (e : Ending) (W' : World) : Prop := ∃ u, e = .returned u ∧ OffV W' u m ∧ Below W.heap.size W W'

set_option maxRecDepth 100000 in
set_option maxHeartbeats 1000000 in
theorem only30 (q : Nat) (hq : q < 61) (W : World) : Calls Tryd.prog 30 #[.int .i64 (q : Int)] W (RetO W (2 ^ q)) := by
  have hB0 := bnew (bnew (Below.refl _ W) (.cells #[.slice none 0 0] 52)) (.cells #[.slice none 0 0] 52)
  have hbox : Box (W.heap.size + 1) ((W.alloc (.cells #[.slice none 0 0] 52)).alloc (.cells #[.slice none 0 0] 52)) (W.heap.size + 1) (.slice none 0 0) 0 := by
    have := Box.new (n0 := W.heap.size + 1) (W.alloc (.cells #[.slice none 0 0] 52)) (by simp)
    simpa using this
  have HP := hide (put_own (W.heap.size + 1) (W.heap.size + 1) 0 q _ _ hbox (by simp) (by omega) hq)
  have BB := hide hB0
  clear hB0 hbox
  go_enter Tryd.func30, Tryd.ntmps30
  go_wp2_with fail
  with_reducible refine HP.out.mono ?_
  rintro e w2 ⟨rfl, A, n, c, hbx, hb⟩
  rw [Nat.zero_or] at hbx
  have c1 := cell_of_one hbx.2.1
  have r0 := (hb.block W.heap.size (by omega)).trans (show ((W.alloc (.cells #[.slice none 0 0] 52)).alloc (.cells #[.slice none 0 0] 52)).heap[W.heap.size]? = some (.cells #[.slice none 0 0] 52 (0, 0)) from (Below.heap_alloc _ _ _ (by simp)).trans (heap_alloc_new W _))
  have c2 := cell_of_one r0
  have f2 := free_of_one r0
  have X := hide hbx
  have B2 := hide (BB.out.trans (hb.mono (by omega)))
  clear hbx hb r0
  have hs := World.cell?_setCell_same' w2 ⟨W.heap.size, 0, none⟩ (.slice A n c) (by rw [c2]; rfl)
  go_wp2
  refine bodyPost_ret (v := .agg #[.slice A n c]) (by simp [results, Tryd.results30, go_sem, hs]) rfl ⟨_, rfl, ⟨_, rfl, ?_⟩, B2.out.setCell (p := ⟨W.heap.size, 0, none⟩) (Nat.le_refl _) _⟩
  exact (acc_off X.out.2.2 W.heap.size _ (by omega)).set

theorem pow_or (k : Nat) : (2 ^ k - 1) ||| 2 ^ k = 2 ^ (k + 1) - 1 := by
  refine Nat.eq_of_testBit_eq fun j => ?_
  rw [Nat.testBit_or, Nat.testBit_two_pow_sub_one, Nat.testBit_two_pow, Nat.testBit_two_pow_sub_one]
  by_cases h : k = j
  · subst h; simp
  · simp [h]; omega

set_option maxRecDepth 100000 in
set_option maxHeartbeats 2000000 in
theorem upto36 (N : Nat) (hN : N < 61) (W : World) : Calls Tryd.prog 36 #[.int .i64 (N : Int)] W (RetO W (2 ^ (N + 1) - 1)) := by
  have hB0 := bnew (bnew (Below.refl _ W) (.cells #[.slice none 0 0] 52)) (.cells #[.slice none 0 0] 52)
  have hbox : Box (W.heap.size + 1) ((W.alloc (.cells #[.slice none 0 0] 52)).alloc (.cells #[.slice none 0 0] 52)) (W.heap.size + 1) (.slice none 0 0) 0 := by
    have := Box.new (n0 := W.heap.size + 1) (W.alloc (.cells #[.slice none 0 0] 52)) (by simp)
    simpa using this
  have r0 : ((W.alloc (.cells #[.slice none 0 0] 52)).alloc (.cells #[.slice none 0 0] 52)).heap[W.heap.size]? = some (.cells #[.slice none 0 0] 52 (0, 0)) := (Below.heap_alloc _ _ _ (by simp)).trans (heap_alloc_new W _)
  have BB := hide hB0
  have HX := hide hbox
  have HR := hide r0
  clear hB0 hbox r0
  go_enter Tryd.func36, Tryd.ntmps36
  go_wp2
  go_loopw [7] (fun y wr => ∃ k : Nat, k ≤ N + 1 ∧ y = .int .i64 (k : Int) ∧ (∃ A n c, Box (W.heap.size + 1) wr (W.heap.size + 1) (.slice A n c) (2 ^ k - 1)) ∧ wr.heap[W.heap.size]? = some (.cells #[.slice none 0 0] 52 (0, 0)) ∧ Below W.heap.size W wr) (fun y _ => N + 1 - (intOf y).toNat)
  case atStart => exact ⟨0, by omega, rfl, ⟨_, _, _, HX.out⟩, HR.out, BB.out⟩
  case round =>
    obtain ⟨k, hk, rfl, ⟨A, n, c, hX⟩, hr, hb⟩ := hrel
    obtain ⟨w1, hw1⟩ : ∃ w1, w1 = wr := ⟨wr, rfl⟩
    subst hw1
    have X := hide hX
    have R := hide hr
    have B := hide hb
    by_cases hlt : k < N + 1
    · have hpow : 2 ^ k - 1 < 2305843009213693952 := by
        have : 2 ^ k < 2 ^ 61 := Nat.pow_lt_pow_right (by omega) (by omega)
        omega
      have hlo : W.heap.size + 1 ≤ w1.heap.size := by have := lt_of_block hr; omega
      have HP := hide (put_own (W.heap.size + 1) (W.heap.size + 1) (2 ^ k - 1) k _ _ hX hlo hpow (by omega))
      clear hX hr hb hpow
      go_wp2_with fail
      with_reducible refine HP.out.mono ?_
      rintro e w2 ⟨rfl, A2, n2, c2, hbx, hb2⟩
      rw [pow_or] at hbx
      have X2 := hide hbx
      have R2 := hide ((hb2.block W.heap.size (by omega)).trans R.out)
      have B2 := hide (B.out.trans (hb2.mono (by omega)))
      clear hbx hb2 HP
      go_wp2
      go_roundw
      case rel => exact ⟨k + 1, by omega, by go_num, ⟨_, _, _, X2.out⟩, R2.out, B2.out⟩
      case measure => simp [intOf]; omega
    · obtain rfl : k = N + 1 := by omega
      have c1 := cell_of_one hX.2.1
      have c2 := cell_of_one hr
      have f2 := free_of_one hr
      have hs := World.cell?_setCell_same' w1 ⟨W.heap.size, 0, none⟩ (.slice A n c) (by rw [c2]; rfl)
      clear hX hr hb
      go_wp2
      refine bodyPost_ret (v := .agg #[.slice A n c]) (by simp [results, Tryd.results36, go_sem, hs]) rfl ⟨_, rfl, ⟨_, rfl, ?_⟩, B.out.setCell (p := ⟨W.heap.size, 0, none⟩) (Nat.le_refl _) _⟩
      exact (acc_off X.out.2.2 W.heap.size _ (by omega)).set

end Go.Proofs.YtkghbhcjgogaeaaDoor
/-! ### O3 -/
namespace Go.Proofs.YtkghbhcjgogaeaaDoor
open Go.RowKit Go.Shelf

/-- The table of TrailingZeros64 lies in its variable. -/
def HasT (w : World) : Prop := TabAt 0 Lib.deBruijn64tab w
theorem HasT.below {w w' : World} (h : HasT w) (hb : Below w.heap.size w w') : HasT w' := fun j hj =>
  (hb.cell (p := ⟨0, j, none⟩) (World.block_lt_of_cell? _ _ (h j hj))).trans (h j hj)
theorem HasT.kept {w w' : World} (h : HasT w) (hb : w'.heap[0]? = w.heap[0]?) : HasT w' := fun j hj => (World.cell?_of_block (a := ⟨0, j, none⟩) hb).trans (h j hj)
theorem HasT.pos {w : World} (h : HasT w) : 0 < w.heap.size := World.block_lt_of_cell? _ _ (h 0 (by decide))

set_option maxHeartbeats 1000000 in
theorem tz60_core (x k idx : Nat) (w : World) (hx0 : ((x : Int) == 0) = false)
    (key : IntKind.u64.wrap (bits BinOp.and IntKind.u64 (x : Int) (IntKind.u64.wrap (-(x : Int))) * 285870213051353865) / 288230376151711744 = (idx : Int))
    (hi : idx < 64) (hk : k < 64) (hcell : w.cell? ⟨0, idx, none⟩ = some (.int .u8 k)) :
    Calls Tryd.prog 60 #[.int .u64 (x : Int)] w fun e w' => e = .returned (.int .i64 (k : Int)) ∧ w = w' := by
  go_enter Tryd.func60, Tryd.ntmps60
  go_wp2_with (simp only [key])
  go_ret
  exact ⟨rfl, rfl⟩
theorem tz60 (x : Nat) (hx : x < 18446744073709551616) (hx0 : x ≠ 0) (w : World) (hT : HasT w) : Calls Tryd.prog 60 #[.int .u64 (x : Int)] w fun e w' => e = .returned (.int .i64 (Lib.ctz 64 x : Nat)) ∧ w = w' := by
  obtain ⟨hlow, hk⟩ := Lib.lowest_bit 64 x hx0 hx
  obtain ⟨hi, htab⟩ := Lib.deBruijn64_at _ hk
  have hcell := hT _ hi
  rw [htab] at hcell
  exact tz60_core x _ _ w (by simp; omega) (tz64_key x _ hx hx0 hlow) hi hk hcell

theorem cell_of_five {w : World} {b m : Nat} (h : w.heap[b]? = some (.cells (rowC m).toArray 84 (0, 0))) : w.cell? ⟨b, 0, none⟩ = some (.int .i64 0) := by
  simp [World.cell?, h, rowC]
/-- Block 0 is as it was. -/
def Kp0 (A B : World) : Prop := B.heap[0]? = A.heap[0]?
theorem bits_len_zero : (bitsL 0).length = 0 := by rw [bits_zero]; rfl
theorem idx0 (x0 x1 x2 x3 : Int) (w : World) : (Instr.index 82 (.agg #[.int .u64 x0, .int .u64 x1, .int .u64 x2, .int .u64 x3]) (.int .i64 0)).run Tryd.prog w = .ok (.int .u64 x0) w := by kernel_rfl
theorem idx1 (x0 x1 x2 x3 : Int) (w : World) : (Instr.index 82 (.agg #[.int .u64 x0, .int .u64 x1, .int .u64 x2, .int .u64 x3]) (.int .i64 1)).run Tryd.prog w = .ok (.int .u64 x1) w := by kernel_rfl
theorem idx2 (x0 x1 x2 x3 : Int) (w : World) : (Instr.index 82 (.agg #[.int .u64 x0, .int .u64 x1, .int .u64 x2, .int .u64 x3]) (.int .i64 2)).run Tryd.prog w = .ok (.int .u64 x2) w := by kernel_rfl
theorem idx3 (x0 x1 x2 x3 : Int) (w : World) : (Instr.index 82 (.agg #[.int .u64 x0, .int .u64 x1, .int .u64 x2, .int .u64 x3]) (.int .i64 3)).run Tryd.prog w = .ok (.int .u64 x3) w := by kernel_rfl
theorem idx_at (m : Nat) (i : Nat) (hi : i < 4) : ∃ x : Nat, (∀ w, (Instr.index 82 (.agg #[.int .u64 (m : Int), .int .u64 0, .int .u64 0, .int .u64 0]) (.int .i64 (i : Int))).run Tryd.prog w = .ok (.int .u64 (x : Int)) w) ∧ (i = 0 → x = m) ∧ (0 < i → x = 0) := by
  by_cases h0 : i = 0
  · subst h0; exact ⟨m, idx0 _ _ _ _, fun _ => rfl, fun h => by omega⟩
  · refine ⟨0, fun w => ?_, fun h => by omega, fun _ => rfl⟩
    have h : i = 1 ∨ i = 2 ∨ i = 3 := by omega
    rcases h with rfl | rfl | rfl
    · exact idx1 _ _ _ _ w
    · exact idx2 _ _ _ _ w
    · exact idx3 _ _ _ _ w

attribute [local go_sem] Oper.semAt_some

set_option maxRecDepth 100000 in
set_option maxHeartbeats 4000000 in
theorem each31 (s : Value) (m : Nat) (hm : m < 2305843009213693952) (w : World) (hs : SetV w s m) (hT : HasT w) :
    Iters Tryd.prog 31 #[.agg #[s]] #[] (fun q : Nat => #[.int .i64 (q : Int)]) 2 Kp0 (bitsL m) w := by
  intro l J W hW hJ hY h0
  show CallsIn Fence.wide 7 Tryd.prog 31 #[.agg #[s], .func (.yield l) #[] #[]] W _
  have hTW := hT.below hW
  have hsW := hs.below hW
  have hB1 := bnew (Below.refl _ W) (.cells #[s] 52)
  have hsW1 := hide (hsW.below hB1)
  have hTW1 := hide (hTW.below hB1)
  have hJ1 := hide (hJ 0 W _ h0 hB1)
  have Hm := hide hm
  have hmx : Tryd.prog.follows .mixedOrders = true := by kernel_rfl
  have HY := hide hY
  have HJ := hide hJ
  clear hTW hsW hs hT hm hY hJ
  rcases hsW1.out with ⟨rfl, A, c, rfl, hc⟩ | ⟨hm0, b, c, rfl, hc1, hc2, hblt, hcells⟩
  · refine callsIn_of_wp Tryd.func31 rfl trivial ?_ rfl
    simp only [Tryd.ntmps31, List.size_toArray, List.length_cons, List.length_nil, Nat.reduceAdd, Nat.reduceSub, Array.replicate_succ, Array.replicate_zero, List.push_toArray, List.append_toArray, List.nil_append, List.cons_append]
    gi_wp2
    gi_loopw [11] (fun x wr => x = .int .i64 0 ∧ J 0 wr) (fun _ _ => 0)
    case atStart => exact ⟨rfl, hJ1.out⟩
    case round =>
      obtain ⟨rfl, hj⟩ := hrel
      gi_wp2
      go_end0
      exact ⟨⟨_, rfl⟩, by rw [bits_len_zero]; exact hj⟩
  · have t0 := hcells 0 (by omega)
    have t1 := hcells 1 (by omega)
    have t2 := hcells 2 (by omega)
    have t3 := hcells 3 (by omega)
    have t4 := hcells 4 (by omega)
    simp [rowC] at t0 t1 t2 t3 t4
    have Hm0 := hide hm0
    clear hm0 hcells
    refine callsIn_of_wp Tryd.func31 rfl trivial ?_ rfl
    simp only [Tryd.ntmps31, List.size_toArray, List.length_cons, List.length_nil, Nat.reduceAdd, Nat.reduceSub, Array.replicate_succ, Array.replicate_zero, List.push_toArray, List.append_toArray, List.nil_append, List.cons_append]
    gi_wp2
    gi_loopw [11] (fun x wr => (x = .int .i64 0 ∧ wr = W.alloc (.cells #[.slice (some ⟨b, 0, none⟩) 1 c] 52)) ∨ (x = .int .i64 1 ∧ J (bitsL m).length wr)) (fun x _ => 1 - (intOf x).toNat)
    case atStart => exact Or.inl ⟨rfl, rfl⟩
    case round =>
      rcases hrel with ⟨rfl, rfl⟩ | ⟨rfl, hj⟩
      · have hdummy : True := trivial
        gi_wp2
        gi_loopw [17] (fun y wr => ∃ i : Nat, i ≤ 4 ∧ y = .int .i64 (i : Int) ∧ (i = 0 → J 0 wr) ∧ (0 < i → J (bitsL m).length wr) ∧ wr.heap[W.heap.size + 1]? = some (.cells (rowC m).toArray 84 (0, 0)) ∧ HasT wr) (fun y _ => 4 - (intOf y).toNat)
        case atStart =>
          refine ⟨0, by omega, rfl, fun _ => HJ.out 0 _ _ hJ1.out (bnew (Below.refl _ _) _), fun h => by omega, ?_, hTW1.out.below (bnew (Below.refl _ _) _)⟩
          have := heap_alloc_new (W.alloc (.cells #[.slice (some ⟨b, 0, none⟩) 1 c] 52)) (.cells (rowC m).toArray 84)
          rw [World.size_alloc] at this
          exact this
        case round =>
          obtain ⟨i, hi, rfl, hi0, hi1, hrow, hTr⟩ := hrel
          by_cases hlt : i < 4
          · obtain ⟨x, hix, hx0, hx1⟩ := idx_at m i hlt
            have Hix := hide hix
            have R := hide hrow
            have T := hide hTr
            have hcr := cell_of_five hrow
            have hd4 : decide ((i : Int) < 4) = true := decide_eq_true (by omega)
            clear hrow hTr
            gi_wp2
            gi_loopw [7] (fun z wr => ∃ y q : Nat, z = .int .u64 (y : Int) ∧ y < 2305843009213693952 ∧ (0 < i → y = 0) ∧ bitsL y = (bitsL m).drop q ∧ q ≤ (bitsL m).length ∧ J q wr ∧ wr.heap[W.heap.size + 1]? = some (.cells (rowC m).toArray 84 (0, 0)) ∧ HasT wr) (fun z _ => (intOf z).toNat)
            case atStart =>
              by_cases h0 : i = 0
              · exact ⟨x, 0, rfl, by rw [hx0 h0]; exact Hm.out, fun h => by omega, by rw [hx0 h0, List.drop_zero], by omega, hi0 h0, R.out, T.out⟩
              · exact ⟨x, (bitsL m).length, rfl, by rw [hx1 (by omega)]; omega, hx1, by rw [hx1 (by omega), bits_zero, List.drop_length], Nat.le_refl _, hi1 (by omega), R.out, T.out⟩
            case round =>
              obtain ⟨y, q, rfl, hy, hiy, hby, hqL, hJq, hrow, hTr⟩ := hrel
              by_cases hy0 : y = 0
              · subst hy0
                have hqe : q = (bitsL m).length := by
                  have := congrArg List.length hby
                  rw [bits_len_zero, List.length_drop] at this
                  omega
                have JL := hide (show J (bitsL m).length wr by rw [← hqe]; exact hJq)
                have R2 := hide hrow
                have T2 := hide hTr
                clear hqe hrow hTr hJq hby hix hi0 hi1 hx0 hx1 hcr hiy
                gi_wp2
                go_roundw
                case rel => exact ⟨i + 1, by omega, by go_num, fun h => by omega, fun _ => JL.out, R2.out, T2.out⟩
                case measure => simp [intOf]; omega
              · have hi00 : i = 0 := by omega
                have hn0 : (y : Int) ≠ 0 := by omega
                have hn1 : ((y : Int) != 0) = true := by rw [bne_iff_ne]; exact hn0
                obtain ⟨z, hz⟩ : ∃ z, Lib.ctz 64 y = z := ⟨_, rfl⟩
                have hbn := bits_next hy0 (by omega)
                have hzlt := (low_bits hy0 (by omega)).2.2.2
                rw [hz] at hbn hzlt
                have hq : (bitsL m)[q]? = some z := by
                  have := congrArg List.head? hby
                  rw [hbn, List.head?_drop] at this
                  exact this.symm
                have hdrop : bitsL (y &&& (y - 1)) = (bitsL m).drop (q + 1) := by
                  rw [← List.drop_drop, ← hby, hbn]
                  rfl
                have hcr2 := cell_of_five hrow
                have hsz := lt_of_block hrow
                have R2 := hide hrow
                have T2 := hide hTr
                have hqlt : q < (bitsL m).length := (List.getElem?_eq_some_iff.1 hq).1
                have hC : Calls Tryd.prog 60 #[.int .u64 (y : Int)] wr.drew fun e w' => e = .returned (.int .i64 (z : Int)) ∧ wr.drew = w' := by
                  rw [← hz]; exact tz60 y (by omega) hy0 _ (hTr.below (bel_drew wr))
                have e1 : IntKind.i64.wrap ((i : Int) * 64) = 0 := by rw [hi00]; rfl
                have e2 : IntKind.i64.wrap 0 = 0 := rfl
                have e3 : IntKind.i64.wrap (z : Int) = (z : Int) := IntWalk.i64_in _ (by omega)
                obtain ⟨fn, tmps, assign, body, hyl, hR⟩ := HY.out q z wr.drew hq (HJ.out q wr _ hJq (bel_drew wr)) (by show W.heap.size + 2 ≤ wr.heap.size; omega)
                have e4 : IntKind.u64.wrap ((y : Int) - 1) = (y : Int) - 1 := by rw [IntKind.wrap_u64]; omega
                have e5 : bits .and .u64 (y : Int) ((y : Int) - 1) = ((y &&& (y - 1) : Nat) : Int) := by
                  rw [show (y : Int) - 1 = ((y - 1 : Nat) : Int) by omega, bits_and_u64_nat y _ (by omega) (by omega)]
                have hless := bits_less hy0
                have HC := hide hC
                have HR := hide hR
                have Hd := hide hdrop
                have Hlow := hide hiy
                clear hC hR hiy hby hbn hz hq hdrop hrow hTr hJq hi0 hi1 hx0 hx1 hcr hi00 hn0 hy0 hix t0 t1 t2 t3 t4 hB1
                gi_wp2
                gi_region_with_o (first | (refine ⟨trivial, ?_⟩; gi_at_call 60; refine (callsIn_wide.2 HC.out).mono ?_; rintro e w' ⟨rfl, rfl⟩) | (refine HR.out.mono ?_; rintro e W3 ⟨rfl, hJ3, hst⟩))
                all_goals
                  have J3 := hide hJ3
                  have R3 := hide ((hst.2.1 (W.heap.size + 1) (by omega) (by omega)).trans R2.out)
                  have T3 := hide ((show HasT wr.drew from T2.out).kept hst.2.2)
                  clear hJ3 hst hyl HC HR
                  gi_wp2
                  go_roundw
                  case rel => first | exact ⟨y &&& (y - 1), q + 1, rfl, by omega, fun h => by have := Hlow.out h; omega, Hd.out, by omega, J3.out, R3.out, T3.out⟩ | ((repeat apply Exists.intro); exact ⟨⟨y &&& (y - 1), q + 1, rfl, by omega, fun h => by have := Hlow.out h; omega, Hd.out, by omega, J3.out, R3.out, T3.out⟩, rfl⟩)
                  case measure => simp [intOf]; omega
          · have JL := hide (hi1 (by omega))
            clear hi0 hi1 hrow hTr
            gi_wp2
            go_roundw
            case rel => exact Or.inr ⟨rfl, JL.out⟩
            case measure => simp [intOf]
      · have Hj := hide hj
        clear hj
        gi_wp2
        go_end0
        exact ⟨⟨_, rfl⟩, Hj.out⟩
end Go.Proofs.YtkghbhcjgogaeaaDoor
/-! ### O4 -/
namespace Go.Proofs.YtkghbhcjgogaeaaDoor
open Go.RowKit

theorem nan94 (x : Int) (W : World) : Calls Tryd.prog 94 #[.int .i64 x] W fun e w' => e = .returned (.bool false) ∧ W = w' := by
  have h : (x != x) = false := by simp
  go_enter Tryd.func94, Tryd.ntmps94
  go_wp2
  go_ret
  exact ⟨rfl, rfl⟩
theorem cmp87 (W : World) : Calls Tryd.prog 87 #[.int .i64 0, .int .i64 0] W fun e w' => e = .returned (.int .i64 0) ∧ W = w' := by
  go_enter Tryd.func87, Tryd.ntmps87
  go_wp2_with (go_at_call 94; refine (nan94 _ _).mono ?_; rintro e w' ⟨rfl, rfl⟩)
  go_ret
  exact ⟨rfl, rfl⟩
theorem by86 (m : Nat) (W : World) : Calls Tryd.prog 86 #[.agg #[.int .i64 0, .int .u64 (m : Int), .int .u64 0, .int .u64 0, .int .u64 0], .int .i64 0] W fun e w' => e = .returned (.int .i64 0) ∧ Below W.heap.size W w' := by
  have F := five_new W (.int .i64 0) (.int .u64 (m : Int)) (.int .u64 0) (.int .u64 0) (.int .u64 0) 84
  obtain ⟨_, t0, t1, t2, t3, t4⟩ := F
  have BB := hide (bnew (Below.refl _ W) (.cells #[.int .i64 0, .int .u64 (m : Int), .int .u64 0, .int .u64 0, .int .u64 0] 84))
  go_enter Tryd.func86, Tryd.ntmps86
  go_wp2_with (go_at_call 87; refine (cmp87 _).mono ?_; rintro e w' ⟨rfl, rfl⟩)
  go_ret
  exact ⟨rfl, BB.out⟩
theorem run86 (xs : Array Value) (W : World) : (callFunc 86 xs).run Tryd.prog W = .ok (.enter 86 xs) W := by kernel_rfl

theorem search88_none (A : Option Addr) (c : Nat) (W : World) : Calls Tryd.prog 88 #[.slice A 0 c, .int .i64 0, .func (.func 86) #[] #[]] W fun e w' => e = .returned (.tuple #[.int .i64 0, .bool false]) ∧ W = w' := by
  go_enter Tryd.func88, Tryd.ntmps88
  go_wp2
  go_loop [9, 10] (fun x y => x = .int .i64 0 ∧ y = .int .i64 0) (fun _ _ => 0)
  case atStart => exact ⟨rfl, rfl⟩
  case round =>
    obtain ⟨rfl, rfl⟩ := hrel
    go_wp2
    go_ret2
    exact ⟨rfl, rfl⟩

/-- The first row of the slice at g is the set m. -/
def Row1 (W : World) (g m : Nat) : Prop := g < W.heap.size ∧ ∀ j, j < 5 → W.cell? ⟨g, j, none⟩ = (rowC m)[j]?
theorem Row1.below {W W' : World} {g m : Nat} (h : Row1 W g m) (hb : Below W.heap.size W W') : Row1 W' g m := ⟨by have := hb.size; have := h.1; omega, fun j hj => (hb.cell (p := ⟨g, j, none⟩) h.1).trans (h.2 j hj)⟩
theorem Row1.five {W : World} {g m : Nat} (h : Row1 W g m) : Five W g (.int .i64 0) (.int .u64 (m : Int)) (.int .u64 0) (.int .u64 0) (.int .u64 0) := ⟨h.1, h.2 0 (by omega), h.2 1 (by omega), h.2 2 (by omega), h.2 3 (by omega), h.2 4 (by omega)⟩

set_option maxRecDepth 100000 in
set_option maxHeartbeats 1000000 in
theorem search88_one (g c m : Nat) (W : World) (h : Row1 W g m) : Calls Tryd.prog 88 #[.slice (some ⟨g, 0, none⟩) 1 c, .int .i64 0, .func (.func 86) #[] #[]] W fun e w' => e = .returned (.tuple #[.int .i64 0, .bool true]) ∧ Below W.heap.size W w' := by
  have H := hide h
  clear h
  go_enter Tryd.func88, Tryd.ntmps88
  go_wp2
  go_loopw [9, 10] (fun x y wr => ∃ j : Nat, j ≤ 1 ∧ x = .int .i64 0 ∧ y = .int .i64 (j : Int) ∧ Below W.heap.size W wr) (fun _ y _ => (intOf y).toNat)
  case atStart => exact ⟨1, by omega, rfl, rfl, Below.refl _ _⟩
  case round =>
    obtain ⟨j, hj, rfl, rfl, hb⟩ := hrel
    obtain ⟨w1, hw1⟩ : ∃ w1, w1 = wr := ⟨wr, rfl⟩
    subst hw1
    have B := hide hb
    obtain ⟨_, t0, t1, t2, t3, t4⟩ := (H.out.below hb).five
    have HC := hide (by86 m w1)
    clear hb
    by_cases hlt : j = 1
    · subst hlt
      go_wp2_with fail
      with_reducible refine HC.out.mono ?_
      rintro e w2 ⟨rfl, hb2⟩
      have B2 := hide (B.out.trans (hb2.mono B.out.size))
      clear hb2
      go_wp2
      go_roundw
      case rel => exact ⟨0, by omega, rfl, rfl, B2.out⟩
      case measure => simp [intOf]
    · obtain rfl : j = 0 := by omega
      go_wp2_with fail
      with_reducible refine HC.out.mono ?_
      rintro e w2 ⟨rfl, hb2⟩
      have B2 := hide (B.out.trans (hb2.mono B.out.size))
      clear hb2
      go_wp2
      go_ret2
      exact ⟨rfl, B2.out⟩

theorem c1_row' (w : World) (m : Nat) (T : TypeId) : ∀ (j : Nat) (u : Value), (rowC m)[j]? = some u → (w.alloc (.cells (rowC m).toArray T)).cell? ((⟨w.heap.size, 0, none⟩ : Addr).add j) = some u := c1_row w _ _ _ _ _ T
set_option maxRecDepth 100000 in
set_option maxHeartbeats 1000000 in
/-- Insert of one row into the nil slice. -/
theorem insert89 (b m : Nat) (W : World) (h : Row1 W b m) : Calls Tryd.prog 89 #[.slice none 0 0, .int .i64 0, .slice (some ⟨b, 0, none⟩) 1 1] W fun e w' => ∃ g cap, e = .returned (.slice (some ⟨g, 0, none⟩) 1 cap) ∧ w'.ownsRow W.heap.size 84 5 (.slice (some ⟨g, 0, none⟩) 1 cap) 1 (rowC m) ∧ Below W.heap.size W w' := by
  obtain ⟨i0, hi, hz0, hz1, hz2⟩ := info_parts info84
  have hown : W.ownsRow W.heap.size 84 5 (.slice none 0 0) 0 [] := World.ownsRow_nil _ _ _ _
  have H := hide h
  clear h
  go_enter Tryd.func89, Tryd.ntmps89
  go_wp2_with (at_builtin; refine wpList_append_own _ rfl (.tmp 23) (.tmp 24) 50 rfl W.heap.size 84 i0 _ 5 40 Tryd.underlying50 hi hz0 hz1 hz2 rfl (by decide) (.slice none 0 0) 0 [] rfl hown ⟨b, 0, none⟩ 1 1 (rowC m) rfl rfl (fun j u hu => by rw [addr0]; exact (H.out.2 j (by have := (List.getElem?_eq_some_iff.1 hu).1; simpa [rowC] using this)).trans hu) (rowC_one m) (by unfold maxLen; omega) (by omega) (Nat.le_refl _) ?_; intro v' w' hown' hg _)
  have hbel := (Below.refl W.heap.size W).grown hg (Nat.le_refl _) fun k hk => by cases hk
  rw [Nat.zero_add, List.nil_append] at hown'
  obtain ⟨g, cap, rfl, hB, _⟩ := World.ownsRow.form hown' (by omega)
  have O := hide hown'
  have BB := hide hbel
  clear hown' hg hbel hB
  go_wp2
  go_ret
  exact ⟨g, cap, rfl, O.out, BB.out⟩
end Go.Proofs.YtkghbhcjgogaeaaDoor
