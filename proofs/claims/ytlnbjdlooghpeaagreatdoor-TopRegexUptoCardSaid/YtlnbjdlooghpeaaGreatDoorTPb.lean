/- TopRegex: Pb. -/
import Derived.Test.YtlnbjdlooghpeaaGreatDoorTPa
namespace Go.Proofs.YtlnbjdlooghpeaaGreatDoor
open Go.RowKit
theorem run21 (xs : Array Value) (W : World) : (callFunc 25 xs).run Tryz.prog W = .ok (.enter 25 xs) W := by kernel_rfl
theorem ineq {a b : Int} (h : a = b) : (a != b) = false := by simp [h]
theorem inne {a b : Int} (h : a ≠ b) : (a != b) = true := by simp [h]
set_option maxRecDepth 20000 in
set_option maxHeartbeats 3200000 in
theorem equalN {W : World} {ok ok' : Nat → Prop} {B B' : Option Addr} {m d m' d' : Nat} {l l' : List Nd} (h : NsV W ok B m d l) (h' : NsV W ok' B' m' d' l')
    (hp : ∀ x ∈ l, ∀ (W' : World) (v v' : Value) (y : Nd), NdV W' ok v x → NdV W' ok' v' y → Calls Tryz.prog 25 #[v, v'] W' fun e w' => e = .returned (.bool (sameN x y)) ∧ Below W'.heap.size W' w')
    (q : Bool) (hq : q = true ↔ l = l') :
    Calls Tryz.prog 54 #[.slice B m d, .slice B' m' d', .func (.func 25) #[] #[]] W fun e w' => e = .returned (.bool q) ∧ Below W.heap.size W w' := by
  have hmd := h.len.2.1
  have hdd := h.len.2.2
  have hmd' := h'.len.2.1
  have hdd' := h'.len.2.2
  have hl := h.len.1
  have hl' := h'.len.1
  have Hno := hide (show ¬ l = l' → q = false from fun h => by cases q with
    | false => rfl
    | true => exact absurd (hq.1 rfl) h)
  have Hyes := hide hq.2
  have Hs := hide h
  have Hs' := hide h'
  have Hp := hide hp
  have hcf := run21
  have Hl := hide hl
  have Hl' := hide hl'
  by_cases hnm : m = m'
  · have hq : ((m : Int) != (m' : Int)) = false := ineq (by omega)
    have hmm1 : m ≤ m' := by omega
    have hmm2 : m' ≤ m := by omega
    clear h h' hp hl hl' hnm
    go_enter Tryz.func54, Tryz.ntmps54
    go_wp2
    go_loopw [17] (fun x wr => ∃ k : Nat, k ≤ m ∧ x = .int .i64 (k : Int) ∧ l.take k = l'.take k ∧ Below W.heap.size W wr) (fun x _ => m - (intOf x).toNat)
    case atStart => exact ⟨0, Nat.zero_le _, rfl, rfl, Below.refl _ _⟩
    case round =>
      obtain ⟨i, hi, rfl, hm, hbel⟩ := hrel
      obtain ⟨w3, hw3⟩ : ∃ w3, w3 = wr := ⟨wr, rfl⟩
      subst hw3
      have Hm := hide hm
      have B3 := hide hbel
      clear hm
      by_cases hlt : i < m
      · have hlt' : (i : Int) < (m : Int) := by omega
        obtain ⟨x, g, o, q0, q1, qA, qn, qc, hxl, rfl, x0, x1, x2, rx⟩ := (Hs.out.below hbel).at_ hlt
        have hmem : x ∈ l := List.mem_of_getElem? hxl
        obtain ⟨w4, hw4⟩ : ∃ w4, w3.alloc (.cells #[.int .i64 q0, .int .i64 q1, .slice qA qn qc] 32) = w4 := ⟨_, rfl⟩
        have hb4 : Below w3.heap.size w3 w4 := by rw [← hw4]; exact bnew (Below.refl _ w3) _
        have hsz4 : w4.heap.size = w3.heap.size + 1 := by rw [← hw4]; simp
        have hf4 : Tri3 w4 w3.heap.size (.int .i64 q0) (.int .i64 q1) (.slice qA qn qc) := by rw [← hw4]; exact tri3_new w3 _ _ _ 32
        obtain ⟨y, g', o', p0, p1, pA, pn, pc, hyl, rfl, z0, z1, z2, ry⟩ := (Hs'.out.below (hbel.trans (hb4.mono hbel.size))).at_ (show i < m' by omega)
        have hb5 := bnew (Below.refl _ w4) (.cells #[.int .i64 p0, .int .i64 p1, .slice pA pn pc] 32)
        have hf5 := tri3_new w4 (.int .i64 p0) (.int .i64 p1) (.slice pA pn pc) 32
        have hf6 := hf4.keep hb5
        have rx5 := (rx.kept hb4).kept hb5
        have ry5 := ry.kept hb5
        have B5 := hide (hbel.trans ((bgo hb4 hb5).mono hbel.size))
        have HC := hide (Hp.out x hmem _ _ _ y rx5 ry5)
        rw [hsz4] at hf5
        rw [← hw4] at z0 z1 z2 hf5 hf6 HC B5
        obtain ⟨-, y0, y1, y2⟩ := hf5
        obtain ⟨-, u0, u1, u2⟩ := hf6
        have hi' : (i : Int) < (m' : Int) := by omega
        cases hs : sameN x y with
        | true =>
          have Hn := hide (nd_next Hm.out hxl hyl ((sameN_iff x y).1 hs))
          rw [hs] at HC
          clear hs hxl hyl rx ry rx5 ry5 hmem hb4 hb5 hbel hw4 hf4 hsz4
          go_wp2_with fail
          with_reducible refine HC.out.mono ?_
          rintro e w6 ⟨rfl, hb6⟩
          have B6 := hide (B5.out.trans (hb6.mono B5.out.size))
          clear hb6
          go_wp2
          go_roundw
          case rel => exact ⟨i + 1, by omega, by go_num, Hn.out, B6.out⟩
          case measure => simp [intOf]; omega
        | false =>
          have hne : ¬ x = y := fun e => by rw [(sameN_iff x y).2 e] at hs; cases hs
          have Hn := hide (Hno.out fun e => hne (by
            rw [e, hyl] at hxl
            exact (Option.some.inj hxl).symm))
          rw [hs] at HC
          clear hs hxl hyl rx ry rx5 ry5 hmem hb4 hb5 hbel hw4 hf4 hsz4 hne
          go_wp2_with fail
          with_reducible refine HC.out.mono ?_
          rintro e w6 ⟨rfl, hb6⟩
          have B6 := hide (B5.out.trans (hb6.mono B5.out.size))
          clear hb6
          go_wp2
          go_ret
          exact ⟨ret_bool Hn.out.symm, B6.out⟩
      · have hall := Hm.out
        rw [List.take_of_length_le (by rw [Hl.out]; omega), List.take_of_length_le (by rw [Hl'.out]; omega)] at hall
        have Hn := hide (Hyes.out hall)
        clear hall hbel
        go_wp2
        go_ret
        exact ⟨ret_bool Hn.out.symm, B3.out⟩
  · have hq : ((m : Int) != (m' : Int)) = true := inne (by omega)
    have Hn := hide (Hno.out fun e => hnm (by rw [← hl, ← hl', e]))
    clear h h' hp hl hl' hnm
    go_enter Tryz.func54, Tryz.ntmps54
    go_wp2
    go_ret
    exact ⟨ret_bool Hn.out.symm, Below.refl _ _⟩
set_option maxRecDepth 100000 in
set_option maxHeartbeats 6400000 in
theorem psame21 : ∀ (r : Nd) (W : World) (ok ok' : Nat → Prop) (v v' : Value) (r' : Nd), NdV W ok v r → NdV W ok' v' r' → ∀ q : Bool, (q = true ↔ r = r') →
    Calls Tryz.prog 25 #[v, v'] W fun e w' => e = .returned (.bool q) ∧ Below W.heap.size W w' := by
  intro r
  induction r using Nd.ind with
  | h k g l ih =>
    intro W ok ok' v v' r' hv hv' q hq
    obtain ⟨k1, g1, B, m, d, rfl, e1, e2, -, -, -, hkk, hgg⟩ := ndv_shape hv
    obtain ⟨k', g', l'⟩ := r'
    obtain ⟨k2, g2, B', m', d', rfl, e3, e4, -, -, -, hkk', hgg'⟩ := ndv_shape hv'
    simp only [Nd.kind, Nd.gram] at e1 e2 e3 e4
    subst e1 e2 e3 e4
    have Hno := hide (show (¬ k1 = k2 ∨ ¬ g1 = g2) → q = false from fun h => by
      cases q with
      | false => rfl
      | true =>
        have e := hq.1 rfl
        injection e with e1 e2 e3
        rcases h with h | h
        · exact absurd e1 h
        · exact absurd e2 h)
    have Hyes := hide (show k1 = k2 → g1 = g2 → (q = true ↔ l = l') from fun h1 h2 => by subst h1 h2; rw [hq]; simp)
    have hB2 := bnew (bnew (Below.refl _ W) (.cells #[.int .i64 k1, .int .i64 g1, .slice B m d] 32)) (.cells #[.int .i64 k2, .int .i64 g2, .slice B' m' d'] 32)
    obtain ⟨w0, hw0⟩ : ∃ w0, (W.alloc (.cells #[.int .i64 k1, .int .i64 g1, .slice B m d] 32)).alloc (.cells #[.int .i64 k2, .int .i64 g2, .slice B' m' d'] 32) = w0 := ⟨_, rfl⟩
    have f1 := (tri3_new W (.int .i64 k1) (.int .i64 g1) (.slice B m d) 32).keep (bnew (Below.refl _ _) (.cells #[.int .i64 k2, .int .i64 g2, .slice B' m' d'] 32))
    have f2 := tri3_new (W.alloc (.cells #[.int .i64 k1, .int .i64 g1, .slice B m d] 32)) (.int .i64 k2) (.int .i64 g2) (.slice B' m' d') 32
    rw [show (W.alloc (.cells #[.int .i64 k1, .int .i64 g1, .slice B m d] 32)).heap.size = W.heap.size + 1 by simp] at f2
    rw [hw0] at hB2 f1 f2
    have BB := hide hB2
    have T := hide ((hv.kept hB2).subs)
    have T' := hide ((hv'.kept hB2).subs)
    obtain ⟨_, t0, t1, t2⟩ := f1
    obtain ⟨_, y0, y1, y2⟩ := f2
    have IH := hide (fun (x : Nd) (hx : x ∈ l) (W' : World) (u u' : Value) (y : Nd) (h : NdV W' ok u x) (h' : NdV W' ok' u' y) => ih x hx W' ok ok' u u' y h h' (sameN x y) (sameN_iff x y))
    clear hv hv' hB2 hq ih
    by_cases ek : k1 = k2
    · have qk := ibeq ek
      by_cases eg : g1 = g2
      · have qg := ibeq eg
        have HD := hide (equalN T.out T'.out IH.out q (Hyes.out ek eg))
        clear ek eg Hno Hyes
        go_enter Tryz.func25, Tryz.ntmps25
        go_wp2_with fail
        with_reducible refine HD.out.mono ?_
        rintro e w5 ⟨rfl, hb5⟩
        have B5 := hide (bgo BB.out hb5)
        clear hb5
        go_wp2
        go_ret
        exact ⟨rfl, B5.out⟩
      · have qg := ibne eg
        have Hn := hide (Hno.out (Or.inr eg))
        clear ek eg Hno Hyes
        go_enter Tryz.func25, Tryz.ntmps25
        go_wp2_with fail
        go_ret
        exact ⟨ret_bool Hn.out.symm, BB.out⟩
    · have qk := ibne ek
      have Hn := hide (Hno.out (Or.inl ek))
      clear ek Hno Hyes
      go_enter Tryz.func25, Tryz.ntmps25
      go_wp2_with fail
      go_ret
      exact ⟨ret_bool Hn.out.symm, BB.out⟩
end Go.Proofs.YtlnbjdlooghpeaaGreatDoor
