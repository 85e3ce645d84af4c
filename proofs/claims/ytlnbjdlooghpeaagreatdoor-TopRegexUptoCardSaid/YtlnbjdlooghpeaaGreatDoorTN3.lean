/- TopRegex: N3. -/
import Derived.Test.YtlnbjdlooghpeaaGreatDoorTN2
import Derived.Test.YtlnbjdlooghpeaaGreatDoorTGk
namespace Go.Proofs.YtlnbjdlooghpeaaGreatDoor
open Go.RowKit
theorem ret_pair {p q R S : Int} (h1 : p = R) (h2 : q = S) : Ending.returned (.tuple #[.int .i64 p, .int .i64 q]) = Ending.returned (.tuple #[.int .i64 R, .int .i64 S]) := by rw [h1, h2]
theorem RxV.nine {W : World} {ok : Nat → Prop} {v : Value} {r : Rx} (h : RxV W ok v r) : ∃ (k : Int) (A : Option Addr) (n c : Nat) (a b : Int) (B : Option Addr) (m d : Nat), v = .agg #[.int .i64 k, .slice A n c, .int .i64 a, .int .i64 b, .slice B m d] := by
  cases h
  exact ⟨_, _, _, _, _, _, _, _, _, rfl⟩
def SubsS (W : World) (ok : Nat → Prop) (B : Option Addr) (m d : Nat) (l : List Rx) : Prop :=
  m ≤ d ∧ d ≤ 9223372036854775807 ∧ l.length = m ∧ ∀ i x, l[i]? = some x → ∃ (g o : Nat) (k : Int) (A : Option Addr) (n c : Nat) (a b : Int) (B' : Option Addr) (m' d' : Nat), B = some ⟨g, o, none⟩ ∧ ok g ∧
    W.cell? ⟨g, o + i * 5, none⟩ = some (.int .i64 k) ∧ W.cell? ⟨g, o + i * 5 + 1, none⟩ = some (.slice A n c) ∧ W.cell? ⟨g, o + i * 5 + 2, none⟩ = some (.int .i64 a) ∧ W.cell? ⟨g, o + i * 5 + 3, none⟩ = some (.int .i64 b) ∧ W.cell? ⟨g, o + i * 5 + 4, none⟩ = some (.slice B' m' d') ∧
    RxV W ok (.agg #[.int .i64 k, .slice A n c, .int .i64 a, .int .i64 b, .slice B' m' d']) x
theorem SubsS.of {W : World} {ok : Nat → Prop} {B : Option Addr} {m d : Nat} {vs : List Value} {l : List Rx} (hvs : VsS W ok B m d vs) (hlen : l.length = m) (hr : ∀ (i : Nat) (v : Value) (x : Rx), vs[i]? = some v → l[i]? = some x → RxV W ok v x) : SubsS W ok B m d l := by
  refine ⟨hvs.1, hvs.2.1, hlen, fun i x hx => ?_⟩
  have hi : i < vs.length := by rw [hvs.2.2.1, ← hlen]; exact (List.getElem?_eq_some_iff.1 hx).1
  have hv := List.getElem?_eq_getElem hi
  obtain ⟨g, o, c0, c1, c2, c3, c4, hB, hg, e, h0, h1, h2, h3, h4⟩ := hvs.2.2.2 i _ hv
  have hx := hr i _ x hv hx
  rw [e] at hx
  obtain ⟨k, A, n, c, a, b, B', m', d', e'⟩ := hx.nine
  simp only [Value.agg.injEq, Array.mk.injEq, List.cons.injEq, and_true] at e'
  obtain ⟨rfl, rfl, rfl, rfl, rfl⟩ := e'
  exact ⟨g, o, k, A, n, c, a, b, B', m', d', hB, hg, h0, h1, h2, h3, h4, hx⟩
theorem SubsS.below {W W' : World} {ok : Nat → Prop} {B : Option Addr} {m d : Nat} {l : List Rx} (h : SubsS W ok B m d l) (hb : Below W.heap.size W W') : SubsS W' ok B m d l := by
  refine ⟨h.1, h.2.1, h.2.2.1, fun i x hx => ?_⟩
  obtain ⟨g, o, k, A, n, c, a, b, B', m', d', hB, hg, h0, h1, h2, h3, h4, hr⟩ := h.2.2.2 i x hx
  have hlt : g < W.heap.size := World.block_lt_of_cell? _ _ h0
  have key : ∀ (j : Nat) (u : Value), W.cell? ⟨g, j, none⟩ = some u → W'.cell? ⟨g, j, none⟩ = some u := fun j u hu => (hb.cell (p := ⟨g, j, none⟩) hlt).trans hu
  exact ⟨g, o, k, A, n, c, a, b, B', m', d', hB, hg, key _ _ h0, key _ _ h1, key _ _ h2, key _ _ h3, key _ _ h4, hr.kept hb⟩
theorem SubsS.at_ {W : World} {ok : Nat → Prop} {B : Option Addr} {m d : Nat} {l : List Rx} (h : SubsS W ok B m d l) {i : Nat} (hi : i < m) :
    ∃ (x : Rx) (g o : Nat) (k : Int) (A : Option Addr) (n c : Nat) (a b : Int) (B' : Option Addr) (m' d' : Nat), l[i]? = some x ∧ B = some ⟨g, o, none⟩ ∧
    W.cell? ⟨g, o + i * 5, none⟩ = some (.int .i64 k) ∧ W.cell? ⟨g, o + i * 5 + 1, none⟩ = some (.slice A n c) ∧ W.cell? ⟨g, o + i * 5 + 2, none⟩ = some (.int .i64 a) ∧ W.cell? ⟨g, o + i * 5 + 3, none⟩ = some (.int .i64 b) ∧ W.cell? ⟨g, o + i * 5 + 4, none⟩ = some (.slice B' m' d') ∧
    RxV W ok (.agg #[.int .i64 k, .slice A n c, .int .i64 a, .int .i64 b, .slice B' m' d']) x := by
  have hl : i < l.length := by rw [h.2.2.1]; exact hi
  have hx := List.getElem?_eq_getElem hl
  obtain ⟨g, o, k, A, n, c, a, b, B', m', d', hB, _, r⟩ := h.2.2.2 i _ hx
  exact ⟨_, g, o, k, A, n, c, a, b, B', m', d', hx, hB, r⟩
set_option maxRecDepth 100000 in
set_option maxHeartbeats 12800000 in
theorem first43 : ∀ (r : Rx) (W : World) (ok : Nat → Prop) (v : Value), RxV W ok v r → Calls Tryz.prog 56 #[v] W fun e w' => e = .returned (.int .i64 (nodeR r)) ∧ Below W.heap.size W w' := by
  intro r
  induction r using Rx.ind with
  | h k s a b l ih =>
    intro W ok v hv
    have hv0 := hv
    cases hv with
    | mk _ _ _ A B n c m d _ vs _ hset hvs hlen hk ha hb hr =>
    have hmd := hvs.1
    have hdd := hvs.2.1
    have hB := bnew (Below.refl _ W) (.cells #[.int .i64 k, .slice A n c, .int .i64 a, .int .i64 b, .slice B m d] 25)
    have BB := hide hB
    have Hs := hide ((SubsS.of hvs hlen hr).below hB)
    have Hlen := hide hlen
    have F := hide (five_new W (.int .i64 k) (.slice A n c) (.int .i64 a) (.int .i64 b) (.slice B m d) 25)
    have V := hide (hv0.kept hB)
    clear hset hvs hr hB hlen hv0
    cases hf : fieldsR (.mk k s a b l) with
    | false =>
      have Hn := hide (node_fields hf)
      have HC := hide (pfields70 V.out false hf)
      obtain ⟨_, t0, t1, t2, t3, t4⟩ := F.out
      clear hf
      go_enter Tryz.func56, Tryz.ntmps56
      go_wp2_with fail
      with_reducible refine HC.out.mono ?_
      rintro e w2 ⟨rfl, hb2⟩
      have B2 := hide (bgo BB.out hb2)
      clear hb2 V F t0 t1 t2 t3 t4
      go_wp2
      go_ret
      exact ⟨ret_int Hn.out.symm, B2.out⟩
    | true =>
      have HC := hide (pfields70 V.out true hf)
      by_cases hk4 : k = 4
      · have e4 : (k == 4) = true := by rw [hk4]; rfl
        cases hbd : boundsR a b with
        | false =>
          have Hn := hide (node_bounds hf hk4 hbd)
          have HD := hide (fun W => bounds71 a b ha hb W false hbd)
          obtain ⟨_, t0, t1, t2, t3, t4⟩ := F.out
          clear hf hk4 hbd ha hb hk
          go_enter Tryz.func56, Tryz.ntmps56
          go_wp2_with fail
          with_reducible refine HC.out.mono ?_
          rintro e w2 ⟨rfl, hb2⟩
          have B2 := hide (bgo BB.out hb2)
          clear t0 t1 t2 t3 t4
          obtain ⟨_, t0, t1, t2, t3, t4⟩ := F.out.keep hb2
          clear hb2 V F
          go_wp2_with fail
          with_reducible refine (HD.out _).mono ?_
          rintro e w5 ⟨rfl, rfl⟩
          go_wp2
          go_ret
          exact ⟨ret_int Hn.out.symm, B2.out⟩
        | true =>
          have Hnode := hide (node_subs hf (by rw [hbd]; simp))
          have HD := hide (fun W => bounds71 a b ha hb W true hbd)
          obtain ⟨_, t0, t1, t2, t3, t4⟩ := F.out
          clear hf hk4 hbd ha hb hk
          go_enter Tryz.func56, Tryz.ntmps56
          go_wp2_with fail
          with_reducible refine HC.out.mono ?_
          rintro e w2 ⟨rfl, hb2⟩
          have B2 := hide (bgo BB.out hb2)
          have Hs2 := hide (Hs.out.below hb2)
          clear t0 t1 t2 t3 t4
          obtain ⟨_, t0, t1, t2, t3, t4⟩ := F.out.keep hb2
          clear hb2 V F
          go_wp2_with fail
          with_reducible refine (HD.out _).mono ?_
          rintro e w5 ⟨rfl, rfl⟩
          go_wp2
          clear t0 t1 t2 t3 t4
          go_loopw [23] (fun x wr => ∃ i : Nat, i ≤ m ∧ x = .int .i64 (i : Int) ∧ (∀ y ∈ l.take i, nodeR y = 0) ∧ Below w2.heap.size w2 wr) (fun x _ => m - (intOf x).toNat)
          case atStart => exact ⟨0, Nat.zero_le _, rfl, fun y hy => (by simp at hy), Below.refl _ _⟩
          case round =>
            obtain ⟨i, hi, rfl, hm, hbel⟩ := hrel
            obtain ⟨w3, hw3⟩ : ∃ w3, w3 = wr := ⟨wr, rfl⟩
            subst hw3
            have Hm := hide hm
            have B3 := hide hbel
            have B4 := hide (bgo B2.out hbel)
            clear hm
            by_cases hlt : i < m
            · have hlt' : (i : Int) < (m : Int) := by omega
              obtain ⟨x, g, o, q0, qA, qn, qc, q1, q2, qB, qm, qd, hxl, rfl, x0, x1, x2, x3, x4, rx⟩ := (Hs2.out.below hbel).at_ hlt
              have hmem : x ∈ l := List.mem_of_getElem? hxl
              have hb5 := bnew (Below.refl _ w3) (.cells #[.int .i64 q0, .slice qA qn qc, .int .i64 q1, .int .i64 q2, .slice qB qm qd] 25)
              have hfv := five_new w3 (.int .i64 q0) (.slice qA qn qc) (.int .i64 q1) (.int .i64 q2) (.slice qB qm qd) 25
              obtain ⟨-, y0, y1, y2, y3, y4⟩ := hfv
              have HR := rx.kept hb5
              have B5 := hide (B3.out.trans (hb5.mono B3.out.size))
              obtain ⟨y, hy⟩ : ∃ y, nodeR x = y := ⟨_, rfl⟩
              have HC := hide (ih x hmem _ ok _ HR)
              rw [hy] at HC
              by_cases hy0 : y = 0
              · have hq : (y != 0) = false := int_eq hy0
                have Hn := hide (show ∀ z ∈ l.take (i + 1), nodeR z = 0 from fun z hz => by
                  rw [rx_take hxl, List.mem_append, List.mem_singleton] at hz
                  rcases hz with hz | rfl
                  · exact Hm.out z hz
                  · rw [hy, hy0])
                clear hxl rx hmem hy hy0 hbel hb5 HR
                go_wp2_with fail
                with_reducible refine HC.out.mono ?_
                rintro e w4 ⟨rfl, hb4⟩
                have B6 := hide (B5.out.trans (hb4.mono B5.out.size))
                clear hb4 y0 y1 y2 y3 y4 x0 x1 x2 x3 x4
                go_wp2
                go_roundw
                case rel => exact ⟨i + 1, by omega, by go_num, Hn.out, B6.out⟩
                case measure => simp [intOf]; omega
              · have hq : (y != 0) = true := int_ne hy0
                have Hn := hide (show nodeR (.mk k s a b l) = y by rw [Hnode.out, ← hy]; exact nodeL_at hxl Hm.out (by rw [hy]; exact hy0))
                clear hxl rx hmem hy hy0 hbel hb5 HR
                go_wp2_with fail
                with_reducible refine HC.out.mono ?_
                rintro e w4 ⟨rfl, hb4⟩
                have B6 := hide (bgo (bgo B2.out B5.out) hb4)
                clear hb4 y0 y1 y2 y3 y4 x0 x1 x2 x3 x4
                go_wp2
                go_ret
                exact ⟨ret_int Hn.out.symm, B6.out⟩
            · have hlt' : ¬ (i : Int) < (m : Int) := by omega
              have hall := Hm.out
              rw [List.take_of_length_le (by rw [Hlen.out]; omega)] at hall
              have Hn := hide (show nodeR (.mk k s a b l) = 0 by rw [Hnode.out]; exact nodeL_all hall)
              clear hall hbel
              go_wp2
              go_ret
              exact ⟨ret_int Hn.out.symm, B4.out⟩
      · have e4 : (k == 4) = false := beq_eq_false_iff_ne.2 hk4
        have Hnode := hide (node_subs hf (fun h => hk4 h.1))
        obtain ⟨_, t0, t1, t2, t3, t4⟩ := F.out
        clear hf hk4 ha hb hk
        go_enter Tryz.func56, Tryz.ntmps56
        go_wp2_with fail
        with_reducible refine HC.out.mono ?_
        rintro e w2 ⟨rfl, hb2⟩
        have B2 := hide (bgo BB.out hb2)
        have Hs2 := hide (Hs.out.below hb2)
        clear t0 t1 t2 t3 t4
        obtain ⟨_, t0, t1, t2, t3, t4⟩ := F.out.keep hb2
        clear hb2 V F
        go_wp2
        clear t0 t1 t2 t3 t4
        go_loopw [23] (fun x wr => ∃ i : Nat, i ≤ m ∧ x = .int .i64 (i : Int) ∧ (∀ y ∈ l.take i, nodeR y = 0) ∧ Below w2.heap.size w2 wr) (fun x _ => m - (intOf x).toNat)
        case atStart => exact ⟨0, Nat.zero_le _, rfl, fun y hy => (by simp at hy), Below.refl _ _⟩
        case round =>
          obtain ⟨i, hi, rfl, hm, hbel⟩ := hrel
          obtain ⟨w3, hw3⟩ : ∃ w3, w3 = wr := ⟨wr, rfl⟩
          subst hw3
          have Hm := hide hm
          have B3 := hide hbel
          have B4 := hide (bgo B2.out hbel)
          clear hm
          by_cases hlt : i < m
          · have hlt' : (i : Int) < (m : Int) := by omega
            obtain ⟨x, g, o, q0, qA, qn, qc, q1, q2, qB, qm, qd, hxl, rfl, x0, x1, x2, x3, x4, rx⟩ := (Hs2.out.below hbel).at_ hlt
            have hmem : x ∈ l := List.mem_of_getElem? hxl
            have hb5 := bnew (Below.refl _ w3) (.cells #[.int .i64 q0, .slice qA qn qc, .int .i64 q1, .int .i64 q2, .slice qB qm qd] 25)
            have hfv := five_new w3 (.int .i64 q0) (.slice qA qn qc) (.int .i64 q1) (.int .i64 q2) (.slice qB qm qd) 25
            obtain ⟨-, y0, y1, y2, y3, y4⟩ := hfv
            have HR := rx.kept hb5
            have B5 := hide (B3.out.trans (hb5.mono B3.out.size))
            obtain ⟨y, hy⟩ : ∃ y, nodeR x = y := ⟨_, rfl⟩
            have HC := hide (ih x hmem _ ok _ HR)
            rw [hy] at HC
            by_cases hy0 : y = 0
            · have hq : (y != 0) = false := int_eq hy0
              have Hn := hide (show ∀ z ∈ l.take (i + 1), nodeR z = 0 from fun z hz => by
                rw [rx_take hxl, List.mem_append, List.mem_singleton] at hz
                rcases hz with hz | rfl
                · exact Hm.out z hz
                · rw [hy, hy0])
              clear hxl rx hmem hy hy0 hbel hb5 HR
              go_wp2_with fail
              with_reducible refine HC.out.mono ?_
              rintro e w4 ⟨rfl, hb4⟩
              have B6 := hide (B5.out.trans (hb4.mono B5.out.size))
              clear hb4 y0 y1 y2 y3 y4 x0 x1 x2 x3 x4
              go_wp2
              go_roundw
              case rel => exact ⟨i + 1, by omega, by go_num, Hn.out, B6.out⟩
              case measure => simp [intOf]; omega
            · have hq : (y != 0) = true := int_ne hy0
              have Hn := hide (show nodeR (.mk k s a b l) = y by rw [Hnode.out, ← hy]; exact nodeL_at hxl Hm.out (by rw [hy]; exact hy0))
              clear hxl rx hmem hy hy0 hbel hb5 HR
              go_wp2_with fail
              with_reducible refine HC.out.mono ?_
              rintro e w4 ⟨rfl, hb4⟩
              have B6 := hide (bgo (bgo B2.out B5.out) hb4)
              clear hb4 y0 y1 y2 y3 y4 x0 x1 x2 x3 x4
              go_wp2
              go_ret
              exact ⟨ret_int Hn.out.symm, B6.out⟩
          · have hlt' : ¬ (i : Int) < (m : Int) := by omega
            have hall := Hm.out
            rw [List.take_of_length_le (by rw [Hlen.out]; omega)] at hall
            have Hn := hide (show nodeR (.mk k s a b l) = 0 by rw [Hnode.out]; exact nodeL_all hall)
            clear hall hbel
            go_wp2
            go_ret
            exact ⟨ret_int Hn.out.symm, B4.out⟩
theorem sizeL_len : ∀ l : List Rx, l.length ≤ sizeL l := by
  intro l
  induction l with
  | nil => simp
  | cons x l ih => simp only [sizeL, List.length_cons]; have : 1 ≤ sizeR x := (by cases x; unfold sizeR; omega); omega
set_option maxRecDepth 100000 in
set_option maxHeartbeats 6400000 in
theorem psize44 : ∀ (r : Rx) (W : World) (ok : Nat → Prop) (v : Value), RxV W ok v r → sizeR r ≤ 1000000 → depthR r ≤ 1000000 → Calls Tryz.prog 57 #[v] W fun e w' => e = .returned (.tuple #[.int .i64 (sizeR r : Nat), .int .i64 (depthR r : Nat)]) ∧ Below W.heap.size W w' := by
  intro r
  induction r using Rx.ind with
  | h k s a b l ih =>
    intro W ok v hv hsz hdp
    have hv0 := hv
    cases hv with
    | mk _ _ _ A B n c m d _ vs _ hset hvs hlen hk ha hb hr =>
    have hmd := hvs.1
    have hdd := hvs.2.1
    have hB := bnew (Below.refl _ W) (.cells #[.int .i64 k, .slice A n c, .int .i64 a, .int .i64 b, .slice B m d] 25)
    have BB := hide hB
    have Hs := hide ((SubsS.of hvs hlen hr).below hB)
    have Hlen := hide hlen
    have F := hide (five_new W (.int .i64 k) (.slice A n c) (.int .i64 a) (.int .i64 b) (.slice B m d) 25)
    have hl : sizeL l ≤ 1000000 := by unfold sizeR at hsz; omega
    have hld : depthL l ≤ 1000000 := by unfold depthR at hdp; omega
    have Hres := hide (show sizeR (.mk k s a b l) = 1 + sizeL l from rfl)
    have Hresd := hide (show depthR (.mk k s a b l) = depthL l + 1 from rfl)
    have hml : m ≤ 1000000 := by have := sizeL_len l; omega
    have f := F.out
    obtain ⟨w2, hw2⟩ : ∃ w2, W.alloc (.cells #[.int .i64 k, .slice A n c, .int .i64 a, .int .i64 b, .slice B m d] 25) = w2 := ⟨_, rfl⟩
    rw [hw2] at Hs BB f
    obtain ⟨_, t0, t1, t2, t3, t4⟩ := f
    have Hs2 := Hs
    clear hset hvs hr hB hlen hsz hdp hv0 F
    go_enter Tryz.func57, Tryz.ntmps57
    go_wp2
    clear t0 t1 t2 t3 t4
    go_loopw [4, 5, 13] (fun y u x wr => ∃ (i z p : Nat), i ≤ m ∧ x = .int .i64 (i : Int) ∧ y = .int .i64 (z : Int) ∧ u = .int .i64 (p : Int) ∧ z = 1 + sizeL (l.take i) ∧ p = depthL (l.take i) ∧ Below w2.heap.size w2 wr) (fun _ _ x _ => m - (intOf x).toNat)
    case atStart => exact ⟨0, 1, 0, Nat.zero_le _, rfl, rfl, rfl, rfl, rfl, Below.refl _ _⟩
    case round =>
      obtain ⟨i, z, p, hi, rfl, rfl, rfl, hz, hp, hbel⟩ := hrel
      obtain ⟨w3, hw3⟩ : ∃ w3, w3 = wr := ⟨wr, rfl⟩
      subst hw3
      have B3 := hide hbel
      have B4 := hide (bgo BB.out hbel)
      have htk := sizeL_take l i
      have htd := depthL_take l i
      have hzb : z ≤ 1000001 := by omega
      have hpb : p ≤ 1000001 := by omega
      have Hz := hide hz
      have Hpp := hide hp
      clear hz htk hp htd
      by_cases hlt : i < m
      · have hlt' : (i : Int) < (m : Int) := by omega
        obtain ⟨x, g, o, q0, qA, qn, qc, q1, q2, qB, qm, qd, hxl, rfl, x0, x1, x2, x3, x4, rx⟩ := (Hs2.out.below hbel).at_ hlt
        have hmem : x ∈ l := List.mem_of_getElem? hxl
        have hb5 := bnew (Below.refl _ w3) (.cells #[.int .i64 q0, .slice qA qn qc, .int .i64 q1, .int .i64 q2, .slice qB qm qd] 25)
        have hfv := five_new w3 (.int .i64 q0) (.slice qA qn qc) (.int .i64 q1) (.int .i64 q2) (.slice qB qm qd) 25
        obtain ⟨-, y0, y1, y2, y3, y4⟩ := hfv
        have HR := rx.kept hb5
        have B5 := hide (B3.out.trans (hb5.mono B3.out.size))
        have hxs := sizeL_mem hmem
        have hxd := depthL_mem hmem
        obtain ⟨y, hy⟩ : ∃ y, sizeR x = y := ⟨_, rfl⟩
        obtain ⟨t, ht⟩ : ∃ t, depthR x = t := ⟨_, rfl⟩
        have HC := hide (ih x hmem _ ok _ HR (by omega) (by omega))
        rw [hy, ht] at HC
        have hyb : y ≤ 1000000 := by omega
        have htb : t ≤ 1000000 := by omega
        have Hn := hide (show z + y = 1 + sizeL (l.take (i + 1)) by rw [rx_take hxl, sizeL_app, hy, Hz.out]; omega)
        have Hnd := hide (show max p t = depthL (l.take (i + 1)) by rw [rx_take hxl, depthL_app, ht, Hpp.out])
        clear hxl rx hmem hy ht hbel hb5 HR hxs hxd
        go_wp2_with fail
        with_reducible refine HC.out.mono ?_
        rintro e w4 ⟨rfl, hb4⟩
        have B6 := hide (B5.out.trans (hb4.mono B5.out.size))
        clear hb4 y0 y1 y2 y3 y4 x0 x1 x2 x3 x4
        go_wp2
        go_roundw
        case rel => exact ⟨i + 1, z + y, max p t, by omega, by go_num, by go_num, by first | go_num | (congr 1; omega), Hn.out, Hnd.out, B6.out⟩
        case measure => simp [intOf]; omega
      · have hlt' : ¬ (i : Int) < (m : Int) := by omega
        have hall := Hz.out
        have hall2 := Hpp.out
        rw [List.take_of_length_le (by rw [Hlen.out]; omega)] at hall hall2
        have Hn := hide (show (z : Int) = ((sizeR (.mk k s a b l) : Nat) : Int) by rw [Hres.out, hall])
        have Hn2 := hide (show (p : Int) + 1 = ((depthR (.mk k s a b l) : Nat) : Int) by rw [Hresd.out, hall2]; omega)
        clear hall hall2 hbel
        go_wp2
        go_ret2
        exact ⟨ret_pair Hn.out Hn2.out, B4.out⟩
set_option maxRecDepth 100000 in
set_option maxHeartbeats 6400000 in
theorem pright27 {W : World} {ok : Nat → Prop} {v : Value} {r : Rx} (hv : RxV W ok v r) (hs : sizeR r ≤ 1000000) (hd : depthR r ≤ 1000000) : Calls Tryz.prog 29 #[v] W fun e w' => e = .returned (.int .i64 (rightR r)) ∧ Below W.heap.size W w' := by
  have hv0 := hv
  cases hv with
  | mk k a b A B n c m d s vs l hset hvs hlen hk ha hb hr =>
  have hB := bnew (Below.refl _ W) (.cells #[.int .i64 k, .slice A n c, .int .i64 a, .int .i64 b, .slice B m d] 25)
  have BB := hide hB
  have F := hide (five_new W (.int .i64 k) (.slice A n c) (.int .i64 a) (.int .i64 b) (.slice B m d) 25)
  have V := hide (hv0.kept hB)
  obtain ⟨r, hr'⟩ : ∃ r, Rx.mk k s a b l = r := ⟨_, rfl⟩
  rw [hr'] at hv0 V hs hd ⊢
  have HC1 := hide (first43 r _ ok _ V.out)
  have HC2 := hide (fun W' (hb : Below (W.alloc (.cells #[.int .i64 k, .slice A n c, .int .i64 a, .int .i64 b, .slice B m d] 25)).heap.size (W.alloc (.cells #[.int .i64 k, .slice A n c, .int .i64 a, .int .i64 b, .slice B m d] 25)) W') => psize44 r W' ok _ (V.out.kept hb) hs hd)
  obtain ⟨_, t0, t1, t2, t3, t4⟩ := F.out
  clear hset hvs hr hB hlen hv0 hr' hk ha hb
  obtain ⟨y, hy⟩ : ∃ y, nodeR r = y := ⟨_, rfl⟩
  obtain ⟨p, hp⟩ : ∃ p, sizeR r = p := ⟨_, rfl⟩
  obtain ⟨q, hq⟩ : ∃ q, depthR r = q := ⟨_, rfl⟩
  have hrr : rightR r = if y = 0 then (if 40 < p ∨ 12 < q then 4 else 0) else y := by unfold rightR; rw [hy, hp, hq]
  rw [hy] at HC1
  rw [hp, hq] at HC2
  rw [hp] at hs
  rw [hq] at hd
  clear hy hp hq
  by_cases hy0 : y = 0
  · have hq0 : (y != 0) = false := int_eq hy0
    rw [if_pos hy0] at hrr
    clear hy0
    have hpq : (40 < p) ∨ (¬ 40 < p ∧ 12 < q) ∨ (¬ 40 < p ∧ ¬ 12 < q) := by omega
    rcases hpq with h40 | ⟨h40, h12⟩ | ⟨h40, h12⟩
    · have Hn := hide (show rightR r = 4 by rw [hrr, if_pos (Or.inl h40)])
      have l40 : (40 : Int) < (p : Int) := by omega
      clear hrr
      go_enter Tryz.func29, Tryz.ntmps29
      go_wp2_with fail
      with_reducible refine HC1.out.mono ?_
      rintro e w2 ⟨rfl, hb2⟩
      have B2 := hide (bgo BB.out hb2)
      have HD := hide (HC2.out _ hb2)
      clear t0 t1 t2 t3 t4
      obtain ⟨_, t0, t1, t2, t3, t4⟩ := F.out.keep hb2
      clear hb2 V F HC1 HC2
      go_wp2_with fail
      with_reducible refine HD.out.mono ?_
      rintro e w3 ⟨rfl, hb3⟩
      have B3 := hide (bgo B2.out hb3)
      clear hb3
      go_wp2
      go_ret
      exact ⟨ret_int Hn.out.symm, B3.out⟩
    · have Hn := hide (show rightR r = 4 by rw [hrr, if_pos (Or.inr h12)])
      have l40 : ¬ (40 : Int) < (p : Int) := by omega
      have l12 : (12 : Int) < (q : Int) := by omega
      clear hrr
      go_enter Tryz.func29, Tryz.ntmps29
      go_wp2_with fail
      with_reducible refine HC1.out.mono ?_
      rintro e w2 ⟨rfl, hb2⟩
      have B2 := hide (bgo BB.out hb2)
      have HD := hide (HC2.out _ hb2)
      clear t0 t1 t2 t3 t4
      obtain ⟨_, t0, t1, t2, t3, t4⟩ := F.out.keep hb2
      clear hb2 V F HC1 HC2
      go_wp2_with fail
      with_reducible refine HD.out.mono ?_
      rintro e w3 ⟨rfl, hb3⟩
      have B3 := hide (bgo B2.out hb3)
      clear hb3
      go_wp2
      go_ret
      exact ⟨ret_int Hn.out.symm, B3.out⟩
    · have Hn := hide (show rightR r = 0 by rw [hrr, if_neg (by omega)])
      have l40 : ¬ (40 : Int) < (p : Int) := by omega
      have l12 : ¬ (12 : Int) < (q : Int) := by omega
      clear hrr
      go_enter Tryz.func29, Tryz.ntmps29
      go_wp2_with fail
      with_reducible refine HC1.out.mono ?_
      rintro e w2 ⟨rfl, hb2⟩
      have B2 := hide (bgo BB.out hb2)
      have HD := hide (HC2.out _ hb2)
      clear t0 t1 t2 t3 t4
      obtain ⟨_, t0, t1, t2, t3, t4⟩ := F.out.keep hb2
      clear hb2 V F HC1 HC2
      go_wp2_with fail
      with_reducible refine HD.out.mono ?_
      rintro e w3 ⟨rfl, hb3⟩
      have B3 := hide (bgo B2.out hb3)
      clear hb3
      go_wp2
      go_ret
      exact ⟨ret_int Hn.out.symm, B3.out⟩
  · have hq0 : (y != 0) = true := int_ne hy0
    rw [if_neg hy0] at hrr
    have Hn := hide hrr
    clear hrr hy0
    go_enter Tryz.func29, Tryz.ntmps29
    go_wp2_with fail
    with_reducible refine HC1.out.mono ?_
    rintro e w2 ⟨rfl, hb2⟩
    have B2 := hide (bgo BB.out hb2)
    clear hb2 V F t0 t1 t2 t3 t4
    go_wp2
    go_ret
    exact ⟨ret_int Hn.out.symm, B2.out⟩
end Go.Proofs.YtlnbjdlooghpeaaGreatDoor
