/- Layer 10: walks of the reference: right, Right, holds, Eval. -/
import Derived.Test.YtlnbjdlooghpeaaQa
namespace Go.Proofs.Ytlnbjdlooghpeaa
open Go.RowKit

theorem right_mk (lv : Nat) (k g : Int) (l : List Nd) : rightN lv (.mk k g l) = if 40 < lv ∨ k < 1 ∨ 5 < k then false else if k = 3 then decide (0 ≤ g) && decide (g < 16777216) && decide (l.length = 0) else if g ≠ 0 then false else if k = 1 ∨ k = 2 then decide (l.length = 0) else rightNL (lv + 1) l && decide (2 ≤ l.length) := by rw [rightN]
theorem holds_mk (c : List Int) (k g : Int) (l : List Nd) : holdsN c (.mk k g l) = if k = 3 then decide (g ∈ c) else if k = 5 then anyN c l else allN' c l && (decide (k = 1) || decide (k = 4)) := by rw [holdsN]
theorem int_beq {a b : Int} (h : a = b) : (a == b) = true := by rw [h]; simp
theorem int_nbeq {a b : Int} (h : a ≠ b) : (a == b) = false := beq_eq_false_iff_ne.2 h

set_option maxRecDepth 100000 in
set_option maxHeartbeats 6400000 in
theorem rright : ∀ (r : Nd) (W : World) (ok : Nat → Prop) (v : Value) (lv : Nat), NdV W ok v r → lv ≤ 41 → ∀ q : Bool, rightN lv r = q → Calls Try.prog 32 #[v, .int .i64 (lv : Int)] W fun e w' => e = .returned (.bool q) ∧ Below W.heap.size W w' := by
  intro r
  induction r using Nd.ind with
  | h k g l ih =>
    intro W ok v lv hv hlv q hq
    cases hv with
    | mk _ _ B m d vs _ hvs hlen hk hg hr =>
    have hmd := hvs.1
    have hdd := hvs.2.1
    have Hvs := hide hvs
    have Hlen := hide hlen
    have Hr := hide hr
    have hB := bnew (Below.refl _ W) (.cells #[.int .i64 k, .int .i64 g, .slice B m d] 35)
    have BB := hide hB
    have F := hide (tri3_new W (.int .i64 k) (.int .i64 g) (.slice B m d) 35)
    rw [right_mk, hlen] at hq
    clear hvs hr hB hlen
    obtain ⟨_, t0, t1, t2⟩ := F.out
    by_cases h1 : 40 < lv
    · have h1' : (40 : Int) < (lv : Int) := by omega
      rw [if_pos (Or.inl h1)] at hq
      have Hq := hide hq
      clear hq
      go_enter Try.func32, Try.ntmps32
      go_wp2
      go_ret
      exact ⟨ret_bool Hq.out, BB.out⟩
    have h1' : ¬ (40 : Int) < (lv : Int) := by omega
    by_cases h2 : k < 1
    · rw [if_pos (Or.inr (Or.inl h2))] at hq
      have Hq := hide hq
      clear hq
      go_enter Try.func32, Try.ntmps32
      go_wp2
      go_ret
      exact ⟨ret_bool Hq.out, BB.out⟩
    by_cases h3 : 5 < k
    · rw [if_pos (Or.inr (Or.inr h3))] at hq
      have Hq := hide hq
      clear hq
      go_enter Try.func32, Try.ntmps32
      go_wp2
      go_ret
      exact ⟨ret_bool Hq.out, BB.out⟩
    rw [if_neg (by omega)] at hq
    by_cases h4 : k = 3
    · rw [if_pos h4] at hq
      have h4' := int_beq h4
      have hm0 : ((m : Int) == 0) = decide (m = 0) := by rw [Bool.eq_iff_iff, beq_iff_eq, decide_eq_true_eq]; omega
      clear h4
      by_cases g0 : 0 ≤ g
      · by_cases g1 : g < 16777216
        · have Hq := hide (show ((m : Int) == 0) = q by rw [hm0, ← hq, decide_eq_true g0, decide_eq_true g1]; rfl)
          clear hq hm0
          go_enter Try.func32, Try.ntmps32
          go_wp2
          go_ret
          exact ⟨ret_bool Hq.out, BB.out⟩
        · have Hq := hide (show false = q by rw [← hq, decide_eq_true g0, decide_eq_false g1]; rfl)
          clear hq hm0
          go_enter Try.func32, Try.ntmps32
          go_wp2
          go_ret
          exact ⟨ret_bool Hq.out, BB.out⟩
      · have Hq := hide (show false = q by rw [← hq, decide_eq_false g0]; rfl)
        clear hq hm0
        go_enter Try.func32, Try.ntmps32
        go_wp2
        go_ret
        exact ⟨ret_bool Hq.out, BB.out⟩
    have h4' := int_nbeq h4
    rw [if_neg h4] at hq
    by_cases h5 : g = 0
    case neg =>
      have h5' := int_ne h5
      rw [if_pos h5] at hq
      have Hq := hide hq
      clear hq h5 h4
      go_enter Try.func32, Try.ntmps32
      go_wp2
      go_ret
      exact ⟨ret_bool Hq.out, BB.out⟩
    have h5' := int_eq h5
    rw [if_neg (by omega)] at hq
    by_cases h6 : k = 1
    · have h6' := int_beq h6
      have Hq := hide (show ((m : Int) == 0) = q by
        rw [← hq, if_pos (Or.inl h6), Bool.eq_iff_iff, beq_iff_eq, decide_eq_true_eq]; omega)
      clear hq h6 h5 h4
      go_enter Try.func32, Try.ntmps32
      go_wp2
      go_ret
      exact ⟨ret_bool Hq.out, BB.out⟩
    have h6' := int_nbeq h6
    by_cases h7 : k = 2
    · have h7' := int_beq h7
      have Hq := hide (show ((m : Int) == 0) = q by
        rw [← hq, if_pos (Or.inr h7), Bool.eq_iff_iff, beq_iff_eq, decide_eq_true_eq]; omega)
      clear hq h7 h6 h5 h4
      go_enter Try.func32, Try.ntmps32
      go_wp2
      go_ret
      exact ⟨ret_bool Hq.out, BB.out⟩
    have h7' := int_nbeq h7
    rw [if_neg (by omega)] at hq
    obtain ⟨lv1, hlv1⟩ : ∃ lv1, lv + 1 = lv1 := ⟨_, rfl⟩
    have hli : (lv : Int) + 1 = (lv1 : Int) := by omega
    rw [hlv1, rightNL_eq] at hq
    have Hq := hide hq
    have hl41 : lv1 ≤ 41 := by omega
    have Hih := hide (fun x hx (W : World) v (h : NdV W ok v x) q hq => ih x hx W ok v lv1 h hl41 q hq)
    clear hq h7 h6 h5 h4 hlv1 ih hl41
    go_enter Try.func32, Try.ntmps32
    go_wp2
    clear t0 t1 t2
    go_loopw [5] (fun x wr => ∃ i : Nat, i ≤ m ∧ x = .int .i64 (i : Int) ∧ (l.take i).all (rightN lv1) = true ∧ Below (W.alloc (.cells #[.int .i64 k, .int .i64 g, .slice B m d] 35)).heap.size (W.alloc (.cells #[.int .i64 k, .int .i64 g, .slice B m d] 35)) wr) (fun x _ => m - (intOf x).toNat)
    case atStart => exact ⟨0, Nat.zero_le _, rfl, by rw [List.take_zero]; rfl, Below.refl _ _⟩
    case round =>
      obtain ⟨i, hi, rfl, hm, hbel⟩ := hrel
      obtain ⟨w3, hw3⟩ : ∃ w3, w3 = wr := ⟨wr, rfl⟩
      subst hw3
      obtain ⟨_, t0, t1, t2⟩ := F.out.keep hbel
      have Hm := hide hm
      have B3 := hide hbel
      have B4 := hide (bgo BB.out hbel)
      clear hm hbel
      by_cases hlt : i < m
      · have hlt' : (i : Int) < (m : Int) := by omega
        obtain ⟨gb, o, c0, c1, c2, rfl, hx, x0, x1, x2⟩ := (Hvs.out.below B4.out).at_ hlt
        have hil : i < l.length := by rw [Hlen.out]; exact hlt
        have hxl := List.getElem?_eq_getElem hil
        have rx := Hr.out i _ _ hx hxl
        obtain ⟨x, hxe⟩ : ∃ x, l[i] = x := ⟨_, rfl⟩
        rw [hxe] at hxl rx
        have hmem : x ∈ l := List.mem_of_getElem? hxl
        cases hs : rightN lv1 x with
        | true =>
          have Hn := hide (show (l.take (i + 1)).all (rightN lv1) = true by rw [takeN hxl, List.all_append, Hm.out]; simp [hs])
          have HC := hide (Hih.out x hmem w3 _ (rx.kept B4.out) true hs)
          clear hs hxe hx hxl rx hmem
          go_wp2_with fail
          with_reducible refine HC.out.mono ?_
          rintro e w4 ⟨rfl, hb4⟩
          have B6 := hide (B3.out.trans (hb4.mono B3.out.size))
          clear hb4
          go_wp2
          go_roundw
          case rel => exact ⟨i + 1, by omega, by go_num, Hn.out, B6.out⟩
          case measure => simp [intOf]; omega
        | false =>
          have Hn := hide (show false = q by
            rw [← Hq.out, show l.all (rightN lv1) = false from List.all_eq_false.2 ⟨x, hmem, by rw [hs]; simp⟩]; rfl)
          have HC := hide (Hih.out x hmem w3 _ (rx.kept B4.out) false hs)
          clear hs hxe hx hxl rx hmem
          go_wp2_with fail
          with_reducible refine HC.out.mono ?_
          rintro e w4 ⟨rfl, hb4⟩
          have B6 := hide (bgo B4.out hb4)
          clear hb4
          go_wp2
          go_ret
          exact ⟨ret_bool Hn.out, B6.out⟩
      · have hlt' : ¬ (i : Int) < (m : Int) := by omega
        have hall := Hm.out
        rw [takeA l (by rw [Hlen.out]; omega)] at hall
        have Hn := hide (show decide ((2 : Int) ≤ (m : Int)) = q by
          rw [← Hq.out, hall, Bool.true_and]
          exact decide_eq_decide.2 (by omega))
        clear hall
        go_wp2
        go_ret
        exact ⟨ret_bool Hn.out, B4.out⟩

set_option maxRecDepth 100000 in
set_option maxHeartbeats 6400000 in
theorem rRight {W : World} {ok : Nat → Prop} {v : Value} {r : Nd} (hv : NdV W ok v r) (q : Bool) (hq : rightN 1 r = q) : Calls Try.prog 15 #[v] W fun e w' => e = .returned (.bool q) ∧ Below W.heap.size W w' := by
  obtain ⟨k, g, B, m, d, rfl, -⟩ := ndv_shape hv
  have hB := bnew (Below.refl _ W) (.cells #[.int .i64 k, .int .i64 g, .slice B m d] 35)
  have BB := hide hB
  obtain ⟨_, t0, t1, t2⟩ := tri3_new W (.int .i64 k) (.int .i64 g) (.slice B m d) 35
  have hc := rright r _ ok _ 1 (hv.kept hB) (by omega) q hq
  rw [show ((1 : Nat) : Int) = 1 from rfl] at hc
  have HC := hide hc
  clear hv hB hc
  go_enter Try.func15, Try.ntmps15
  go_wp2_with fail
  with_reducible refine HC.out.mono ?_
  rintro e w4 ⟨rfl, hb4⟩
  have B6 := hide (bgo BB.out hb4)
  clear hb4
  go_wp2
  go_ret
  exact ⟨rfl, B6.out⟩

set_option maxRecDepth 100000 in
set_option maxHeartbeats 6400000 in
theorem rholds (cs : List Int) (hcs : cs.length ≤ 1000000000) : ∀ (r : Nd) (W : World) (ok : Nat → Prop) (v : Value) (A : Option Addr) (n c : Nat), NdV W ok v r → Sl W A n c (numCells cs) → ∀ q : Bool, holdsN cs r = q →
    Calls Try.prog 36 #[v, .slice A n c] W fun e w' => e = .returned (.bool q) ∧ Below W.heap.size W w' := by
  intro r
  induction r using Nd.ind with
  | h k g l ih =>
    intro W ok v A n c hv hsl q hq
    cases hv with
    | mk _ _ B m d vs _ hvs hlen hk hg hr =>
    have hmd := hvs.1
    have hdd := hvs.2.1
    have Hvs := hide hvs
    have Hlen := hide hlen
    have Hr := hide hr
    have hB := bnew (Below.refl _ W) (.cells #[.int .i64 k, .int .i64 g, .slice B m d] 35)
    have BB := hide hB
    have F := hide (tri3_new W (.int .i64 k) (.int .i64 g) (.slice B m d) 35)
    have hnc := hsl.1
    have hcc := hsl.2.1
    have hnl := hsl.nlen
    have Hnl := hide hnl
    have hn9 : n ≤ 1000000000 := by omega
    have SL := hide (hsl.below hB)
    rw [holds_mk] at hq
    clear hvs hr hB hsl hnl
    obtain ⟨_, t0, t1, t2⟩ := F.out
    by_cases h3 : k = 3
    · have h3' := int_beq h3
      rw [if_pos h3] at hq
      have Hq := hide hq
      clear hq h3
      go_enter Try.func36, Try.ntmps36
      go_wp2
      clear t0 t1 t2
      go_loopw [5] (fun x wr => ∃ i : Nat, i ≤ n ∧ x = .int .i64 (i : Int) ∧ g ∉ cs.take i ∧ Below (W.alloc (.cells #[.int .i64 k, .int .i64 g, .slice B m d] 35)).heap.size (W.alloc (.cells #[.int .i64 k, .int .i64 g, .slice B m d] 35)) wr) (fun x _ => n - (intOf x).toNat)
      case atStart => exact ⟨0, Nat.zero_le _, rfl, by simp, Below.refl _ _⟩
      case round =>
        obtain ⟨i, hi, rfl, hm, hbel⟩ := hrel
        obtain ⟨w3, hw3⟩ : ∃ w3, w3 = wr := ⟨wr, rfl⟩
        subst hw3
        obtain ⟨_, t0, t1, t2⟩ := F.out.keep hbel
        have Hm := hide hm
        have B3 := hide hbel
        have B4 := hide (bgo BB.out hbel)
        have SL3 := hide (SL.out.below hbel)
        have hib : (i : Int) ≤ 1000000000 := by omega
        clear hm hbel
        by_cases hlt : i < n
        · have hlt' : (i : Int) < (n : Int) := by omega
          obtain ⟨ad, z, rfl, hz, hcz⟩ := num_cell SL3.out.reads hlt
          by_cases he : z = g
          · have he' := int_beq he
            have Hn := hide (show true = q by
              rw [← Hq.out]
              symm
              rw [decide_eq_true_eq, ← he]
              exact List.mem_of_getElem? hz)
            clear hz he
            go_wp2_with fail
            go_quiet (fail)
            go_wp2
            go_ret
            exact ⟨ret_bool Hn.out, bdr B4.out _⟩
          · have he' := int_nbeq he
            have Hn := hide (show g ∉ cs.take (i + 1) by
              rw [takeN hz, List.mem_append, List.mem_singleton]
              exact fun h => h.elim Hm.out fun e => he e.symm)
            clear hz he
            go_wp2_with fail
            go_quiet (fail)
            go_wp2
            go_roundw
            case rel => exact ⟨i + 1, by omega, by go_num, Hn.out, B3.out.trans ((Drawn.below ⟨_, rfl⟩ _).mono B3.out.size)⟩
            case measure => simp [intOf]; omega
        · have hlt' : ¬ (i : Int) < (n : Int) := by omega
          have hall := Hm.out
          rw [takeA cs (by rw [Hnl.out]; omega)] at hall
          have Hn := hide (show false = q by rw [← Hq.out, decide_eq_false hall])
          clear hall
          go_wp2
          go_ret
          exact ⟨ret_bool Hn.out, B4.out⟩
    · have h3' := int_nbeq h3
      rw [if_neg h3] at hq
      obtain ⟨q5, hq5⟩ : ∃ q5, decide (k = 5) = q5 := ⟨_, rfl⟩
      have hk5 : (k == 5) = q5 := by rw [← hq5, Bool.eq_iff_iff, beq_iff_eq, decide_eq_true_eq]
      have Hone := hide (show ∀ x ∈ l, holdsN cs x = q5 → q = q5 from fun x hx he => by
        by_cases h5 : k = 5
        · rw [if_pos h5, anyN_eq] at hq
          rw [decide_eq_true h5] at hq5
          subst hq5
          rw [← hq, List.any_eq_true]
          exact ⟨x, hx, he⟩
        · rw [if_neg h5, allN_eq] at hq
          rw [decide_eq_false h5] at hq5
          subst hq5
          rw [← hq, show l.all (holdsN cs) = false from List.all_eq_false.2 ⟨x, hx, by rw [he]; simp⟩]
          rfl)
      have Hall := hide (show (∀ x ∈ l, holdsN cs x = !q5) → (decide (k = 1) || decide (k = 4)) = q from fun h => by
        by_cases h5 : k = 5
        · rw [if_pos h5, anyN_eq] at hq
          rw [decide_eq_true h5] at hq5
          subst hq5
          rw [← hq, decide_eq_false (show ¬ k = 1 by omega), decide_eq_false (show ¬ k = 4 by omega)]
          symm
          rw [List.any_eq_false.2 fun x hx => by rw [h x hx]; simp]
          rfl
        · rw [if_neg h5, allN_eq] at hq
          rw [decide_eq_false h5] at hq5
          subst hq5
          rw [← hq, show l.all (holdsN cs) = true from List.all_eq_true.2 fun x hx => by rw [h x hx]; rfl, Bool.true_and])
      have Hih := hide ih
      clear hq h3 hq5 ih
      go_enter Try.func36, Try.ntmps36
      go_wp2
      clear t0 t1 t2
      go_loopw [6] (fun x wr => ∃ i : Nat, i ≤ m ∧ x = .int .i64 (i : Int) ∧ (∀ x ∈ l.take i, holdsN cs x = !q5) ∧ Below (W.alloc (.cells #[.int .i64 k, .int .i64 g, .slice B m d] 35)).heap.size (W.alloc (.cells #[.int .i64 k, .int .i64 g, .slice B m d] 35)) wr) (fun x _ => m - (intOf x).toNat)
      case atStart => exact ⟨0, Nat.zero_le _, rfl, by simp, Below.refl _ _⟩
      case round =>
        obtain ⟨i, hi, rfl, hm, hbel⟩ := hrel
        obtain ⟨w3, hw3⟩ : ∃ w3, w3 = wr := ⟨wr, rfl⟩
        subst hw3
        have F3 := hide (F.out.keep hbel)
        obtain ⟨_, t0, t1, t2⟩ := F3.out
        have Hm := hide hm
        have B3 := hide hbel
        have B4 := hide (bgo BB.out hbel)
        have SL3 := hide (SL.out.below hbel)
        clear hm hbel
        by_cases hlt : i < m
        · have hlt' : (i : Int) < (m : Int) := by omega
          obtain ⟨gb, o, c0, c1, c2, rfl, hx, x0, x1, x2⟩ := (Hvs.out.below B4.out).at_ hlt
          have hil : i < l.length := by rw [Hlen.out]; exact hlt
          have hxl := List.getElem?_eq_getElem hil
          have rx := Hr.out i _ _ hx hxl
          obtain ⟨x, hxe⟩ : ∃ x, l[i] = x := ⟨_, rfl⟩
          rw [hxe] at hxl rx
          have hmem : x ∈ l := List.mem_of_getElem? hxl
          obtain ⟨qx, hqx⟩ : ∃ qx, holdsN cs x = qx := ⟨_, rfl⟩
          have HC := hide (fun (X : World) (hb : Below w3.heap.size w3 X) => Hih.out x hmem X ok _ A n c ((rx.kept B4.out).kept hb) (SL3.out.below hb) qx hqx)
          by_cases he : qx = q5
          · have he' : (qx == q5) = true := beq_iff_eq.2 he
            have Hn := hide (show q5 = q from (Hone.out x hmem (hqx.trans he)).symm)
            clear hqx hxe hx hxl rx hmem he
            go_wp2_with fail
            clear t0 t1 t2
            obtain ⟨x9, hx9⟩ : ∃ x9, x9 = w3 := ⟨_, rfl⟩
            subst hx9
            have HK := hide (show ∀ X : World, Below x9.heap.size x9 X → (X.cell? ⟨W.heap.size, 0, none⟩ = some (.int .i64 k) ∧ X.cell? ⟨W.heap.size, 2, none⟩ = some (.slice (some ⟨gb, o, none⟩) m d) ∧ X.cell? ⟨gb, o + i * 3, none⟩ = some c0 ∧ X.cell? ⟨gb, o + i * 3 + 1, none⟩ = some c1 ∧ X.cell? ⟨gb, o + i * 3 + 2, none⟩ = some c2) ∧ Below x9.heap.size x9 X from fun X hb => by
              obtain ⟨-, s0, s1, s2⟩ := F3.out.keep hb
              exact ⟨⟨s0, s2, (hb.cell (World.block_lt_of_cell? _ _ x0)).trans x0, (hb.cell (World.block_lt_of_cell? _ _ x1)).trans x1, (hb.cell (World.block_lt_of_cell? _ _ x2)).trans x2⟩, hb⟩)
            have HS0 := hide (bel_drew x9)
            have HKs := hide (show ∀ X Y : World, (X.cell? ⟨W.heap.size, 0, none⟩ = some (.int .i64 k) ∧ X.cell? ⟨W.heap.size, 2, none⟩ = some (.slice (some ⟨gb, o, none⟩) m d) ∧ X.cell? ⟨gb, o + i * 3, none⟩ = some c0 ∧ X.cell? ⟨gb, o + i * 3 + 1, none⟩ = some c1 ∧ X.cell? ⟨gb, o + i * 3 + 2, none⟩ = some c2) ∧ Below x9.heap.size x9 X → Below X.heap.size X Y → (Y.cell? ⟨W.heap.size, 0, none⟩ = some (.int .i64 k) ∧ Y.cell? ⟨W.heap.size, 2, none⟩ = some (.slice (some ⟨gb, o, none⟩) m d) ∧ Y.cell? ⟨gb, o + i * 3, none⟩ = some c0 ∧ Y.cell? ⟨gb, o + i * 3 + 1, none⟩ = some c1 ∧ Y.cell? ⟨gb, o + i * 3 + 2, none⟩ = some c2) ∧ Below x9.heap.size x9 Y from fun X Y h hb => HK.out Y (bgo h.2 hb))
            have HKb := hide (show ∀ X : World, (X.cell? ⟨W.heap.size, 0, none⟩ = some (.int .i64 k) ∧ X.cell? ⟨W.heap.size, 2, none⟩ = some (.slice (some ⟨gb, o, none⟩) m d) ∧ X.cell? ⟨gb, o + i * 3, none⟩ = some c0 ∧ X.cell? ⟨gb, o + i * 3 + 1, none⟩ = some c1 ∧ X.cell? ⟨gb, o + i * 3 + 2, none⟩ = some c2) ∧ Below x9.heap.size x9 X → Below x9.heap.size x9 X from fun X h => h.2)
            go_region_held3 (fun w' => (w'.cell? ⟨W.heap.size, 0, none⟩ = some (.int .i64 k) ∧ w'.cell? ⟨W.heap.size, 2, none⟩ = some (.slice (some ⟨gb, o, none⟩) m d) ∧ w'.cell? ⟨gb, o + i * 3, none⟩ = some c0 ∧ w'.cell? ⟨gb, o + i * 3 + 1, none⟩ = some c1 ∧ w'.cell? ⟨gb, o + i * 3 + 2, none⟩ = some c2) ∧ Below x9.heap.size x9 w')
              (first | exact HK.out _ HS0.out | exact HKs.out _ _ (by assumption) hb4)
              (first | (go_at_call 36; (with_reducible refine (HC.out _ (HKb.out _ ?_)).mono ?_); assumption; rintro e w4 ⟨rfl, hb4⟩))
            have hX := HKb.out _ (by assumption)
            clear HK HS0 HKs HKb HC x0 x1 x2
            have B6 := hide (bgo B4.out hX)
            have F6 := hide (F3.out.keep hX)
            obtain ⟨_, t0, t1, t2⟩ := F6.out
            clear hX hb4
            go_wp2
            go_ret
            exact ⟨ret_bool Hn.out, B6.out⟩
          · have he' : (qx == q5) = false := beq_eq_false_iff_ne.2 he
            have Hn := hide (show ∀ x ∈ l.take (i + 1), holdsN cs x = !q5 by
              intro y hy
              rw [takeN hxl, List.mem_append, List.mem_singleton] at hy
              rcases hy with hy | rfl
              · exact Hm.out y hy
              · rw [hqx]; cases qx <;> cases q5 <;> simp_all)
            clear hqx hxe hx hxl rx hmem he
            go_wp2_with fail
            clear t0 t1 t2
            obtain ⟨x9, hx9⟩ : ∃ x9, x9 = w3 := ⟨_, rfl⟩
            subst hx9
            have HK := hide (show ∀ X : World, Below x9.heap.size x9 X → (X.cell? ⟨W.heap.size, 0, none⟩ = some (.int .i64 k) ∧ X.cell? ⟨W.heap.size, 2, none⟩ = some (.slice (some ⟨gb, o, none⟩) m d) ∧ X.cell? ⟨gb, o + i * 3, none⟩ = some c0 ∧ X.cell? ⟨gb, o + i * 3 + 1, none⟩ = some c1 ∧ X.cell? ⟨gb, o + i * 3 + 2, none⟩ = some c2) ∧ Below x9.heap.size x9 X from fun X hb => by
              obtain ⟨-, s0, s1, s2⟩ := F3.out.keep hb
              exact ⟨⟨s0, s2, (hb.cell (World.block_lt_of_cell? _ _ x0)).trans x0, (hb.cell (World.block_lt_of_cell? _ _ x1)).trans x1, (hb.cell (World.block_lt_of_cell? _ _ x2)).trans x2⟩, hb⟩)
            have HS0 := hide (bel_drew x9)
            have HKs := hide (show ∀ X Y : World, (X.cell? ⟨W.heap.size, 0, none⟩ = some (.int .i64 k) ∧ X.cell? ⟨W.heap.size, 2, none⟩ = some (.slice (some ⟨gb, o, none⟩) m d) ∧ X.cell? ⟨gb, o + i * 3, none⟩ = some c0 ∧ X.cell? ⟨gb, o + i * 3 + 1, none⟩ = some c1 ∧ X.cell? ⟨gb, o + i * 3 + 2, none⟩ = some c2) ∧ Below x9.heap.size x9 X → Below X.heap.size X Y → (Y.cell? ⟨W.heap.size, 0, none⟩ = some (.int .i64 k) ∧ Y.cell? ⟨W.heap.size, 2, none⟩ = some (.slice (some ⟨gb, o, none⟩) m d) ∧ Y.cell? ⟨gb, o + i * 3, none⟩ = some c0 ∧ Y.cell? ⟨gb, o + i * 3 + 1, none⟩ = some c1 ∧ Y.cell? ⟨gb, o + i * 3 + 2, none⟩ = some c2) ∧ Below x9.heap.size x9 Y from fun X Y h hb => HK.out Y (bgo h.2 hb))
            have HKb := hide (show ∀ X : World, (X.cell? ⟨W.heap.size, 0, none⟩ = some (.int .i64 k) ∧ X.cell? ⟨W.heap.size, 2, none⟩ = some (.slice (some ⟨gb, o, none⟩) m d) ∧ X.cell? ⟨gb, o + i * 3, none⟩ = some c0 ∧ X.cell? ⟨gb, o + i * 3 + 1, none⟩ = some c1 ∧ X.cell? ⟨gb, o + i * 3 + 2, none⟩ = some c2) ∧ Below x9.heap.size x9 X → Below x9.heap.size x9 X from fun X h => h.2)
            go_region_held3 (fun w' => (w'.cell? ⟨W.heap.size, 0, none⟩ = some (.int .i64 k) ∧ w'.cell? ⟨W.heap.size, 2, none⟩ = some (.slice (some ⟨gb, o, none⟩) m d) ∧ w'.cell? ⟨gb, o + i * 3, none⟩ = some c0 ∧ w'.cell? ⟨gb, o + i * 3 + 1, none⟩ = some c1 ∧ w'.cell? ⟨gb, o + i * 3 + 2, none⟩ = some c2) ∧ Below x9.heap.size x9 w')
              (first | exact HK.out _ HS0.out | exact HKs.out _ _ (by assumption) hb4)
              (first | (go_at_call 36; (with_reducible refine (HC.out _ (HKb.out _ ?_)).mono ?_); assumption; rintro e w4 ⟨rfl, hb4⟩))
            have hX := HKb.out _ (by assumption)
            clear HK HS0 HKs HKb HC x0 x1 x2
            have B6 := hide (B3.out.trans (hX.mono B3.out.size))
            clear hX hb4
            go_wp2
            go_roundw
            case rel => exact ⟨i + 1, by omega, by go_num, Hn.out, B6.out⟩
            case measure => simp [intOf]; omega
        · have hlt' : ¬ (i : Int) < (m : Int) := by omega
          have hall := Hm.out
          rw [takeA l (by rw [Hlen.out]; omega)] at hall
          have hq := Hall.out hall
          clear hall
          by_cases h1 : k = 1
          · have h1' := int_beq h1
            have Hn := hide (show true = q by rw [← hq, decide_eq_true h1]; rfl)
            clear hq h1
            go_wp2
            go_ret
            exact ⟨ret_bool Hn.out, B4.out⟩
          · have h1' := int_nbeq h1
            have Hn := hide (show (k == 4) = q by
              rw [← hq, decide_eq_false h1, Bool.false_or, Bool.eq_iff_iff, beq_iff_eq, decide_eq_true_eq])
            clear hq h1
            go_wp2
            go_ret
            exact ⟨ret_bool Hn.out, B4.out⟩

set_option maxRecDepth 100000 in
set_option maxHeartbeats 6400000 in
theorem rEval {W : World} {ok : Nat → Prop} {v : Value} {r : Nd} {A : Option Addr} {n c : Nat} {cs : List Int} (hv : NdV W ok v r) (hcs : cs.length ≤ 1000000000) (hsl : Sl W A n c (numCells cs)) (q : Bool) (hq : evalS r cs = q) :
    Calls Try.prog 17 #[v, .slice A n c] W fun e w' => e = .returned (.bool q) ∧ Below W.heap.size W w' := by
  obtain ⟨k, g, B, m, d, rfl, -⟩ := ndv_shape hv
  have hB := bnew (Below.refl _ W) (.cells #[.int .i64 k, .int .i64 g, .slice B m d] 35)
  have BB := hide hB
  have F := hide (tri3_new W (.int .i64 k) (.int .i64 g) (.slice B m d) 35)
  obtain ⟨_, t0, t1, t2⟩ := F.out
  obtain ⟨q1, hq1⟩ : ∃ q1, rightN 1 r = q1 := ⟨_, rfl⟩
  unfold evalS at hq
  rw [hq1] at hq
  have HC := hide (rRight (hv.kept hB) q1 hq1)
  have HD := hide (fun (X : World) (hb : Below (W.alloc (.cells #[.int .i64 k, .int .i64 g, .slice B m d] 35)).heap.size (W.alloc (.cells #[.int .i64 k, .int .i64 g, .slice B m d] 35)) X) => rholds cs hcs r X ok _ A n c ((hv.kept hB).kept hb) ((hsl.below hB).below hb) _ rfl)
  have Hq := hide hq
  clear hv hB hsl hq hq1
  go_enter Try.func17, Try.ntmps17
  go_wp2_with fail
  with_reducible refine HC.out.mono ?_
  rintro e w4 ⟨rfl, hb4⟩
  have B6 := hide (bgo BB.out hb4)
  have HD4 := hide (HD.out w4 hb4)
  obtain ⟨_, s0, s1, s2⟩ := F.out.keep hb4
  clear hb4 HD t0 t1 t2
  cases q1 with
  | false =>
    have Hn := hide (show false = q by rw [← Hq.out]; rfl)
    go_wp2
    go_ret
    exact ⟨ret_bool Hn.out, B6.out⟩
  | true =>
    have Hn := hide (show holdsN cs r = q by rw [← Hq.out]; rfl)
    go_wp2_with fail
    with_reducible refine HD4.out.mono ?_
    rintro e w5 ⟨rfl, hb5⟩
    have B7 := hide (bgo B6.out hb5)
    clear hb5
    go_wp2
    go_ret
    exact ⟨ret_bool Hn.out, B7.out⟩
end Go.Proofs.Ytlnbjdlooghpeaa
