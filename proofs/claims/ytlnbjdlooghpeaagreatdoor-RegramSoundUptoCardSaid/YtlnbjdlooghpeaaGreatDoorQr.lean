/- Layer 10: the examples walked. -/
import Derived.Test.YtlnbjdlooghpeaaGreatDoorQq
import Derived.Deep.RegionHeld3
namespace Go.Proofs.YtlnbjdlooghpeaaGreatDoor
open Go.RowKit

/-- A new box of a condition, untouched. -/
def Zb (w : World) (b : Nat) : Prop := w.heap[b]? = some (.cells #[.int .i64 0, .int .i64 0, .slice none 0 0] 32 (0, 0))
theorem Zb.lt {w : World} {b : Nat} (h : Zb w b) : b < w.heap.size := lt_of_block h
theorem zb_new (w : World) : Zb (w.alloc (.cells #[.int .i64 0, .int .i64 0, .slice none 0 0] 32)) w.heap.size := heap_alloc_new w _
theorem Zb.keep {w w' : World} {b : Nat} (h : Zb w b) (hb : Below w.heap.size w w') : Zb w' b := (hb.block b h.lt).trans h
theorem Zb.under {w w' : World} {b : Nat} {o : Obj} (h : Zb w b) (hb : Below (w.alloc o).heap.size (w.alloc o) w') : Zb w' b := (h.keep (bel_alloc w o)).keep hb
theorem zb_over {w w' : World} (hb : Below (w.alloc (.cells #[.int .i64 0, .int .i64 0, .slice none 0 0] 32)).heap.size (w.alloc (.cells #[.int .i64 0, .int .i64 0, .slice none 0 0] 32)) w') : Zb w' w.heap.size := (zb_new w).keep hb
theorem zb_drew {w w' : World} (hb : Below (w.drew.alloc (.cells #[.int .i64 0, .int .i64 0, .slice none 0 0] 32)).heap.size (w.drew.alloc (.cells #[.int .i64 0, .int .i64 0, .slice none 0 0] 32)) w') : Zb w' w.heap.size := (zb_new w.drew).keep hb
theorem zb_under {w w' : World} {o : Obj} (hb : Below ((w.alloc (.cells #[.int .i64 0, .int .i64 0, .slice none 0 0] 32)).alloc o).heap.size ((w.alloc (.cells #[.int .i64 0, .int .i64 0, .slice none 0 0] 32)).alloc o) w') : Zb w' w.heap.size := (zb_new w).under hb
theorem Zb.tri {w : World} {b : Nat} (h : Zb w b) : TriF w b (.int .i64 0) (.int .i64 0) (.slice none 0 0) := by
  have h' : w.heap[b]? = _ := h
  refine ⟨⟨h.lt, ?_, ?_, ?_⟩, ?_, ?_, ?_⟩ <;> simp [World.cell?, World.frozen?, h']
theorem Zb.no3 {w : World} {b j : Nat} (h : Zb w b) : w.cell? ⟨b, j, none⟩ ≠ some (.int .i64 3) := by
  have h' : w.heap[b]? = _ := h
  intro hc
  match j with
  | 0 => simp [World.cell?, h'] at hc
  | 1 => simp [World.cell?, h'] at hc
  | 2 => simp [World.cell?, h'] at hc
  | n + 3 => simp [World.cell?, h'] at hc
theorem leaf_any {W : World} {ok ok' : Nat → Prop} {v : Value} {k g : Int} (h : NdV W ok v (.mk k g [])) : NdV W ok' v (.mk k g []) ∧ ∃ c1 c2, v = .agg #[.int .i64 k, c1, c2] := by
  cases h with
  | mk _ _ B m d vs l hvs hlen hk hg hr =>
    obtain rfl : m = 0 := hlen.symm
    obtain rfl : vs = [] := List.eq_nil_of_length_eq_zero hvs.2.2.1
    exact ⟨.mk k g B 0 d [] [] ⟨hvs.1, hvs.2.1, rfl, fun i u hu => by simp at hu⟩ rfl hk hg (fun i u x hu => by simp at hu), _, _, rfl⟩
/-- Leaves of kind 3 don't lie in an untouched box. -/
theorem five_off {w : World} {b : Nat} {v : Value} (h : NdV w anyB v fiveN) (hz : Zb w b) : NdV w (fun g => g ≠ b) v fiveN := by
  have h' : NdV w anyB v (.mk 4 0 [gramN 5, gramN 6]) := h
  cases h' with
  | mk _ _ B m d vs l hvs hlen hk hg hr =>
    have leaf : ∀ (i : Nat) (u : Value) (x : Nd), vs[i]? = some u → [gramN 5, gramN 6][i]? = some x → NdV w (fun g => g ≠ b) u x ∧ ∃ c1 c2, u = .agg #[.int .i64 3, c1, c2] := fun i u x hu hx => by
      have h0 := hr i u x hu hx
      match i, hx with
      | 0, hx => simp at hx; subst hx; exact leaf_any h0
      | 1, hx => simp at hx; subst hx; exact leaf_any h0
    refine .mk 4 0 B m d vs _ ⟨hvs.1, hvs.2.1, hvs.2.2.1, fun i u hu => ?_⟩ hlen hk hg fun i u x hu hx => (leaf i u x hu hx).1
    obtain ⟨g, o, c0, c1, c2, hB, -, e, h0, h1, h2⟩ := hvs.2.2.2 i u hu
    have hi : i < [gramN 5, gramN 6].length := by rw [hlen, ← hvs.2.2.1]; exact (List.getElem?_eq_some_iff.1 hu).1
    obtain ⟨-, d1, d2, e'⟩ := leaf i u _ hu (List.getElem?_eq_getElem hi)
    rw [e] at e'
    injection e' with e'
    injection e' with e'
    simp only [List.cons.injEq, and_true] at e'
    obtain ⟨rfl, -, -⟩ := e'
    exact ⟨g, o, _, c1, c2, hB, fun hg => by subst hg; exact hz.no3 h0, e, h0, h1, h2⟩
theorem nx_put {w : World} {b : Nat} {k g : Int} {B : Option Addr} {m d : Nat} (hz : Zb w b) (h : NdV w anyB (.agg #[.int .i64 k, .int .i64 g, .slice B m d]) fiveN) :
    Nx (((w.setCell ⟨b, 0, none⟩ (.int .i64 k)).setCell ⟨b, 1, none⟩ (.int .i64 g)).setCell ⟨b, 2, none⟩ (.slice B m d)) b k g B m d fiveN :=
  ⟨put3_tri hz.tri _ _ _, put3_ndv (five_off h hz) (fun h => h rfl) fun _ _ => trivial⟩

set_option maxRecDepth 100000 in
set_option maxHeartbeats 6400000 in
theorem alive10 (C : Cs) : AliveC := by
  intro w
  have H97 := hide (one10' 97 97 rfl)
  have H98 := hide (one10' 98 98 rfl)
  have H99 := hide (one10' 99 99 rfl)
  have H102 := hide (one10' 102 102 rfl)
  have H111 := hide (one10' 111 111 rfl)
  have H114 := hide (one10' 114 114 rfl)
  have HC := hide C
  have L1 := hide (fun (W : World) (v : Value) (h : RxV W anyB v abcR) => (C.lit h (by decide) (by decide)).mono (R' := fun e w' => ∃ A c, e = .returned (.tuple #[.slice A 2 c, .bool true]) ∧ Sl w' A 2 c (strCells [[97, 98, 99], [97, 99]]) ∧ Below W.heap.size W w') fun e w' h => by rw [ex1] at h; exact gotL_ex h rfl rfl)
  have L2 := hide (fun (W : World) (v : Value) (h : RxV W anyB v moreR) => (C.lit h (by decide) (by decide)).mono (R' := fun e w' => ∃ A c, e = .returned (.tuple #[.slice A 0 c, .bool false]) ∧ Below W.heap.size W w') fun e w' h => by rw [ex2] at h; obtain ⟨A, c, h1, -, h3⟩ := gotL_ex h rfl rfl; exact ⟨A, c, h1, h3⟩)
  have O1 := hide (fun (W : World) (v : Value) (h : RxV W anyB v fmbR) => (C.of_ h (by decide) (by decide)).mono (R' := fun e w' => ∃ (k g : Int) (B : Option Addr) (m d : Nat), e = .returned (.agg #[.int .i64 k, .int .i64 g, .slice B m d]) ∧ NdV w' anyB (.agg #[.int .i64 k, .int .i64 g, .slice B m d]) andE ∧ Below W.heap.size W w') fun e w' h => by rw [ex3] at h; obtain ⟨k, g, B, m, d, h1, h2, -, h3⟩ := gotA_ex h; exact ⟨k, g, B, m, d, h1, h2, h3⟩)
  have O2 := hide (fun (W : World) (v : Value) (h : RxV W anyB v moreR) => (C.of_ h (by decide) (by decide)).mono (R' := fun e w' => ∃ (g : Int) (B : Option Addr) (m d : Nat), e = .returned (.agg #[.int .i64 1, .int .i64 g, .slice B m d]) ∧ Below W.heap.size W w') fun e w' h => by rw [ex4] at h; obtain ⟨k, g, B, m, d, h1, -, rfl, h3⟩ := gotA_ex h; exact ⟨g, B, m, d, h1, h3⟩)
  have M1 := hide (fun (W : World) (v : Value) (h : NdV W anyB v sixN) => (C.simp h (by decide)).mono (R' := fun e w' => ∃ (k g : Int) (B : Option Addr) (m d : Nat), e = .returned (.agg #[.int .i64 k, .int .i64 g, .slice B m d]) ∧ NdV w' anyB (.agg #[.int .i64 k, .int .i64 g, .slice B m d]) fiveN ∧ Below W.heap.size W w') fun e w' h => by rw [ex8] at h; obtain ⟨k, g, B, m, d, h1, h2, -, h3⟩ := gotA_ex h; exact ⟨k, g, B, m, d, h1, h2, h3⟩)
  have B := hide (Below.refl w.heap.size w)
  clear C
  go_enter Tryz.func6, Tryz.ntmps6
  go_wp2_with fail
  with_reducible refine (H98.out _).mono ?_
  rintro e w1 ⟨q0, q1, q2, qA, qB, qn, qc, qm, qd, rfl, hr, hb⟩
  replace B := hide (bgo B.out hb)
  obtain ⟨hx, hbx⟩ := rep_box hr 0 1 (by omega) (by omega)
  go_upto_region 2 with fail
  obtain ⟨x1, hx1⟩ : ∃ x1, (w1.alloc (.cells #[.int .i64 q0, .slice qA qn qc, .int .i64 q1, .int .i64 q2, .slice qB qm qd] 25)).alloc (.cells #[.int .i64 4, .slice none 0 0, .int .i64 0, .int .i64 1, .slice (some ⟨w1.heap.size, 0, none⟩) 1 1] 25) = x1 := ⟨_, rfl⟩
  obtain ⟨p1, hp1⟩ : ∃ p1, w1.heap.size + 1 = p1 := ⟨_, rfl⟩
  obtain ⟨g1, hg1⟩ : ∃ g1, w1.heap.size = g1 := ⟨_, rfl⟩
  rw [hx1] at hx hbx ⊢
  rw [hp1] at hx ⊢
  rw [hg1] at hx ⊢
  replace B := hide (bgo B.out hbx)
  have P1 := hide hx
  clear hx hbx hx1 hp1 hg1
  clear hr hb
  obtain ⟨x, hx⟩ : ∃ x, x = x1 := ⟨_, rfl⟩
  subst hx
  have HK := hide (show ∀ X : World, Below x.heap.size x X → (X.cell? ⟨p1, 0, none⟩ = some (.int .i64 4) ∧ X.cell? ⟨p1, 1, none⟩ = some (.slice none 0 0) ∧ X.cell? ⟨p1, 2, none⟩ = some (.int .i64 0) ∧ X.cell? ⟨p1, 3, none⟩ = some (.int .i64 1) ∧ X.cell? ⟨p1, 4, none⟩ = some (.slice (some ⟨g1, 0, none⟩) 1 1)) ∧ Below x.heap.size x X from fun X hb => by
    obtain ⟨-, t00, t01, t02, t03, t04⟩ := (P1.out.below hb).five
    exact ⟨⟨t00, t01, t02, t03, t04⟩, hb⟩)
  have HS0 := hide (bel_drew x)
  have hz0 := HS0.out.size
  have HKs := hide (show ∀ X Y : World, (X.cell? ⟨p1, 0, none⟩ = some (.int .i64 4) ∧ X.cell? ⟨p1, 1, none⟩ = some (.slice none 0 0) ∧ X.cell? ⟨p1, 2, none⟩ = some (.int .i64 0) ∧ X.cell? ⟨p1, 3, none⟩ = some (.int .i64 1) ∧ X.cell? ⟨p1, 4, none⟩ = some (.slice (some ⟨g1, 0, none⟩) 1 1)) ∧ Below x.heap.size x X → Below X.heap.size X Y → (Y.cell? ⟨p1, 0, none⟩ = some (.int .i64 4) ∧ Y.cell? ⟨p1, 1, none⟩ = some (.slice none 0 0) ∧ Y.cell? ⟨p1, 2, none⟩ = some (.int .i64 0) ∧ Y.cell? ⟨p1, 3, none⟩ = some (.int .i64 1) ∧ Y.cell? ⟨p1, 4, none⟩ = some (.slice (some ⟨g1, 0, none⟩) 1 1)) ∧ Below x.heap.size x Y from fun X Y h hb => HK.out Y (bgo h.2 hb))
  have HKset := hide (show ∀ (X : World) (pp : Nat) (a b c : Value), (X.cell? ⟨p1, 0, none⟩ = some (.int .i64 4) ∧ X.cell? ⟨p1, 1, none⟩ = some (.slice none 0 0) ∧ X.cell? ⟨p1, 2, none⟩ = some (.int .i64 0) ∧ X.cell? ⟨p1, 3, none⟩ = some (.int .i64 1) ∧ X.cell? ⟨p1, 4, none⟩ = some (.slice (some ⟨g1, 0, none⟩) 1 1)) ∧ Below x.heap.size x X → x.heap.size ≤ pp → ((((X.setCell ⟨pp, 0, none⟩ a).setCell ⟨pp, 1, none⟩ b).setCell ⟨pp, 2, none⟩ c).cell? ⟨p1, 0, none⟩ = some (.int .i64 4) ∧ (((X.setCell ⟨pp, 0, none⟩ a).setCell ⟨pp, 1, none⟩ b).setCell ⟨pp, 2, none⟩ c).cell? ⟨p1, 1, none⟩ = some (.slice none 0 0) ∧ (((X.setCell ⟨pp, 0, none⟩ a).setCell ⟨pp, 1, none⟩ b).setCell ⟨pp, 2, none⟩ c).cell? ⟨p1, 2, none⟩ = some (.int .i64 0) ∧ (((X.setCell ⟨pp, 0, none⟩ a).setCell ⟨pp, 1, none⟩ b).setCell ⟨pp, 2, none⟩ c).cell? ⟨p1, 3, none⟩ = some (.int .i64 1) ∧ (((X.setCell ⟨pp, 0, none⟩ a).setCell ⟨pp, 1, none⟩ b).setCell ⟨pp, 2, none⟩ c).cell? ⟨p1, 4, none⟩ = some (.slice (some ⟨g1, 0, none⟩) 1 1)) ∧ Below x.heap.size x (((X.setCell ⟨pp, 0, none⟩ a).setCell ⟨pp, 1, none⟩ b).setCell ⟨pp, 2, none⟩ c) from fun X pp a b c h hp => HK.out _ (put3_below h.2 hp))
  have HKal := hide (show ∀ (X : World) (o o2 : Obj), ((X.alloc o).cell? ⟨p1, 0, none⟩ = some (.int .i64 4) ∧ (X.alloc o).cell? ⟨p1, 1, none⟩ = some (.slice none 0 0) ∧ (X.alloc o).cell? ⟨p1, 2, none⟩ = some (.int .i64 0) ∧ (X.alloc o).cell? ⟨p1, 3, none⟩ = some (.int .i64 1) ∧ (X.alloc o).cell? ⟨p1, 4, none⟩ = some (.slice (some ⟨g1, 0, none⟩) 1 1)) ∧ Below x.heap.size x (X.alloc o) → x.heap.size ≤ X.heap.size → ((X.alloc o2).cell? ⟨p1, 0, none⟩ = some (.int .i64 4) ∧ (X.alloc o2).cell? ⟨p1, 1, none⟩ = some (.slice none 0 0) ∧ (X.alloc o2).cell? ⟨p1, 2, none⟩ = some (.int .i64 0) ∧ (X.alloc o2).cell? ⟨p1, 3, none⟩ = some (.int .i64 1) ∧ (X.alloc o2).cell? ⟨p1, 4, none⟩ = some (.slice (some ⟨g1, 0, none⟩) 1 1)) ∧ Below x.heap.size x (X.alloc o2) from fun X o o2 h hp => HK.out _ (below_realloc h.2 hp))
  have HKb := hide (show ∀ X : World, (X.cell? ⟨p1, 0, none⟩ = some (.int .i64 4) ∧ X.cell? ⟨p1, 1, none⟩ = some (.slice none 0 0) ∧ X.cell? ⟨p1, 2, none⟩ = some (.int .i64 0) ∧ X.cell? ⟨p1, 3, none⟩ = some (.int .i64 1) ∧ X.cell? ⟨p1, 4, none⟩ = some (.slice (some ⟨g1, 0, none⟩) 1 1)) ∧ Below x.heap.size x X → Below x.heap.size x X from fun X h => h.2)
  go_region_held3 (fun w' => (w'.cell? ⟨p1, 0, none⟩ = some (.int .i64 4) ∧ w'.cell? ⟨p1, 1, none⟩ = some (.slice none 0 0) ∧ w'.cell? ⟨p1, 2, none⟩ = some (.int .i64 0) ∧ w'.cell? ⟨p1, 3, none⟩ = some (.int .i64 1) ∧ w'.cell? ⟨p1, 4, none⟩ = some (.slice (some ⟨g1, 0, none⟩) 1 1)) ∧ Below x.heap.size x w')
    (first | exact HK.out _ HS0.out | exact HKs.out _ _ (by assumption) hb4 | exact HKs.out _ _ (by assumption) (bel_alloc _ _))
    (first
      | (go_at_call 22; (with_reducible refine (H97.out _).mono ?_); rintro e w6 ⟨l0, l1, l2, lA, lB, ln, lc, lm, ld, rfl, hrl, hb4⟩; have hrp := P1.out.rx.kept (bgo HS0.out hb4))
      | (go_at_call 22; (with_reducible refine (H99.out _).mono ?_); rintro e w7 ⟨m0, m1, m2, mA, mB, mn, mc, mm, md, rfl, hrm, hb4⟩; (first | have hrl := hrl.kept hb4 | have hrl := (hrl.kept (bel_alloc _ _)).kept hb4); (first | have hrp := hrp.kept hb4 | have hrp := (hrp.kept (bel_alloc _ _)).kept hb4))
      | (go_at_call 12; (with_reducible refine (L1.out _ _ ?_).mono ?_); exact (els3p hrl hrp hrm rfl).mk 2 0 0 (by omega) (by omega) (by omega); rintro e w9 ⟨AE, cE, rfl, hsE, hb4⟩))
  have hX := HKb.out _ (by assumption)
  have LS := hide hsE
  clear HK HS0 hz0 HKs HKset HKal HKb P1 L1 H99 hrl hrm hrp hb4 hsE
  replace B := hide (bgo B.out hX)
  clear hX
  go_wp2_with fail
  with_reducible refine (H97.out _).mono ?_
  rintro e w21 ⟨k0, k1, k2, kA, kB, kn, kc, km, kd, rfl, hr, hb⟩
  replace B := hide (bgo B.out hb)
  replace LS := hide (LS.out.below hb)
  obtain ⟨hx, hbx⟩ := rep_box hr 1 (-1) (by omega) (by omega)
  go_upto_region 4 with fail
  obtain ⟨x2, hx2⟩ : ∃ x2, (w21.alloc (.cells #[.int .i64 k0, .slice kA kn kc, .int .i64 k1, .int .i64 k2, .slice kB km kd] 25)).alloc (.cells #[.int .i64 4, .slice none 0 0, .int .i64 1, .int .i64 (-1), .slice (some ⟨w21.heap.size, 0, none⟩) 1 1] 25) = x2 := ⟨_, rfl⟩
  obtain ⟨p2, hp2⟩ : ∃ p2, w21.heap.size + 1 = p2 := ⟨_, rfl⟩
  obtain ⟨g2, hg2⟩ : ∃ g2, w21.heap.size = g2 := ⟨_, rfl⟩
  rw [hx2] at hx hbx ⊢
  rw [hp2] at hx ⊢
  rw [hg2] at hx ⊢
  replace B := hide (bgo B.out hbx)
  replace LS := hide (LS.out.below hbx)
  have P2 := hide hx
  clear hx hbx hx2 hp2 hg2
  clear hr hb
  obtain ⟨-, t0, t1, t2, t3, t4⟩ := P2.out.five
  go_wp2_with fail
  with_reducible refine (L2.out _ _ P2.out.rx).mono ?_
  rintro e w22 ⟨A2, c2, rfl, hb⟩
  replace B := hide (bgo B.out hb)
  replace LS := hide (LS.out.below hb)
  replace P2 := hide (P2.out.below hb)
  clear hb L2 t0 t1 t2 t3 t4
  have hbx := bel_alloc w22 (.cells #[.string ⟨#[97, 98, 99]⟩, .string ⟨#[97, 99]⟩] 9)
  have HE := hide (rStrings (LS.out.below hbx) (sl_str2 w22) true (by simp) (by simp))
  replace B := hide (bgo B.out hbx)
  replace P2 := hide (P2.out.below hbx)
  clear hbx LS
  go_wp2_with fail
  with_reducible refine (HE.out).mono ?_
  rintro e w23 ⟨rfl, hb⟩
  replace B := hide (bgo B.out hb)
  replace P2 := hide (P2.out.below hb)
  clear hb HE
  go_wp2_with fail
  with_reducible refine (H102.out _).mono ?_
  rintro e w24 ⟨a0, a1, a2, aA, aB, an, ac, am, ad, rfl, hr, hb⟩
  replace B := hide (bgo B.out hb)
  replace P2 := hide (P2.out.below hb)
  have Ra := hide hr
  clear hr hb
  go_wp2_with fail
  with_reducible refine (H111.out _).mono ?_
  rintro e w25 ⟨b0, b1, b2, bA, bB, bn, bc, bm, bd, rfl, hr, hb⟩
  replace B := hide (bgo B.out hb)
  replace P2 := hide (P2.out.below hb)
  replace Ra := hide (Ra.out.kept hb)
  have Rb := hide hr
  clear hr hb
  go_wp2_with fail
  with_reducible refine (H111.out _).mono ?_
  rintro e w26 ⟨c0, c1, c2, cA, cB, cn, cc, cm, cd, rfl, hr, hb⟩
  replace B := hide (bgo B.out hb)
  replace P2 := hide (P2.out.below hb)
  replace Ra := hide (Ra.out.kept hb)
  replace Rb := hide (Rb.out.kept hb)
  obtain ⟨hx, hbx⟩ := seq_box Ra.out Rb.out hr
  clear Ra Rb hr hb
  go_upto_region 8 with fail
  obtain ⟨x3, hx3⟩ : ∃ x3, (w26.alloc (.cells #[.int .i64 a0, .slice aA an ac, .int .i64 a1, .int .i64 a2, .slice aB am ad, .int .i64 b0, .slice bA bn bc, .int .i64 b1, .int .i64 b2, .slice bB bm bd, .int .i64 c0, .slice cA cn cc, .int .i64 c1, .int .i64 c2, .slice cB cm cd] 25)).alloc (.cells #[.int .i64 2, .slice none 0 0, .int .i64 0, .int .i64 0, .slice (some ⟨w26.heap.size, 0, none⟩) 3 3] 25) = x3 := ⟨_, rfl⟩
  obtain ⟨p3, hp3⟩ : ∃ p3, w26.heap.size + 1 = p3 := ⟨_, rfl⟩
  obtain ⟨g3, hg3⟩ : ∃ g3, w26.heap.size = g3 := ⟨_, rfl⟩
  rw [hx3] at hx hbx ⊢
  rw [hp3] at hx ⊢
  rw [hg3] at hx ⊢
  replace B := hide (bgo B.out hbx)
  replace P2 := hide (P2.out.below hbx)
  have P3 := hide hx
  clear hx hbx hx3 hp3 hg3
  go_wp2_with fail
  with_reducible refine (H98.out _).mono ?_
  rintro e w27 ⟨a0, a1, a2, aA, aB, an, ac, am, ad, rfl, hr, hb⟩
  replace B := hide (bgo B.out hb)
  replace P2 := hide (P2.out.below hb)
  replace P3 := hide (P3.out.below hb)
  have Ra := hide hr
  clear hr hb
  go_wp2_with fail
  with_reducible refine (H97.out _).mono ?_
  rintro e w28 ⟨b0, b1, b2, bA, bB, bn, bc, bm, bd, rfl, hr, hb⟩
  replace B := hide (bgo B.out hb)
  replace P2 := hide (P2.out.below hb)
  replace P3 := hide (P3.out.below hb)
  replace Ra := hide (Ra.out.kept hb)
  have Rb := hide hr
  clear hr hb
  go_wp2_with fail
  with_reducible refine (H114.out _).mono ?_
  rintro e w29 ⟨c0, c1, c2, cA, cB, cn, cc, cm, cd, rfl, hr, hb⟩
  replace B := hide (bgo B.out hb)
  replace P2 := hide (P2.out.below hb)
  replace P3 := hide (P3.out.below hb)
  replace Ra := hide (Ra.out.kept hb)
  replace Rb := hide (Rb.out.kept hb)
  obtain ⟨hx, hbx⟩ := seq_box Ra.out Rb.out hr
  clear Ra Rb hr hb
  go_upto_region 9 with fail
  obtain ⟨x4, hx4⟩ : ∃ x4, (w29.alloc (.cells #[.int .i64 a0, .slice aA an ac, .int .i64 a1, .int .i64 a2, .slice aB am ad, .int .i64 b0, .slice bA bn bc, .int .i64 b1, .int .i64 b2, .slice bB bm bd, .int .i64 c0, .slice cA cn cc, .int .i64 c1, .int .i64 c2, .slice cB cm cd] 25)).alloc (.cells #[.int .i64 2, .slice none 0 0, .int .i64 0, .int .i64 0, .slice (some ⟨w29.heap.size, 0, none⟩) 3 3] 25) = x4 := ⟨_, rfl⟩
  obtain ⟨p4, hp4⟩ : ∃ p4, w29.heap.size + 1 = p4 := ⟨_, rfl⟩
  obtain ⟨g4, hg4⟩ : ∃ g4, w29.heap.size = g4 := ⟨_, rfl⟩
  rw [hx4] at hx hbx ⊢
  rw [hp4] at hx ⊢
  rw [hg4] at hx ⊢
  replace B := hide (bgo B.out hbx)
  replace P2 := hide (P2.out.below hbx)
  replace P3 := hide (P3.out.below hbx)
  have P4 := hide hx
  clear hx hbx hx4 hp4 hg4
  clear H97 H98 H102 H111 H114
  obtain ⟨-, t0, t1, t2, t3, t4⟩ := P3.out.five
  obtain ⟨-, u0, u1, u2, u3, u4⟩ := P2.out.five
  obtain ⟨-, v0, v1, v2, v3, v4⟩ := P4.out.five
  have hE := (els3 x4 _ _ _ _ _ _ _ _ _ _ _ _ _ _ _ _ _ _ P3.out.rx P2.out.rx P4.out.rx).mk 2 0 0 (by omega) (by omega) (by omega)
  have hbx := bel_alloc x4 (.cells #[.int .i64 2, .slice none 0 0, .int .i64 0, .int .i64 0, .slice (some ⟨g3, 0, none⟩) 3 3, .int .i64 4, .slice none 0 0, .int .i64 1, .int .i64 (-1), .slice (some ⟨g2, 0, none⟩) 1 1, .int .i64 2, .slice none 0 0, .int .i64 0, .int .i64 0, .slice (some ⟨g4, 0, none⟩) 3 3] 25)
  replace B := hide (bgo B.out hbx)
  replace P2 := hide (P2.out.below hbx)
  clear hbx P3 P4
  go_wp2_with fail
  with_reducible refine (O1.out _ _ hE).mono ?_
  rintro e w30 ⟨n0, n1, nB, nm, nd, rfl, hn, hb⟩
  replace B := hide (bgo B.out hb)
  replace P2 := hide (P2.out.below hb)
  clear hE hb O1 t0 t1 t2 t3 t4 u0 u1 u2 u3 u4 v0 v1 v2 v3 v4
  have hx := nx_new hn
  have hbx := bel_alloc w30 (.cells #[.int .i64 n0, .int .i64 n1, .slice nB nm nd] 32)
  go_upto_region 10 with fail
  obtain ⟨x5, hx5⟩ : ∃ x5, w30.alloc (.cells #[.int .i64 n0, .int .i64 n1, .slice nB nm nd] 32) = x5 := ⟨_, rfl⟩
  obtain ⟨p5, hp5⟩ : ∃ p5, w30.heap.size = p5 := ⟨_, rfl⟩
  rw [hx5] at hx hbx ⊢
  rw [hp5] at hx ⊢
  replace B := hide (bgo B.out hbx)
  replace P2 := hide (P2.out.below hbx)
  have P5 := hide hx
  clear hx hbx hx5 hp5 hn
  go_wp2_with fail
  with_reducible refine (gram10 _ _).mono ?_
  rintro e w31 ⟨rfl, hb⟩
  replace B := hide (bgo B.out hb)
  replace P2 := hide (P2.out.below hb)
  replace P5 := hide (P5.out.below hb)
  clear hb
  go_wp2_with fail
  with_reducible refine (gram10 _ _).mono ?_
  rintro e w32 ⟨rfl, hb⟩
  replace B := hide (bgo B.out hb)
  replace P2 := hide (P2.out.below hb)
  replace P5 := hide (P5.out.below hb)
  clear hb
  obtain ⟨hx, hbx⟩ := two_box w32 6713199 6447474 (by omega) (by omega)
  go_upto_region 11 with fail
  obtain ⟨x6, hx6⟩ : ∃ x6, (w32.alloc (.cells #[.int .i64 3, .int .i64 6713199, .slice none 0 0, .int .i64 3, .int .i64 6447474, .slice none 0 0] 32)).alloc (.cells #[.int .i64 4, .int .i64 0, .slice (some ⟨w32.heap.size, 0, none⟩) 2 2] 32) = x6 := ⟨_, rfl⟩
  obtain ⟨p6, hp6⟩ : ∃ p6, w32.heap.size + 1 = p6 := ⟨_, rfl⟩
  obtain ⟨g6, hg6⟩ : ∃ g6, w32.heap.size = g6 := ⟨_, rfl⟩
  rw [hx6] at hx hbx ⊢
  rw [hp6] at hx ⊢
  rw [hg6] at hx ⊢
  replace B := hide (bgo B.out hbx)
  replace P2 := hide (P2.out.below hbx)
  replace P5 := hide (P5.out.below hbx)
  have P6 := hide hx
  clear hx hbx hx6 hp6 hg6
  have S1 := hide (fun (W : World) (h : NdV W anyB (.agg #[.int .i64 n0, .int .i64 n1, .slice nB nm nd]) andE) (h' : NdV W anyB (.agg #[.int .i64 4, .int .i64 0, .slice (some ⟨g6, 0, none⟩) 2 2]) andE) => HC.out.same h h' (by decide) true (by simp))
  have S2 := hide (fun (W : World) (h : NdV W anyB (.agg #[.int .i64 n0, .int .i64 n1, .slice nB nm nd]) andE) => HC.out.same h (gram_ndv W 5 (by omega)) (by decide) false (by simp [ex9]))
  have S3 := hide (fun (W : World) (h : NdV W anyB (.agg #[.int .i64 n0, .int .i64 n1, .slice nB nm nd]) andE) (h' : NdV W anyB (.agg #[.int .i64 4, .int .i64 0, .slice (some ⟨g6, 0, none⟩) 2 2]) andE) => rsame andE W _ _ _ _ andE h h' true (by simp))
  have R1 := hide (fun (W : World) (h : NdV W anyB (.agg #[.int .i64 4, .int .i64 0, .slice (some ⟨g6, 0, none⟩) 2 2]) andE) => HC.out.right h (by decide) true ex5)
  obtain ⟨x, hx⟩ : ∃ x, x = x6 := ⟨_, rfl⟩
  subst hx
  have HK := hide (show ∀ X : World, Below x.heap.size x X → (X.cell? ⟨p5, 0, none⟩ = some (.int .i64 n0) ∧ X.cell? ⟨p5, 1, none⟩ = some (.int .i64 n1) ∧ X.cell? ⟨p5, 2, none⟩ = some (.slice nB nm nd) ∧ X.cell? ⟨p6, 0, none⟩ = some (.int .i64 4) ∧ X.cell? ⟨p6, 1, none⟩ = some (.int .i64 0) ∧ X.cell? ⟨p6, 2, none⟩ = some (.slice (some ⟨g6, 0, none⟩) 2 2)) ∧ Below x.heap.size x X from fun X hb => by
    obtain ⟨-, r00, r01, r02⟩ := (P5.out.below hb).tri
    obtain ⟨-, r10, r11, r12⟩ := (P6.out.below hb).tri
    exact ⟨⟨r00, r01, r02, r10, r11, r12⟩, hb⟩)
  have HS0 := hide (bel_drew x)
  have hz0 := HS0.out.size
  have HKs := hide (show ∀ X Y : World, (X.cell? ⟨p5, 0, none⟩ = some (.int .i64 n0) ∧ X.cell? ⟨p5, 1, none⟩ = some (.int .i64 n1) ∧ X.cell? ⟨p5, 2, none⟩ = some (.slice nB nm nd) ∧ X.cell? ⟨p6, 0, none⟩ = some (.int .i64 4) ∧ X.cell? ⟨p6, 1, none⟩ = some (.int .i64 0) ∧ X.cell? ⟨p6, 2, none⟩ = some (.slice (some ⟨g6, 0, none⟩) 2 2)) ∧ Below x.heap.size x X → Below X.heap.size X Y → (Y.cell? ⟨p5, 0, none⟩ = some (.int .i64 n0) ∧ Y.cell? ⟨p5, 1, none⟩ = some (.int .i64 n1) ∧ Y.cell? ⟨p5, 2, none⟩ = some (.slice nB nm nd) ∧ Y.cell? ⟨p6, 0, none⟩ = some (.int .i64 4) ∧ Y.cell? ⟨p6, 1, none⟩ = some (.int .i64 0) ∧ Y.cell? ⟨p6, 2, none⟩ = some (.slice (some ⟨g6, 0, none⟩) 2 2)) ∧ Below x.heap.size x Y from fun X Y h hb => HK.out Y (bgo h.2 hb))
  have HKset := hide (show ∀ (X : World) (pp : Nat) (a b c : Value), (X.cell? ⟨p5, 0, none⟩ = some (.int .i64 n0) ∧ X.cell? ⟨p5, 1, none⟩ = some (.int .i64 n1) ∧ X.cell? ⟨p5, 2, none⟩ = some (.slice nB nm nd) ∧ X.cell? ⟨p6, 0, none⟩ = some (.int .i64 4) ∧ X.cell? ⟨p6, 1, none⟩ = some (.int .i64 0) ∧ X.cell? ⟨p6, 2, none⟩ = some (.slice (some ⟨g6, 0, none⟩) 2 2)) ∧ Below x.heap.size x X → x.heap.size ≤ pp → ((((X.setCell ⟨pp, 0, none⟩ a).setCell ⟨pp, 1, none⟩ b).setCell ⟨pp, 2, none⟩ c).cell? ⟨p5, 0, none⟩ = some (.int .i64 n0) ∧ (((X.setCell ⟨pp, 0, none⟩ a).setCell ⟨pp, 1, none⟩ b).setCell ⟨pp, 2, none⟩ c).cell? ⟨p5, 1, none⟩ = some (.int .i64 n1) ∧ (((X.setCell ⟨pp, 0, none⟩ a).setCell ⟨pp, 1, none⟩ b).setCell ⟨pp, 2, none⟩ c).cell? ⟨p5, 2, none⟩ = some (.slice nB nm nd) ∧ (((X.setCell ⟨pp, 0, none⟩ a).setCell ⟨pp, 1, none⟩ b).setCell ⟨pp, 2, none⟩ c).cell? ⟨p6, 0, none⟩ = some (.int .i64 4) ∧ (((X.setCell ⟨pp, 0, none⟩ a).setCell ⟨pp, 1, none⟩ b).setCell ⟨pp, 2, none⟩ c).cell? ⟨p6, 1, none⟩ = some (.int .i64 0) ∧ (((X.setCell ⟨pp, 0, none⟩ a).setCell ⟨pp, 1, none⟩ b).setCell ⟨pp, 2, none⟩ c).cell? ⟨p6, 2, none⟩ = some (.slice (some ⟨g6, 0, none⟩) 2 2)) ∧ Below x.heap.size x (((X.setCell ⟨pp, 0, none⟩ a).setCell ⟨pp, 1, none⟩ b).setCell ⟨pp, 2, none⟩ c) from fun X pp a b c h hp => HK.out _ (put3_below h.2 hp))
  have HKal := hide (show ∀ (X : World) (o o2 : Obj), ((X.alloc o).cell? ⟨p5, 0, none⟩ = some (.int .i64 n0) ∧ (X.alloc o).cell? ⟨p5, 1, none⟩ = some (.int .i64 n1) ∧ (X.alloc o).cell? ⟨p5, 2, none⟩ = some (.slice nB nm nd) ∧ (X.alloc o).cell? ⟨p6, 0, none⟩ = some (.int .i64 4) ∧ (X.alloc o).cell? ⟨p6, 1, none⟩ = some (.int .i64 0) ∧ (X.alloc o).cell? ⟨p6, 2, none⟩ = some (.slice (some ⟨g6, 0, none⟩) 2 2)) ∧ Below x.heap.size x (X.alloc o) → x.heap.size ≤ X.heap.size → ((X.alloc o2).cell? ⟨p5, 0, none⟩ = some (.int .i64 n0) ∧ (X.alloc o2).cell? ⟨p5, 1, none⟩ = some (.int .i64 n1) ∧ (X.alloc o2).cell? ⟨p5, 2, none⟩ = some (.slice nB nm nd) ∧ (X.alloc o2).cell? ⟨p6, 0, none⟩ = some (.int .i64 4) ∧ (X.alloc o2).cell? ⟨p6, 1, none⟩ = some (.int .i64 0) ∧ (X.alloc o2).cell? ⟨p6, 2, none⟩ = some (.slice (some ⟨g6, 0, none⟩) 2 2)) ∧ Below x.heap.size x (X.alloc o2) from fun X o o2 h hp => HK.out _ (below_realloc h.2 hp))
  have HKb := hide (show ∀ X : World, (X.cell? ⟨p5, 0, none⟩ = some (.int .i64 n0) ∧ X.cell? ⟨p5, 1, none⟩ = some (.int .i64 n1) ∧ X.cell? ⟨p5, 2, none⟩ = some (.slice nB nm nd) ∧ X.cell? ⟨p6, 0, none⟩ = some (.int .i64 4) ∧ X.cell? ⟨p6, 1, none⟩ = some (.int .i64 0) ∧ X.cell? ⟨p6, 2, none⟩ = some (.slice (some ⟨g6, 0, none⟩) 2 2)) ∧ Below x.heap.size x X → Below x.heap.size x X from fun X h => h.2)
  go_region_held3 (fun w' => (w'.cell? ⟨p5, 0, none⟩ = some (.int .i64 n0) ∧ w'.cell? ⟨p5, 1, none⟩ = some (.int .i64 n1) ∧ w'.cell? ⟨p5, 2, none⟩ = some (.slice nB nm nd) ∧ w'.cell? ⟨p6, 0, none⟩ = some (.int .i64 4) ∧ w'.cell? ⟨p6, 1, none⟩ = some (.int .i64 0) ∧ w'.cell? ⟨p6, 2, none⟩ = some (.slice (some ⟨g6, 0, none⟩) 2 2)) ∧ Below x.heap.size x w')
    (first | exact HK.out _ HS0.out | exact HKs.out _ _ (by assumption) hb4 | exact HKs.out _ _ (by assumption) (bel_alloc _ _))
    (first
      | (go_at_call 25; (with_reducible refine (S1.out _ (P5.out.nd.kept (HKb.out _ (by assumption))) (P6.out.nd.kept (HKb.out _ (by assumption)))).mono ?_); rintro e ws ⟨rfl, hb4⟩)
      | (go_at_call 26; (with_reducible refine (S3.out _ (P5.out.nd.kept (HKb.out _ (by assumption))) (P6.out.nd.kept (HKb.out _ (by assumption)))).mono ?_); rintro e ws ⟨rfl, hb4⟩)
      | (go_at_call 24; (with_reducible refine (gram10 _ _).mono ?_); rintro e ws ⟨rfl, hb4⟩)
      | (go_at_call 25; (with_reducible refine (S2.out _ (P5.out.nd.kept (HKb.out _ (by assumption)))).mono ?_); rintro e ws ⟨rfl, hb4⟩)
      | (go_at_call 27; (with_reducible refine (R1.out _ (P6.out.nd.kept (HKb.out _ (by assumption)))).mono ?_); rintro e ws ⟨rfl, hb4⟩))
  have hX := HKb.out _ (by assumption)
  clear HK HS0 hz0 HKs HKset HKal HKb S1 S2 S3 R1 P5
  replace B := hide (bgo B.out hX)
  replace P2 := hide (P2.out.below hX)
  replace P6 := hide (P6.out.below hX)
  clear hX
  have E1 := hide (fun (W : World) (h : NdV W anyB (.agg #[.int .i64 4, .int .i64 0, .slice (some ⟨g6, 0, none⟩) 2 2]) andE) (A : Option Addr) (c : Nat) (hs : Sl W A 2 c (numCells [6447474, 6713199])) => HC.out.eval h (by decide) (by decide) (by unfold WfL; decide) hs true ex6)
  have E2 := hide (fun (W : World) (h : NdV W anyB (.agg #[.int .i64 4, .int .i64 0, .slice (some ⟨g6, 0, none⟩) 2 2]) andE) (A : Option Addr) (c : Nat) (hs : Sl W A 1 c (numCells [6713199])) => HC.out.eval h (by decide) (by decide) (by unfold WfL; decide) hs false ex7)
  have hbx := bel_alloc ws (.cells #[.int .i64 6447474, .int .i64 6713199] 3)
  have hq := P6.out.nd.kept hbx
  have hsl := sl_int2 ws 6447474 6713199
  obtain ⟨-, t0, t1, t2⟩ := P6.out.tri
  replace B := hide (bgo B.out hbx)
  replace P2 := hide (P2.out.below hbx)
  replace P6 := hide (P6.out.below hbx)
  clear hbx
  go_wp2_with fail
  with_reducible refine (E1.out _ hq _ _ hsl).mono ?_
  rintro e w41 ⟨rfl, hb⟩
  replace B := hide (bgo B.out hb)
  replace P2 := hide (P2.out.below hb)
  replace P6 := hide (P6.out.below hb)
  clear hb hq hsl E1 t0 t1 t2
  have hbx := bel_alloc w41 (.cells #[.int .i64 6713199] 3)
  have hq := P6.out.nd.kept hbx
  have hsl := sl_int1 w41 6713199
  obtain ⟨-, t0, t1, t2⟩ := P6.out.tri
  replace B := hide (bgo B.out hbx)
  replace P2 := hide (P2.out.below hbx)
  clear hbx P6
  go_wp2_with fail
  with_reducible refine (E2.out _ hq _ _ hsl).mono ?_
  rintro e w42 ⟨rfl, hb⟩
  replace B := hide (bgo B.out hb)
  replace P2 := hide (P2.out.below hb)
  clear hb hq hsl E2 t0 t1 t2
  go_wp2_with fail
  with_reducible refine (gram10 _ _).mono ?_
  rintro e w43 ⟨rfl, hb⟩
  replace B := hide (bgo B.out hb)
  replace P2 := hide (P2.out.below hb)
  clear hb
  go_wp2_with fail
  with_reducible refine (gram10 _ _).mono ?_
  rintro e w44 ⟨rfl, hb⟩
  replace B := hide (bgo B.out hb)
  replace P2 := hide (P2.out.below hb)
  clear hb
  obtain ⟨hx, hbx⟩ := two_box w44 5 6 (by omega) (by omega)
  go_upto_region 16 with fail
  obtain ⟨x7, hx7⟩ : ∃ x7, (w44.alloc (.cells #[.int .i64 3, .int .i64 5, .slice none 0 0, .int .i64 3, .int .i64 6, .slice none 0 0] 32)).alloc (.cells #[.int .i64 4, .int .i64 0, .slice (some ⟨w44.heap.size, 0, none⟩) 2 2] 32) = x7 := ⟨_, rfl⟩
  obtain ⟨p7, hp7⟩ : ∃ p7, w44.heap.size + 1 = p7 := ⟨_, rfl⟩
  obtain ⟨g7, hg7⟩ : ∃ g7, w44.heap.size = g7 := ⟨_, rfl⟩
  rw [hx7] at hx hbx ⊢
  rw [hp7] at hx ⊢
  rw [hg7] at hx ⊢
  replace B := hide (bgo B.out hbx)
  replace P2 := hide (P2.out.below hbx)
  have P7 := hide hx
  clear hx hbx hx7 hp7 hg7
  go_cut [12] from 13 (fun u12 wx => ∃ (p8 : Nat) (k8 g8 : Int) (B8 : Option Addr) (m8 d8 : Nat), u12 = .pointer (some ⟨p8, 0, none⟩) ∧ Nx wx p8 k8 g8 B8 m8 d8 fiveN ∧ Below w.heap.size w wx ∧ Bx wx p2 4 1 (-1) none (some ⟨g2, 0, none⟩) 0 0 1 1 moreR ∧ Nx wx p7 4 0 (some ⟨g7, 0, none⟩) 2 2 fiveN)
  case first =>
    obtain ⟨x, hx⟩ : ∃ x, x = x7 := ⟨_, rfl⟩
    subst hx
    have HK := hide (show ∀ X : World, Below x.heap.size x X → (X.cell? ⟨p7, 0, none⟩ = some (.int .i64 4) ∧ X.cell? ⟨p7, 1, none⟩ = some (.int .i64 0) ∧ X.cell? ⟨p7, 2, none⟩ = some (.slice (some ⟨g7, 0, none⟩) 2 2)) ∧ Below x.heap.size x X from fun X hb => by
      obtain ⟨-, r00, r01, r02⟩ := (P7.out.below hb).tri
      exact ⟨⟨r00, r01, r02⟩, hb⟩)
    have HS0 := hide (bel_drew x)
    have hz0 := HS0.out.size
    have HKs := hide (show ∀ X Y : World, (X.cell? ⟨p7, 0, none⟩ = some (.int .i64 4) ∧ X.cell? ⟨p7, 1, none⟩ = some (.int .i64 0) ∧ X.cell? ⟨p7, 2, none⟩ = some (.slice (some ⟨g7, 0, none⟩) 2 2)) ∧ Below x.heap.size x X → Below X.heap.size X Y → (Y.cell? ⟨p7, 0, none⟩ = some (.int .i64 4) ∧ Y.cell? ⟨p7, 1, none⟩ = some (.int .i64 0) ∧ Y.cell? ⟨p7, 2, none⟩ = some (.slice (some ⟨g7, 0, none⟩) 2 2)) ∧ Below x.heap.size x Y from fun X Y h hb => HK.out Y (bgo h.2 hb))
    have HKset := hide (show ∀ (X : World) (pp : Nat) (a b c : Value), (X.cell? ⟨p7, 0, none⟩ = some (.int .i64 4) ∧ X.cell? ⟨p7, 1, none⟩ = some (.int .i64 0) ∧ X.cell? ⟨p7, 2, none⟩ = some (.slice (some ⟨g7, 0, none⟩) 2 2)) ∧ Below x.heap.size x X → x.heap.size ≤ pp → ((((X.setCell ⟨pp, 0, none⟩ a).setCell ⟨pp, 1, none⟩ b).setCell ⟨pp, 2, none⟩ c).cell? ⟨p7, 0, none⟩ = some (.int .i64 4) ∧ (((X.setCell ⟨pp, 0, none⟩ a).setCell ⟨pp, 1, none⟩ b).setCell ⟨pp, 2, none⟩ c).cell? ⟨p7, 1, none⟩ = some (.int .i64 0) ∧ (((X.setCell ⟨pp, 0, none⟩ a).setCell ⟨pp, 1, none⟩ b).setCell ⟨pp, 2, none⟩ c).cell? ⟨p7, 2, none⟩ = some (.slice (some ⟨g7, 0, none⟩) 2 2)) ∧ Below x.heap.size x (((X.setCell ⟨pp, 0, none⟩ a).setCell ⟨pp, 1, none⟩ b).setCell ⟨pp, 2, none⟩ c) from fun X pp a b c h hp => HK.out _ (put3_below h.2 hp))
    have HKal := hide (show ∀ (X : World) (o o2 : Obj), ((X.alloc o).cell? ⟨p7, 0, none⟩ = some (.int .i64 4) ∧ (X.alloc o).cell? ⟨p7, 1, none⟩ = some (.int .i64 0) ∧ (X.alloc o).cell? ⟨p7, 2, none⟩ = some (.slice (some ⟨g7, 0, none⟩) 2 2)) ∧ Below x.heap.size x (X.alloc o) → x.heap.size ≤ X.heap.size → ((X.alloc o2).cell? ⟨p7, 0, none⟩ = some (.int .i64 4) ∧ (X.alloc o2).cell? ⟨p7, 1, none⟩ = some (.int .i64 0) ∧ (X.alloc o2).cell? ⟨p7, 2, none⟩ = some (.slice (some ⟨g7, 0, none⟩) 2 2)) ∧ Below x.heap.size x (X.alloc o2) from fun X o o2 h hp => HK.out _ (below_realloc h.2 hp))
    have HKb := hide (show ∀ X : World, (X.cell? ⟨p7, 0, none⟩ = some (.int .i64 4) ∧ X.cell? ⟨p7, 1, none⟩ = some (.int .i64 0) ∧ X.cell? ⟨p7, 2, none⟩ = some (.slice (some ⟨g7, 0, none⟩) 2 2)) ∧ Below x.heap.size x X → Below x.heap.size x X from fun X h => h.2)
    go_region_held3 (fun w' => (w'.cell? ⟨p7, 0, none⟩ = some (.int .i64 4) ∧ w'.cell? ⟨p7, 1, none⟩ = some (.int .i64 0) ∧ w'.cell? ⟨p7, 2, none⟩ = some (.slice (some ⟨g7, 0, none⟩) 2 2)) ∧ Below x.heap.size x w')
      (first | exact HK.out _ HS0.out | exact HKs.out _ _ (by assumption) hb4 | exact HKs.out _ _ (by assumption) (bel_alloc _ _) | exact HKset.out _ _ _ _ _ (by assumption) (by (try simp only [World.size_alloc] at *); omega) | exact HKal.out _ _ _ (by assumption) (by (try simp only [World.size_alloc] at *); omega))
      (first
        | (go_at_call 24; (with_reducible refine (gram10 _ _).mono ?_); rintro e wg ⟨rfl, hb4⟩; (first | have hf7 := P7.out.nd.kept (bgo HS0.out hb4) | have hf7 := (P7.out.nd.kept (bgo HS0.out (bel_alloc _ _))).kept hb4); (try have hz := hb4.size); (try (first | have TW := TW.keep hb4 | have TW := TW.under hb4)); (try (first | have TW := zb_drew hb4 | have TW := zb_over hb4 | have TW := zb_under hb4)); (try simp only [World.size_alloc] at TW); (try (obtain ⟨⟨-, tc0, tc1, tc2⟩, tf0, tf1, tf2⟩ := TW.tri)))
        | (go_at_call 28; (with_reducible refine (M1.out _ _ ?_).mono ?_); (first | exact (nels3p (ndv_leaf 1 0 (by omega) (by omega)) hf7 (gram_ndv _ 5 (by omega)) rfl).mk 4 (by omega) | exact ((nels3p (ndv_leaf 1 0 (by omega) (by omega)) hf7 (gram_ndv _ 5 (by omega)) rfl).below (bel_alloc _ _)).mk 4 (by omega) | exact (nels3p (ndv_leaf 1 0 (by omega) (by omega)) (hf7.kept (bel_alloc _ _)) (gram_ndv _ 5 (by omega)) (World.size_alloc _ _)).mk 4 (by omega)); rintro e wm ⟨k8, g8, B8, m8, d8, rfl, hn8, hb4⟩; (try have hz := hb4.size); (try (first | have TW := TW.keep hb4 | have TW := TW.under hb4)); (try (first | have TW := zb_drew hb4 | have TW := zb_over hb4 | have TW := zb_under hb4)); (try simp only [World.size_alloc] at TW); (try (obtain ⟨⟨-, tc0, tc1, tc2⟩, tf0, tf1, tf2⟩ := TW.tri))))
    all_goals
      have hX := HKb.out _ (by assumption)
      go_wp2_with fail
      go_meet
      first
      | exact ⟨_, _, _, _, _, _, rfl, nx_new hn8, bgo B.out hX, P2.out.below hX, P7.out.below hX⟩
      | exact ⟨_, _, _, _, _, _, rfl, nx_put TW hn8, bgo B.out hX, P2.out.below hX, P7.out.below hX⟩
  case rest =>
    clear B P2 P7 M1
    obtain ⟨p8, k8, g8, B8, m8, d8, rfl, hx, hB, h2, h7⟩ := hcut
    have P8 := hide hx
    have B := hide hB
    have P2 := hide h2
    have P7 := hide h7
    clear hx hB h2 h7
    obtain ⟨-, t0, t1, t2⟩ := P8.out.tri
    obtain ⟨-, u0, u1, u2⟩ := P7.out.tri
    go_wp2_with fail
    with_reducible refine (rsame fiveN _ _ _ _ _ fiveN P8.out.nd P7.out.nd true (by simp)).mono ?_
    rintro e w45 ⟨rfl, hb⟩
    replace B := hide (bgo B.out hb)
    replace P2 := hide (P2.out.below hb)
    clear hb t0 t1 t2 u0 u1 u2 P7 P8
    obtain ⟨-, t0, t1, t2, t3, t4⟩ := P2.out.five
    go_wp2_with fail
    with_reducible refine (O2.out _ _ P2.out.rx).mono ?_
    rintro e w46 ⟨g9, B9, m9, d9, rfl, hb⟩
    replace B := hide (bgo B.out hb)
    clear hb
    have hfd : ∀ wx : World, (Instr.field 32 (.agg #[.int .i64 1, .int .i64 g9, .slice B9 m9 d9]) 0).run Tryz.prog wx = .ok (.int .i64 1) wx := fun _ => by first | kernel_rfl | rfl | go_simp
    go_wp2
    go_ret
    exact ⟨rfl, B.out⟩
end Go.Proofs.YtlnbjdlooghpeaaGreatDoor
