/- Layer 9: the examples walked. -/
import Derived.Test.YtkghbhcjgogaeaaDoorGw
import Derived.Test.YtkghbhcjgogaeaaDoorT2
namespace Go.Proofs.YtkghbhcjgogaeaaDoor
open Go.RowKit

theorem rep_box {w : World} {q0 q1 q2 : Int} {qA qB : Option Addr} {qn qc qm qd : Nat} {x : Rx} (hr : RxV w anyB (.agg #[.int .i64 q0, .slice qA qn qc, .int .i64 q1, .int .i64 q2, .slice qB qm qd]) x) (a b : Int) (ha : -9223372036854775808 ≤ a ∧ a ≤ 9223372036854775807) (hb : -9223372036854775808 ≤ b ∧ b ≤ 9223372036854775807) :
    Bx ((w.alloc (.cells #[.int .i64 q0, .slice qA qn qc, .int .i64 q1, .int .i64 q2, .slice qB qm qd] 25)).alloc (.cells #[.int .i64 4, .slice none 0 0, .int .i64 a, .int .i64 b, .slice (some ⟨w.heap.size, 0, none⟩) 1 1] 25)) (w.heap.size + 1) 4 a b none (some ⟨w.heap.size, 0, none⟩) 0 0 1 1 (timR a b x) ∧
    Below w.heap.size w ((w.alloc (.cells #[.int .i64 q0, .slice qA qn qc, .int .i64 q1, .int .i64 q2, .slice qB qm qd] 25)).alloc (.cells #[.int .i64 4, .slice none 0 0, .int .i64 a, .int .i64 b, .slice (some ⟨w.heap.size, 0, none⟩) 1 1] 25)) := by
  have h := bx_new ((els1 w _ _ _ _ _ _ hr).mk 4 a b (by omega) ha hb)
  rw [World.size_alloc] at h
  exact ⟨h, bnew (bel_alloc w _) _⟩
theorem alt_box {w : World} {a0 a1 a2 : Int} {aA aB : Option Addr} {an ac am ad : Nat} {e0 e1 e2 : Int} {eA eB : Option Addr} {en ec em ed : Nat} {x y : Rx} (hx : RxV w anyB (.agg #[.int .i64 a0, .slice aA an ac, .int .i64 a1, .int .i64 a2, .slice aB am ad]) x) (hy : RxV w anyB (.agg #[.int .i64 e0, .slice eA en ec, .int .i64 e1, .int .i64 e2, .slice eB em ed]) y) :
    Bx ((w.alloc (.cells #[.int .i64 a0, .slice aA an ac, .int .i64 a1, .int .i64 a2, .slice aB am ad, .int .i64 e0, .slice eA en ec, .int .i64 e1, .int .i64 e2, .slice eB em ed] 25)).alloc (.cells #[.int .i64 3, .slice none 0 0, .int .i64 0, .int .i64 0, .slice (some ⟨w.heap.size, 0, none⟩) 2 2] 25)) (w.heap.size + 1) 3 0 0 none (some ⟨w.heap.size, 0, none⟩) 0 0 2 2 (.mk 3 [] 0 0 [x, y]) ∧
    Below w.heap.size w ((w.alloc (.cells #[.int .i64 a0, .slice aA an ac, .int .i64 a1, .int .i64 a2, .slice aB am ad, .int .i64 e0, .slice eA en ec, .int .i64 e1, .int .i64 e2, .slice eB em ed] 25)).alloc (.cells #[.int .i64 3, .slice none 0 0, .int .i64 0, .int .i64 0, .slice (some ⟨w.heap.size, 0, none⟩) 2 2] 25)) := by
  have h := bx_new ((els2 w _ _ _ _ _ _ _ _ _ _ _ _ hx hy).mk 3 0 0 (by omega) (by omega) (by omega))
  rw [World.size_alloc] at h
  exact ⟨h, bnew (bel_alloc w _) _⟩

theorem sls3 (w : World) (a b c d e f : Nat) : SlS (w.alloc (.cells #[.int .i64 (a : Int), .int .i64 (b : Int), .int .i64 (c : Int), .int .i64 (d : Int), .int .i64 (e : Int), .int .i64 (f : Int)] 32)) (some ⟨w.heap.size, 0, none⟩) 3 3 [(a, b), (c, d), (e, f)] := by
  refine ⟨rfl, Nat.le_refl _, fun i p hp => ?_⟩
  match i, hp with
  | 0, hp => simp at hp; subst hp; refine ⟨w.heap.size, 0, rfl, ?_, ?_⟩ <;> (rw [World.cell?_alloc_mark]; rfl)
  | 1, hp => simp at hp; subst hp; refine ⟨w.heap.size, 0, rfl, ?_, ?_⟩ <;> (rw [World.cell?_alloc_mark]; rfl)
  | 2, hp => simp at hp; subst hp; refine ⟨w.heap.size, 0, rfl, ?_, ?_⟩ <;> (rw [World.cell?_alloc_mark]; rfl)
theorem sls2 (w : World) (a b c d : Nat) : SlS (w.alloc (.cells #[.int .i64 (a : Int), .int .i64 (b : Int), .int .i64 (c : Int), .int .i64 (d : Int)] 32)) (some ⟨w.heap.size, 0, none⟩) 2 2 [(a, b), (c, d)] := by
  refine ⟨rfl, Nat.le_refl _, fun i p hp => ?_⟩
  match i, hp with
  | 0, hp => simp at hp; subst hp; refine ⟨w.heap.size, 0, rfl, ?_, ?_⟩ <;> (rw [World.cell?_alloc_mark]; rfl)
  | 1, hp => simp at hp; subst hp; refine ⟨w.heap.size, 0, rfl, ?_, ?_⟩ <;> (rw [World.cell?_alloc_mark]; rfl)
theorem below_realloc {B : Nat} {w X : World} {o o2 : Obj} (h : Below B w (X.alloc o)) (hB : B ≤ X.heap.size) : Below B w (X.alloc o2) :=
  ⟨h.os, h.tape, h.output, by have := h.size; rw [World.size_alloc] at this ⊢; exact this, fun k hk => by
    have := h.block k hk
    rw [Below.heap_alloc _ _ _ (by omega)] at this ⊢
    exact this⟩

set_option maxRecDepth 100000 in
set_option maxHeartbeats 6400000 in
theorem alive10 : AliveC := by
  intro w hT
  have H97 := hide (set26' 97 97 rfl)
  have H98 := hide (set26' 98 98 rfl)
  have H99 := hide (set26' 99 99 rfl)
  have H102 := hide (set26' 102 102 rfl)
  have HC := hide cat23'
  have hm := all_mirror
  have F1 := hide (fun (W : World) (v : Value) (h : RxV W anyB v apcR) (hT : HasT W) => (show Calls Tryd.prog 14 #[v, .string ⟨#[120, 97, 98, 98, 99]⟩, .int .i64 0] W fun e w' => e = .returned (.tuple #[.agg #[.int .i64 1, .int .i64 5], .bool true]) ∧ Below W.heap.size W w' from by have h1 := find14 hm ⟨#[120, 97, 98, 98, 99]⟩ (by decide) apcR (by decide) (by decide) 0 W anyB v h hT; rw [ex1] at h1; exact h1))
  have E2 := hide (fun (W : World) (v : Value) (h : RxV W anyB v apcR) (hT : HasT W) => (ends12 ⟨#[120, 97, 98, 98, 99]⟩ (by decide) apcR (by decide) (by decide) 0 W anyB v h hT).mono (R' := fun e w' => ∃ A c, e = .returned (.slice A 0 c) ∧ Below W.heap.size W w') (fun e w' h => by rw [ex2] at h; obtain ⟨A, c, h1, -, h3⟩ := grew_n (N := 0) h rfl; exact ⟨A, c, h1, h3⟩))
  have A3 := hide (fun (W : World) (v : Value) (h : RxV W anyB v starR) (hT : HasT W) => (all21 hm ⟨#[97, 97, 98]⟩ (by decide) starR (by decide) (by decide) W anyB v h hT).mono (R' := fun e w' => ∃ A c, e = .returned (.slice A 3 c) ∧ SlS w' A 3 c [(0, 2), (2, 2), (3, 3)] ∧ Below W.heap.size W w') (fun e w' ⟨u, h1, h2, h3⟩ => by rw [ex3] at h2; obtain ⟨A, c, rfl, h4⟩ := owns_n (N := 3) h2 rfl; exact ⟨A, c, h1, h4, h3⟩))
  have A4 := hide (fun (W : World) (v : Value) (h : RxV W anyB v altR) (hT : HasT W) => (all21 hm ⟨#[97, 98, 97, 98]⟩ (by decide) altR (by decide) (by decide) W anyB v h hT).mono (R' := fun e w' => ∃ A c, e = .returned (.slice A 2 c) ∧ SlS w' A 2 c [(0, 2), (2, 4)] ∧ Below W.heap.size W w') (fun e w' ⟨u, h1, h2, h3⟩ => by rw [ex4] at h2; obtain ⟨A, c, rfl, h4⟩ := owns_n (N := 2) h2 rfl; exact ⟨A, c, h1, h4, h3⟩))
  have S3 := hide (fun (W : World) (A B : Option Addr) (c d : Nat) (ha : SlS W A 3 c [(0, 2), (2, 2), (3, 3)]) (hb : SlS W B 3 d [(0, 2), (2, 2), (3, 3)]) => samespans20 _ _ A B 3 3 c d (by omega) W ha hb true (by simp))
  have S2 := hide (fun (W : World) (A B : Option Addr) (c d : Nat) (ha : SlS W A 2 c [(0, 2), (2, 4)]) (hb : SlS W B 2 d [(0, 2), (2, 4)]) => samespans20 _ _ A B 2 2 c d (by omega) W ha hb true (by simp))
  have F5 := hide (fun (W : World) (v : Value) (h : RxV W anyB v bbR) (hT : HasT W) => (show Calls Tryd.prog 14 #[v, .string ⟨#[97, 10, 98]⟩, .int .i64 0] W fun e w' => e = .returned (.tuple #[.agg #[.int .i64 2, .int .i64 3], .bool true]) ∧ Below W.heap.size W w' from by have h1 := find14 hm ⟨#[97, 10, 98]⟩ (by decide) bbR (by decide) (by decide) 0 W anyB v h hT; rw [ex5] at h1; exact h1))
  have M6 := hide (fun (W : World) (v : Value) (h : RxV W anyB v fR) (hT : HasT W) => (ex6 ▸ match16 ⟨#[102, 46, 98]⟩ (by decide) fR (by decide) (by decide) W anyB v h hT : Calls Tryd.prog 16 #[v, .string ⟨#[102, 46, 98]⟩] W fun e w' => e = .returned (.bool true) ∧ Below W.heap.size W w'))
  have M7 := hide (fun (W : World) (v : Value) (h : RxV W anyB v fR) (hT : HasT W) => (ex7 ▸ match16 ⟨#[102, 98]⟩ (by decide) fR (by decide) (by decide) W anyB v h hT : Calls Tryd.prog 16 #[v, .string ⟨#[102, 98]⟩] W fun e w' => e = .returned (.bool false) ∧ Below W.heap.size W w'))
  have W8 := hide (fun (W : World) (v : Value) (h : RxV W anyB v starR) (hT : HasT W) => (ex8 ▸ whole18 ⟨#[97, 97]⟩ (by decide) starR (by decide) (by decide) W anyB v h hT : Calls Tryd.prog 18 #[v, .string ⟨#[97, 97]⟩] W fun e w' => e = .returned (.bool true) ∧ Below W.heap.size W w'))
  have W9 := hide (fun (W : World) (v : Value) (h : RxV W anyB v starR) (hT : HasT W) => (ex9 ▸ whole18 ⟨#[97, 98]⟩ (by decide) starR (by decide) (by decide) W anyB v h hT : Calls Tryd.prog 18 #[v, .string ⟨#[97, 98]⟩] W fun e w' => e = .returned (.bool false) ∧ Below W.heap.size W w'))
  have HT := hide hT
  have B := hide (Below.refl w.heap.size w)
  clear hm hT
  go_enter Tryd.func10, Tryd.ntmps10
  go_wp2_with fail
  with_reducible refine (H98.out _).mono ?_
  rintro e w1 ⟨q0, q1, q2, qA, qB, qn, qc, qm, qd, rfl, hr, hb⟩
  replace HT := hide (HT.out.below hb)
  replace B := hide (bgo B.out hb)
  obtain ⟨hx, hbx⟩ := rep_box hr 1 (-1) (by omega) (by omega)
  go_upto_region 2 with fail
  obtain ⟨x1, hx1⟩ : ∃ x1, (w1.alloc (.cells #[.int .i64 q0, .slice qA qn qc, .int .i64 q1, .int .i64 q2, .slice qB qm qd] 25)).alloc (.cells #[.int .i64 4, .slice none 0 0, .int .i64 1, .int .i64 (-1), .slice (some ⟨w1.heap.size, 0, none⟩) 1 1] 25) = x1 := ⟨_, rfl⟩
  obtain ⟨p1, hp1⟩ : ∃ p1, w1.heap.size + 1 = p1 := ⟨_, rfl⟩
  obtain ⟨g1, hg1⟩ : ∃ g1, w1.heap.size = g1 := ⟨_, rfl⟩
  rw [hx1] at hx hbx ⊢
  rw [hp1] at hx ⊢
  rw [hg1] at hx ⊢
  replace HT := hide (HT.out.below hbx)
  replace B := hide (bgo B.out hbx)
  have P1 := hide hx
  clear hx hbx hx1 hp1 hg1 hr hb
  go_wp2_with fail
  with_reducible refine (H97.out _).mono ?_
  rintro e w2 ⟨k0, k1, k2, kA, kB, kn, kc, km, kd, rfl, hr, hb⟩
  replace HT := hide (HT.out.below hb)
  replace B := hide (bgo B.out hb)
  replace P1 := hide (P1.out.below hb)
  obtain ⟨hx, hbx⟩ := rep_box hr 0 (-1) (by omega) (by omega)
  go_upto_region 3 with fail
  obtain ⟨x2, hx2⟩ : ∃ x2, (w2.alloc (.cells #[.int .i64 k0, .slice kA kn kc, .int .i64 k1, .int .i64 k2, .slice kB km kd] 25)).alloc (.cells #[.int .i64 4, .slice none 0 0, .int .i64 0, .int .i64 (-1), .slice (some ⟨w2.heap.size, 0, none⟩) 1 1] 25) = x2 := ⟨_, rfl⟩
  obtain ⟨p2, hp2⟩ : ∃ p2, w2.heap.size + 1 = p2 := ⟨_, rfl⟩
  obtain ⟨g2, hg2⟩ : ∃ g2, w2.heap.size = g2 := ⟨_, rfl⟩
  rw [hx2] at hx hbx ⊢
  rw [hp2] at hx ⊢
  rw [hg2] at hx ⊢
  replace HT := hide (HT.out.below hbx)
  replace B := hide (bgo B.out hbx)
  replace P1 := hide (P1.out.below hbx)
  have P2 := hide hx
  clear hx hbx hx2 hp2 hg2 hr hb
  go_wp2_with fail
  with_reducible refine (H97.out _).mono ?_
  rintro e w3 ⟨a0, a1, a2, aA, aB, an, ac, am, ad, rfl, hr, hb⟩
  replace HT := hide (HT.out.below hb)
  replace B := hide (bgo B.out hb)
  replace P1 := hide (P1.out.below hb)
  replace P2 := hide (P2.out.below hb)
  have Ra := hide hr
  clear hr hb
  go_wp2_with fail
  with_reducible refine (H97.out _).mono ?_
  rintro e w4 ⟨b0, b1, b2, bA, bB, bn, bc, bm, bd, rfl, hr, hb⟩
  replace HT := hide (HT.out.below hb)
  replace B := hide (bgo B.out hb)
  replace P1 := hide (P1.out.below hb)
  replace P2 := hide (P2.out.below hb)
  replace Ra := hide (Ra.out.kept hb)
  have Rb := hide hr
  clear hr hb
  go_wp2_with fail
  with_reducible refine (H98.out _).mono ?_
  rintro e w5 ⟨c0, c1, c2, cA, cB, cn, cc, cm, cd, rfl, hr, hb⟩
  replace HT := hide (HT.out.below hb)
  replace B := hide (bgo B.out hb)
  replace P1 := hide (P1.out.below hb)
  replace P2 := hide (P2.out.below hb)
  replace Ra := hide (Ra.out.kept hb)
  replace Rb := hide (Rb.out.kept hb)
  have hE := els2 w5 _ _ _ _ _ _ _ _ _ _ _ _ Rb.out hr
  have hbx := bel_alloc w5 (.cells #[.int .i64 b0, .slice bA bn bc, .int .i64 b1, .int .i64 b2, .slice bB bm bd, .int .i64 c0, .slice cA cn cc, .int .i64 c1, .int .i64 c2, .slice cB cm cd] 25)
  replace HT := hide (HT.out.below hbx)
  replace B := hide (bgo B.out hbx)
  replace P1 := hide (P1.out.below hbx)
  replace P2 := hide (P2.out.below hbx)
  replace Ra := hide (Ra.out.kept hbx)
  replace Rb := hide (Rb.out.kept hbx)
  clear hb hr
  go_wp2_with fail
  with_reducible refine (HC.out _ _ _ _ _ hE).mono ?_
  rintro e w6 ⟨e0, e1, e2, eA, eB, en, ec, em, ed, rfl, hr, hb⟩
  replace HT := hide (HT.out.below hb)
  replace B := hide (bgo B.out hb)
  replace P1 := hide (P1.out.below hb)
  replace P2 := hide (P2.out.below hb)
  replace Ra := hide (Ra.out.kept hb)
  clear hE hbx
  obtain ⟨hx, hbx⟩ := alt_box Ra.out hr
  go_upto_region 4 with fail
  obtain ⟨x3, hx3⟩ : ∃ x3, (w6.alloc (.cells #[.int .i64 a0, .slice aA an ac, .int .i64 a1, .int .i64 a2, .slice aB am ad, .int .i64 e0, .slice eA en ec, .int .i64 e1, .int .i64 e2, .slice eB em ed] 25)).alloc (.cells #[.int .i64 3, .slice none 0 0, .int .i64 0, .int .i64 0, .slice (some ⟨w6.heap.size, 0, none⟩) 2 2] 25) = x3 := ⟨_, rfl⟩
  obtain ⟨p3, hp3⟩ : ∃ p3, w6.heap.size + 1 = p3 := ⟨_, rfl⟩
  obtain ⟨g3, hg3⟩ : ∃ g3, w6.heap.size = g3 := ⟨_, rfl⟩
  rw [hx3] at hx hbx ⊢
  rw [hp3] at hx ⊢
  rw [hg3] at hx ⊢
  replace HT := hide (HT.out.below hbx)
  replace B := hide (bgo B.out hbx)
  replace P1 := hide (P1.out.below hbx)
  replace P2 := hide (P2.out.below hbx)
  have P3 := hide hx
  clear hx hbx hx3 hp3 hg3 hr hb Ra Rb
  go_cut [4, 5] from 8 (fun u4 u5 wx => ∃ p4, u4 = .pointer (some ⟨p4, 0, none⟩) ∧ u5 = .bool true ∧ Two wx p4 (.int .i64 1) (.int .i64 5) ∧ Below w.heap.size w wx ∧ HasT wx ∧ Bx wx p1 4 1 (-1) none (some ⟨g1, 0, none⟩) 0 0 1 1 plusR ∧ Bx wx p2 4 0 (-1) none (some ⟨g2, 0, none⟩) 0 0 1 1 starR ∧ Bx wx p3 3 0 0 none (some ⟨g3, 0, none⟩) 0 0 2 2 altR)
  case first =>
    obtain ⟨x, hx⟩ : ∃ x, x = x3 := ⟨_, rfl⟩
    subst hx
    have HK := hide (show ∀ X : World, Below x.heap.size x X → (X.cell? ⟨p1, 0, none⟩ = some (.int .i64 4) ∧ X.cell? ⟨p1, 1, none⟩ = some (.slice none 0 0) ∧ X.cell? ⟨p1, 2, none⟩ = some (.int .i64 1) ∧ X.cell? ⟨p1, 3, none⟩ = some (.int .i64 (-1)) ∧ X.cell? ⟨p1, 4, none⟩ = some (.slice (some ⟨g1, 0, none⟩) 1 1)) ∧ Below x.heap.size x X from fun X hb => by
      obtain ⟨-, t00, t01, t02, t03, t04⟩ := (P1.out.below hb).five
      exact ⟨⟨t00, t01, t02, t03, t04⟩, hb⟩)
    have HS0 := hide (bel_drew x)
    have hz0 := HS0.out.size
    have HKs := hide (show ∀ X Y : World, (X.cell? ⟨p1, 0, none⟩ = some (.int .i64 4) ∧ X.cell? ⟨p1, 1, none⟩ = some (.slice none 0 0) ∧ X.cell? ⟨p1, 2, none⟩ = some (.int .i64 1) ∧ X.cell? ⟨p1, 3, none⟩ = some (.int .i64 (-1)) ∧ X.cell? ⟨p1, 4, none⟩ = some (.slice (some ⟨g1, 0, none⟩) 1 1)) ∧ Below x.heap.size x X → Below X.heap.size X Y → (Y.cell? ⟨p1, 0, none⟩ = some (.int .i64 4) ∧ Y.cell? ⟨p1, 1, none⟩ = some (.slice none 0 0) ∧ Y.cell? ⟨p1, 2, none⟩ = some (.int .i64 1) ∧ Y.cell? ⟨p1, 3, none⟩ = some (.int .i64 (-1)) ∧ Y.cell? ⟨p1, 4, none⟩ = some (.slice (some ⟨g1, 0, none⟩) 1 1)) ∧ Below x.heap.size x Y from fun X Y h hb => HK.out Y (bgo h.2 hb))
    have HKset := hide (show ∀ (X : World) (pp : Nat) (a b : Value), (X.cell? ⟨p1, 0, none⟩ = some (.int .i64 4) ∧ X.cell? ⟨p1, 1, none⟩ = some (.slice none 0 0) ∧ X.cell? ⟨p1, 2, none⟩ = some (.int .i64 1) ∧ X.cell? ⟨p1, 3, none⟩ = some (.int .i64 (-1)) ∧ X.cell? ⟨p1, 4, none⟩ = some (.slice (some ⟨g1, 0, none⟩) 1 1)) ∧ Below x.heap.size x X → x.heap.size ≤ pp → (((X.setCell ⟨pp, 0, none⟩ a).setCell ⟨pp, 1, none⟩ b).cell? ⟨p1, 0, none⟩ = some (.int .i64 4) ∧ ((X.setCell ⟨pp, 0, none⟩ a).setCell ⟨pp, 1, none⟩ b).cell? ⟨p1, 1, none⟩ = some (.slice none 0 0) ∧ ((X.setCell ⟨pp, 0, none⟩ a).setCell ⟨pp, 1, none⟩ b).cell? ⟨p1, 2, none⟩ = some (.int .i64 1) ∧ ((X.setCell ⟨pp, 0, none⟩ a).setCell ⟨pp, 1, none⟩ b).cell? ⟨p1, 3, none⟩ = some (.int .i64 (-1)) ∧ ((X.setCell ⟨pp, 0, none⟩ a).setCell ⟨pp, 1, none⟩ b).cell? ⟨p1, 4, none⟩ = some (.slice (some ⟨g1, 0, none⟩) 1 1)) ∧ Below x.heap.size x ((X.setCell ⟨pp, 0, none⟩ a).setCell ⟨pp, 1, none⟩ b) from fun X pp a b h hp => HK.out _ ((h.2.setCell (show x.heap.size ≤ (⟨pp, 0, none⟩ : Addr).block from hp) a).setCell (show x.heap.size ≤ (⟨pp, 1, none⟩ : Addr).block from hp) b))
    have HKal := hide (show ∀ (X : World) (o o2 : Obj), ((X.alloc o).cell? ⟨p1, 0, none⟩ = some (.int .i64 4) ∧ (X.alloc o).cell? ⟨p1, 1, none⟩ = some (.slice none 0 0) ∧ (X.alloc o).cell? ⟨p1, 2, none⟩ = some (.int .i64 1) ∧ (X.alloc o).cell? ⟨p1, 3, none⟩ = some (.int .i64 (-1)) ∧ (X.alloc o).cell? ⟨p1, 4, none⟩ = some (.slice (some ⟨g1, 0, none⟩) 1 1)) ∧ Below x.heap.size x (X.alloc o) → x.heap.size ≤ X.heap.size → ((X.alloc o2).cell? ⟨p1, 0, none⟩ = some (.int .i64 4) ∧ (X.alloc o2).cell? ⟨p1, 1, none⟩ = some (.slice none 0 0) ∧ (X.alloc o2).cell? ⟨p1, 2, none⟩ = some (.int .i64 1) ∧ (X.alloc o2).cell? ⟨p1, 3, none⟩ = some (.int .i64 (-1)) ∧ (X.alloc o2).cell? ⟨p1, 4, none⟩ = some (.slice (some ⟨g1, 0, none⟩) 1 1)) ∧ Below x.heap.size x (X.alloc o2) from fun X o o2 h hp => HK.out _ (below_realloc h.2 hp))
    have HKb := hide (show ∀ X : World, (X.cell? ⟨p1, 0, none⟩ = some (.int .i64 4) ∧ X.cell? ⟨p1, 1, none⟩ = some (.slice none 0 0) ∧ X.cell? ⟨p1, 2, none⟩ = some (.int .i64 1) ∧ X.cell? ⟨p1, 3, none⟩ = some (.int .i64 (-1)) ∧ X.cell? ⟨p1, 4, none⟩ = some (.slice (some ⟨g1, 0, none⟩) 1 1)) ∧ Below x.heap.size x X → Below x.heap.size x X from fun X h => h.2)
    have HTa := hide (show ∀ X : World, (X.cell? ⟨p1, 0, none⟩ = some (.int .i64 4) ∧ X.cell? ⟨p1, 1, none⟩ = some (.slice none 0 0) ∧ X.cell? ⟨p1, 2, none⟩ = some (.int .i64 1) ∧ X.cell? ⟨p1, 3, none⟩ = some (.int .i64 (-1)) ∧ X.cell? ⟨p1, 4, none⟩ = some (.slice (some ⟨g1, 0, none⟩) 1 1)) ∧ Below x.heap.size x X → HasT X from fun X h => HT.out.below h.2)
    go_region_held3 (fun w' => (w'.cell? ⟨p1, 0, none⟩ = some (.int .i64 4) ∧ w'.cell? ⟨p1, 1, none⟩ = some (.slice none 0 0) ∧ w'.cell? ⟨p1, 2, none⟩ = some (.int .i64 1) ∧ w'.cell? ⟨p1, 3, none⟩ = some (.int .i64 (-1)) ∧ w'.cell? ⟨p1, 4, none⟩ = some (.slice (some ⟨g1, 0, none⟩) 1 1)) ∧ Below x.heap.size x w')
      (first | exact HK.out _ HS0.out | exact HKs.out _ _ (by assumption) hb4 | exact HKs.out _ _ (by assumption) (bel_alloc _ _) | exact HKset.out _ _ _ _ (by assumption) (by (try simp only [World.size_alloc] at *); omega) | exact HKal.out _ _ _ (by assumption) (by (try simp only [World.size_alloc] at *); omega))
      (first
        | (go_at_call 26; (with_reducible refine (H97.out _).mono ?_); rintro e w6 ⟨l0, l1, l2, lA, lB, ln, lc, lm, ld, rfl, hrl, hb4⟩; (first | have hrp := P1.out.rx.kept (bgo HS0.out hb4) | have hrp := (P1.out.rx.kept (bgo HS0.out (bel_alloc _ _))).kept hb4); (try have hz := hb4.size); (try (first | have TW := TW.keep hb4 | have TW := TW.under hb4)); (try (first | have TW := twoF_drew hb4 | have TW := twoF_over hb4 | have TW := twoF_under hb4)); (try simp only [World.size_alloc] at TW); (try (have tc0 := TW.1.2.1; have tc1 := TW.1.2.2; have tf0 := TW.2.1; have tf1 := TW.2.2)))
        | (go_at_call 26; (with_reducible refine (H99.out _).mono ?_); rintro e w7 ⟨m0, m1, m2, mA, mB, mn, mc, mm, md, rfl, hrm, hb4⟩; (first | have hrl := hrl.kept hb4 | have hrl := (hrl.kept (bel_alloc _ _)).kept hb4); (first | have hrp := hrp.kept hb4 | have hrp := (hrp.kept (bel_alloc _ _)).kept hb4); (try have hz := hb4.size); (try (first | have TW := TW.keep hb4 | have TW := TW.under hb4)); (try (first | have TW := twoF_drew hb4 | have TW := twoF_over hb4 | have TW := twoF_under hb4)); (try simp only [World.size_alloc] at TW); (try (have tc0 := TW.1.2.1; have tc1 := TW.1.2.2; have tf0 := TW.2.1; have tf1 := TW.2.2)))
        | (go_at_call 23; (with_reducible refine (HC.out _ _ _ [oneR 97, plusR, oneR 99] _ ?_).mono ?_); (first | exact els3p hrl hrp hrm rfl | exact (els3p hrl hrp hrm rfl).below (bel_alloc _ _) | exact els3p (hrl.kept (bel_alloc _ _)) (hrp.kept (bel_alloc _ _)) (hrm.kept (bel_alloc _ _)) (World.size_alloc _ _)); rintro e w8 ⟨n0, n1, n2, nA, nB, nn, nc, nm, nd, rfl, hrn, hb4⟩; (try have hz := hb4.size); (try (first | have TW := TW.keep hb4 | have TW := TW.under hb4)); (try (first | have TW := twoF_drew hb4 | have TW := twoF_over hb4 | have TW := twoF_under hb4)); (try simp only [World.size_alloc] at TW); (try (have tc0 := TW.1.2.1; have tc1 := TW.1.2.2; have tf0 := TW.2.1; have tf1 := TW.2.2)))
        | (go_at_call 14; (with_reducible refine (F1.out _ _ ?_ (HTa.out _ ?_)).mono ?_); (first | exact hrn | exact hrn.kept (bel_alloc _ _)); assumption; rintro e w9 ⟨rfl, hb4⟩; (try have hz := hb4.size); (try (first | have TW := TW.keep hb4 | have TW := TW.under hb4)); (try (first | have TW := twoF_drew hb4 | have TW := twoF_over hb4 | have TW := twoF_under hb4)); (try simp only [World.size_alloc] at TW); (try (have tc0 := TW.1.2.1; have tc1 := TW.1.2.2; have tf0 := TW.2.1; have tf1 := TW.2.2))))
    all_goals
      have hX := HKb.out _ (by assumption)
      go_wp2_with fail
      go_meet
      first
      | exact ⟨_, rfl, rfl, two_alloc _ _ _ _, bgo B.out hX, HT.out.below hX, P1.out.below hX, P2.out.below hX, P3.out.below hX⟩
      | exact ⟨_, rfl, rfl, (TW.put _ _).1, bgo B.out hX, HT.out.below hX, P1.out.below hX, P2.out.below hX, P3.out.below hX⟩
  case rest =>
    clear B HT P1 P2 P3 H98
    obtain ⟨p4, rfl, rfl, hT4, hB, hHT, hP1, hP2, hP3⟩ := hcut
    have T4 := hide hT4
    have B := hide hB
    have HT := hide hHT
    have P1 := hide hP1
    have P2 := hide hP2
    have P3 := hide hP3
    clear hT4 hB hHT hP1 hP2 hP3
    go_upto_region 5 with fail
    obtain ⟨x, hx⟩ : ∃ x, x = wc := ⟨_, rfl⟩
    subst hx
    have HK := hide (show ∀ X : World, Below x.heap.size x X → (X.cell? ⟨p1, 0, none⟩ = some (.int .i64 4) ∧ X.cell? ⟨p1, 1, none⟩ = some (.slice none 0 0) ∧ X.cell? ⟨p1, 2, none⟩ = some (.int .i64 1) ∧ X.cell? ⟨p1, 3, none⟩ = some (.int .i64 (-1)) ∧ X.cell? ⟨p1, 4, none⟩ = some (.slice (some ⟨g1, 0, none⟩) 1 1) ∧ X.cell? ⟨p4, 0, none⟩ = some (.int .i64 1) ∧ X.cell? ⟨p4, 1, none⟩ = some (.int .i64 5)) ∧ Below x.heap.size x X from fun X hb => by
      obtain ⟨-, t00, t01, t02, t03, t04⟩ := (P1.out.below hb).five
      obtain ⟨-, r00, r01⟩ := T4.out.keep hb
      exact ⟨⟨t00, t01, t02, t03, t04, r00, r01⟩, hb⟩)
    have HS0 := hide (bel_drew x)
    have hz0 := HS0.out.size
    have HKs := hide (show ∀ X Y : World, (X.cell? ⟨p1, 0, none⟩ = some (.int .i64 4) ∧ X.cell? ⟨p1, 1, none⟩ = some (.slice none 0 0) ∧ X.cell? ⟨p1, 2, none⟩ = some (.int .i64 1) ∧ X.cell? ⟨p1, 3, none⟩ = some (.int .i64 (-1)) ∧ X.cell? ⟨p1, 4, none⟩ = some (.slice (some ⟨g1, 0, none⟩) 1 1) ∧ X.cell? ⟨p4, 0, none⟩ = some (.int .i64 1) ∧ X.cell? ⟨p4, 1, none⟩ = some (.int .i64 5)) ∧ Below x.heap.size x X → Below X.heap.size X Y → (Y.cell? ⟨p1, 0, none⟩ = some (.int .i64 4) ∧ Y.cell? ⟨p1, 1, none⟩ = some (.slice none 0 0) ∧ Y.cell? ⟨p1, 2, none⟩ = some (.int .i64 1) ∧ Y.cell? ⟨p1, 3, none⟩ = some (.int .i64 (-1)) ∧ Y.cell? ⟨p1, 4, none⟩ = some (.slice (some ⟨g1, 0, none⟩) 1 1) ∧ Y.cell? ⟨p4, 0, none⟩ = some (.int .i64 1) ∧ Y.cell? ⟨p4, 1, none⟩ = some (.int .i64 5)) ∧ Below x.heap.size x Y from fun X Y h hb => HK.out Y (bgo h.2 hb))
    have HKset := hide (show ∀ (X : World) (pp : Nat) (a b : Value), (X.cell? ⟨p1, 0, none⟩ = some (.int .i64 4) ∧ X.cell? ⟨p1, 1, none⟩ = some (.slice none 0 0) ∧ X.cell? ⟨p1, 2, none⟩ = some (.int .i64 1) ∧ X.cell? ⟨p1, 3, none⟩ = some (.int .i64 (-1)) ∧ X.cell? ⟨p1, 4, none⟩ = some (.slice (some ⟨g1, 0, none⟩) 1 1) ∧ X.cell? ⟨p4, 0, none⟩ = some (.int .i64 1) ∧ X.cell? ⟨p4, 1, none⟩ = some (.int .i64 5)) ∧ Below x.heap.size x X → x.heap.size ≤ pp → (((X.setCell ⟨pp, 0, none⟩ a).setCell ⟨pp, 1, none⟩ b).cell? ⟨p1, 0, none⟩ = some (.int .i64 4) ∧ ((X.setCell ⟨pp, 0, none⟩ a).setCell ⟨pp, 1, none⟩ b).cell? ⟨p1, 1, none⟩ = some (.slice none 0 0) ∧ ((X.setCell ⟨pp, 0, none⟩ a).setCell ⟨pp, 1, none⟩ b).cell? ⟨p1, 2, none⟩ = some (.int .i64 1) ∧ ((X.setCell ⟨pp, 0, none⟩ a).setCell ⟨pp, 1, none⟩ b).cell? ⟨p1, 3, none⟩ = some (.int .i64 (-1)) ∧ ((X.setCell ⟨pp, 0, none⟩ a).setCell ⟨pp, 1, none⟩ b).cell? ⟨p1, 4, none⟩ = some (.slice (some ⟨g1, 0, none⟩) 1 1) ∧ ((X.setCell ⟨pp, 0, none⟩ a).setCell ⟨pp, 1, none⟩ b).cell? ⟨p4, 0, none⟩ = some (.int .i64 1) ∧ ((X.setCell ⟨pp, 0, none⟩ a).setCell ⟨pp, 1, none⟩ b).cell? ⟨p4, 1, none⟩ = some (.int .i64 5)) ∧ Below x.heap.size x ((X.setCell ⟨pp, 0, none⟩ a).setCell ⟨pp, 1, none⟩ b) from fun X pp a b h hp => HK.out _ ((h.2.setCell (show x.heap.size ≤ (⟨pp, 0, none⟩ : Addr).block from hp) a).setCell (show x.heap.size ≤ (⟨pp, 1, none⟩ : Addr).block from hp) b))
    have HKal := hide (show ∀ (X : World) (o o2 : Obj), ((X.alloc o).cell? ⟨p1, 0, none⟩ = some (.int .i64 4) ∧ (X.alloc o).cell? ⟨p1, 1, none⟩ = some (.slice none 0 0) ∧ (X.alloc o).cell? ⟨p1, 2, none⟩ = some (.int .i64 1) ∧ (X.alloc o).cell? ⟨p1, 3, none⟩ = some (.int .i64 (-1)) ∧ (X.alloc o).cell? ⟨p1, 4, none⟩ = some (.slice (some ⟨g1, 0, none⟩) 1 1) ∧ (X.alloc o).cell? ⟨p4, 0, none⟩ = some (.int .i64 1) ∧ (X.alloc o).cell? ⟨p4, 1, none⟩ = some (.int .i64 5)) ∧ Below x.heap.size x (X.alloc o) → x.heap.size ≤ X.heap.size → ((X.alloc o2).cell? ⟨p1, 0, none⟩ = some (.int .i64 4) ∧ (X.alloc o2).cell? ⟨p1, 1, none⟩ = some (.slice none 0 0) ∧ (X.alloc o2).cell? ⟨p1, 2, none⟩ = some (.int .i64 1) ∧ (X.alloc o2).cell? ⟨p1, 3, none⟩ = some (.int .i64 (-1)) ∧ (X.alloc o2).cell? ⟨p1, 4, none⟩ = some (.slice (some ⟨g1, 0, none⟩) 1 1) ∧ (X.alloc o2).cell? ⟨p4, 0, none⟩ = some (.int .i64 1) ∧ (X.alloc o2).cell? ⟨p4, 1, none⟩ = some (.int .i64 5)) ∧ Below x.heap.size x (X.alloc o2) from fun X o o2 h hp => HK.out _ (below_realloc h.2 hp))
    have HKb := hide (show ∀ X : World, (X.cell? ⟨p1, 0, none⟩ = some (.int .i64 4) ∧ X.cell? ⟨p1, 1, none⟩ = some (.slice none 0 0) ∧ X.cell? ⟨p1, 2, none⟩ = some (.int .i64 1) ∧ X.cell? ⟨p1, 3, none⟩ = some (.int .i64 (-1)) ∧ X.cell? ⟨p1, 4, none⟩ = some (.slice (some ⟨g1, 0, none⟩) 1 1) ∧ X.cell? ⟨p4, 0, none⟩ = some (.int .i64 1) ∧ X.cell? ⟨p4, 1, none⟩ = some (.int .i64 5)) ∧ Below x.heap.size x X → Below x.heap.size x X from fun X h => h.2)
    have HTa := hide (show ∀ X : World, (X.cell? ⟨p1, 0, none⟩ = some (.int .i64 4) ∧ X.cell? ⟨p1, 1, none⟩ = some (.slice none 0 0) ∧ X.cell? ⟨p1, 2, none⟩ = some (.int .i64 1) ∧ X.cell? ⟨p1, 3, none⟩ = some (.int .i64 (-1)) ∧ X.cell? ⟨p1, 4, none⟩ = some (.slice (some ⟨g1, 0, none⟩) 1 1) ∧ X.cell? ⟨p4, 0, none⟩ = some (.int .i64 1) ∧ X.cell? ⟨p4, 1, none⟩ = some (.int .i64 5)) ∧ Below x.heap.size x X → HasT X from fun X h => HT.out.below h.2)
    go_region_held3 (fun w' => (w'.cell? ⟨p1, 0, none⟩ = some (.int .i64 4) ∧ w'.cell? ⟨p1, 1, none⟩ = some (.slice none 0 0) ∧ w'.cell? ⟨p1, 2, none⟩ = some (.int .i64 1) ∧ w'.cell? ⟨p1, 3, none⟩ = some (.int .i64 (-1)) ∧ w'.cell? ⟨p1, 4, none⟩ = some (.slice (some ⟨g1, 0, none⟩) 1 1) ∧ w'.cell? ⟨p4, 0, none⟩ = some (.int .i64 1) ∧ w'.cell? ⟨p4, 1, none⟩ = some (.int .i64 5)) ∧ Below x.heap.size x w')
      (first | exact HK.out _ HS0.out | exact HKs.out _ _ (by assumption) hb4 | exact HKs.out _ _ (by assumption) (bel_alloc _ _))
      (first
        | (go_at_call 26; (with_reducible refine (H97.out _).mono ?_); rintro e w6 ⟨l0, l1, l2, lA, lB, ln, lc, lm, ld, rfl, hrl, hb4⟩; have hrp := P1.out.rx.kept (bgo HS0.out hb4))
        | (go_at_call 26; (with_reducible refine (H99.out _).mono ?_); rintro e w7 ⟨m0, m1, m2, mA, mB, mn, mc, mm, md, rfl, hrm, hb4⟩; (first | have hrl := hrl.kept hb4 | have hrl := (hrl.kept (bel_alloc _ _)).kept hb4); (first | have hrp := hrp.kept hb4 | have hrp := (hrp.kept (bel_alloc _ _)).kept hb4))
        | (go_at_call 23; (with_reducible refine (HC.out _ _ _ [oneR 97, plusR, oneR 99] _ ?_).mono ?_); (first | exact els3p hrl hrp hrm rfl | exact (els3p hrl hrp hrm rfl).below (bel_alloc _ _) | exact els3p (hrl.kept (bel_alloc _ _)) (hrp.kept (bel_alloc _ _)) (hrm.kept (bel_alloc _ _)) (World.size_alloc _ _)); rintro e w8 ⟨n0, n1, n2, nA, nB, nn, nc, nm, nd, rfl, hrn, hb4⟩)
        | (go_at_call 12; (with_reducible refine (E2.out _ _ hrn (HTa.out _ ?_)).mono ?_); assumption; rintro e w9 ⟨AE, cE, rfl, hb4⟩))
    have hX := HKb.out _ (by assumption)
    clear HK HS0 hz0 HKs HKset HKal HKb HTa T4 E2 F1 H99 hrl hrm hrp hrn hb4
    replace HT := hide (HT.out.below hX)
    replace B := hide (bgo B.out hX)
    replace P1 := hide (P1.out.below hX)
    replace P2 := hide (P2.out.below hX)
    replace P3 := hide (P3.out.below hX)
    clear hX
    obtain ⟨-, t0, t1, t2, t3, t4⟩ := P2.out.five
    go_wp2_with fail
    with_reducible refine (A3.out _ _ P2.out.rx HT.out).mono ?_
    rintro e w21 ⟨AA, cA2, rfl, hsA, hb⟩
    replace HT := hide (HT.out.below hb)
    replace B := hide (bgo B.out hb)
    replace P1 := hide (P1.out.below hb)
    replace P2 := hide (P2.out.below hb)
    replace P3 := hide (P3.out.below hb)
    have hsB := sls3 w21 0 2 2 2 3 3
    have hbx := bel_alloc w21 (.cells #[.int .i64 0, .int .i64 2, .int .i64 2, .int .i64 2, .int .i64 3, .int .i64 3] 32)
    replace HT := hide (HT.out.below hbx)
    replace B := hide (bgo B.out hbx)
    replace P1 := hide (P1.out.below hbx)
    replace P2 := hide (P2.out.below hbx)
    replace P3 := hide (P3.out.below hbx)
    have hsA := hsA.below hbx
    clear hb t0 t1 t2 t3 t4
    obtain ⟨-, t0, t1, t2, t3, t4⟩ := P3.out.five
    go_wp2_with fail
    with_reducible refine (S3.out _ _ _ _ _ hsA hsB).mono ?_
    rintro e w22 ⟨rfl, hb⟩
    replace HT := hide (HT.out.below hb)
    replace B := hide (bgo B.out hb)
    replace P1 := hide (P1.out.below hb)
    replace P2 := hide (P2.out.below hb)
    replace P3 := hide (P3.out.below hb)
    clear hb hbx hsA hsB A3 S3 t0 t1 t2 t3 t4
    obtain ⟨-, t0, t1, t2, t3, t4⟩ := P3.out.five
    go_wp2_with fail
    with_reducible refine (A4.out _ _ P3.out.rx HT.out).mono ?_
    rintro e w23 ⟨AB, cB2, rfl, hsA, hb⟩
    replace HT := hide (HT.out.below hb)
    replace B := hide (bgo B.out hb)
    replace P1 := hide (P1.out.below hb)
    replace P2 := hide (P2.out.below hb)
    replace P3 := hide (P3.out.below hb)
    have hsB := sls2 w23 0 2 2 4
    have hbx := bel_alloc w23 (.cells #[.int .i64 0, .int .i64 2, .int .i64 2, .int .i64 4] 32)
    replace HT := hide (HT.out.below hbx)
    replace B := hide (bgo B.out hbx)
    replace P1 := hide (P1.out.below hbx)
    replace P2 := hide (P2.out.below hbx)
    replace P3 := hide (P3.out.below hbx)
    have hsA := hsA.below hbx
    clear hb t0 t1 t2 t3 t4
    go_wp2_with fail
    with_reducible refine (S2.out _ _ _ _ _ hsA hsB).mono ?_
    rintro e w24 ⟨rfl, hb⟩
    replace HT := hide (HT.out.below hb)
    replace B := hide (bgo B.out hb)
    replace P1 := hide (P1.out.below hb)
    replace P2 := hide (P2.out.below hb)
    replace P3 := hide (P3.out.below hb)
    clear hb hbx hsA hsB A4 S2
    go_upto_region 10 with fail
    have hx := bx_new (w := w24) (q0 := 7) (q1 := 0) (q2 := 0) (qA := none) (qB := none) (qn := 0) (qc := 0) (qm := 0) (qd := 0) (r := boundR) (rxv_kind 7 (by omega))
    have hbx := bel_alloc w24 (.cells #[.int .i64 7, .slice none 0 0, .int .i64 0, .int .i64 0, .slice none 0 0] 25)
    obtain ⟨x6, hx6⟩ : ∃ x6, w24.alloc (.cells #[.int .i64 7, .slice none 0 0, .int .i64 0, .int .i64 0, .slice none 0 0] 25) = x6 := ⟨_, rfl⟩
    obtain ⟨p6, hp6⟩ : ∃ p6, w24.heap.size = p6 := ⟨_, rfl⟩
    rw [hx6] at hx hbx ⊢
    rw [hp6] at hx ⊢
    replace HT := hide (HT.out.below hbx)
    replace B := hide (bgo B.out hbx)
    replace P2 := hide (P2.out.below hbx)
    have P6 := hide hx
    clear hx hbx hx6 hp6 P1 P3
    have H98 := hide (set26' 98 98 rfl)
    go_wp2_with fail
    with_reducible refine (H98.out _).mono ?_
    rintro e w25 ⟨f0, f1, f2, fA, fB, fn, fc, fm, fd, rfl, hr, hb⟩
    replace HT := hide (HT.out.below hb)
    replace B := hide (bgo B.out hb)
    replace P2 := hide (P2.out.below hb)
    replace P6 := hide (P6.out.below hb)
    have hE := els2 w25 _ _ _ _ _ _ _ _ _ _ (.mk 5 [] 0 0 []) _ (rxv_kind 5 (by omega)) hr
    have hbx := bel_alloc w25 (.cells #[.int .i64 5, .slice none 0 0, .int .i64 0, .int .i64 0, .slice none 0 0, .int .i64 f0, .slice fA fn fc, .int .i64 f1, .int .i64 f2, .slice fB fm fd] 25)
    replace HT := hide (HT.out.below hbx)
    replace B := hide (bgo B.out hbx)
    replace P2 := hide (P2.out.below hbx)
    replace P6 := hide (P6.out.below hbx)
    clear hb hr
    go_wp2_with fail
    with_reducible refine (HC.out _ _ _ _ _ hE).mono ?_
    rintro e w26 ⟨h0, h1, h2, hA, hB, hn, hc, hm, hd, rfl, hr, hb⟩
    replace HT := hide (HT.out.below hb)
    replace B := hide (bgo B.out hb)
    replace P2 := hide (P2.out.below hb)
    replace P6 := hide (P6.out.below hb)
    clear hE hbx hb
    go_wp2_with fail
    with_reducible refine (F5.out _ _ hr HT.out).mono ?_
    rintro e w27 ⟨rfl, hb⟩
    replace HT := hide (HT.out.below hb)
    replace B := hide (bgo B.out hb)
    replace P2 := hide (P2.out.below hb)
    replace P6 := hide (P6.out.below hb)
    clear hr
    have hbx := bel_alloc w27 (.cells #[.int .i64 2, .int .i64 3] 32)
    have T7 := hide (two_alloc w27 (.int .i64 2) (.int .i64 3) 32)
    go_upto_region 11 with fail
    obtain ⟨x7, hx7⟩ : ∃ x7, w27.alloc (.cells #[.int .i64 2, .int .i64 3] 32) = x7 := ⟨_, rfl⟩
    obtain ⟨p7, hp7⟩ : ∃ p7, w27.heap.size = p7 := ⟨_, rfl⟩
    rw [hx7] at hbx T7 ⊢
    rw [hp7] at T7 ⊢
    replace HT := hide (HT.out.below hbx)
    replace B := hide (bgo B.out hbx)
    replace P2 := hide (P2.out.below hbx)
    replace P6 := hide (P6.out.below hbx)
    clear hbx hx7 hp7 hb F5 H98 H97
    obtain ⟨x, hx⟩ : ∃ x, x = x7 := ⟨_, rfl⟩
    subst hx
    have HK := hide (show ∀ X : World, Below x.heap.size x X → (X.cell? ⟨p2, 0, none⟩ = some (.int .i64 4) ∧ X.cell? ⟨p2, 1, none⟩ = some (.slice none 0 0) ∧ X.cell? ⟨p2, 2, none⟩ = some (.int .i64 0) ∧ X.cell? ⟨p2, 3, none⟩ = some (.int .i64 (-1)) ∧ X.cell? ⟨p2, 4, none⟩ = some (.slice (some ⟨g2, 0, none⟩) 1 1) ∧ X.cell? ⟨p6, 0, none⟩ = some (.int .i64 7) ∧ X.cell? ⟨p6, 1, none⟩ = some (.slice none 0 0) ∧ X.cell? ⟨p6, 2, none⟩ = some (.int .i64 0) ∧ X.cell? ⟨p6, 3, none⟩ = some (.int .i64 0) ∧ X.cell? ⟨p6, 4, none⟩ = some (.slice none 0 0) ∧ X.cell? ⟨p7, 0, none⟩ = some (.int .i64 2) ∧ X.cell? ⟨p7, 1, none⟩ = some (.int .i64 3)) ∧ Below x.heap.size x X from fun X hb => by
      obtain ⟨-, t00, t01, t02, t03, t04⟩ := (P2.out.below hb).five
      obtain ⟨-, t10, t11, t12, t13, t14⟩ := (P6.out.below hb).five
      obtain ⟨-, r00, r01⟩ := T7.out.keep hb
      exact ⟨⟨t00, t01, t02, t03, t04, t10, t11, t12, t13, t14, r00, r01⟩, hb⟩)
    have HS0 := hide (bel_drew x)
    have hz0 := HS0.out.size
    have HKs := hide (show ∀ X Y : World, (X.cell? ⟨p2, 0, none⟩ = some (.int .i64 4) ∧ X.cell? ⟨p2, 1, none⟩ = some (.slice none 0 0) ∧ X.cell? ⟨p2, 2, none⟩ = some (.int .i64 0) ∧ X.cell? ⟨p2, 3, none⟩ = some (.int .i64 (-1)) ∧ X.cell? ⟨p2, 4, none⟩ = some (.slice (some ⟨g2, 0, none⟩) 1 1) ∧ X.cell? ⟨p6, 0, none⟩ = some (.int .i64 7) ∧ X.cell? ⟨p6, 1, none⟩ = some (.slice none 0 0) ∧ X.cell? ⟨p6, 2, none⟩ = some (.int .i64 0) ∧ X.cell? ⟨p6, 3, none⟩ = some (.int .i64 0) ∧ X.cell? ⟨p6, 4, none⟩ = some (.slice none 0 0) ∧ X.cell? ⟨p7, 0, none⟩ = some (.int .i64 2) ∧ X.cell? ⟨p7, 1, none⟩ = some (.int .i64 3)) ∧ Below x.heap.size x X → Below X.heap.size X Y → (Y.cell? ⟨p2, 0, none⟩ = some (.int .i64 4) ∧ Y.cell? ⟨p2, 1, none⟩ = some (.slice none 0 0) ∧ Y.cell? ⟨p2, 2, none⟩ = some (.int .i64 0) ∧ Y.cell? ⟨p2, 3, none⟩ = some (.int .i64 (-1)) ∧ Y.cell? ⟨p2, 4, none⟩ = some (.slice (some ⟨g2, 0, none⟩) 1 1) ∧ Y.cell? ⟨p6, 0, none⟩ = some (.int .i64 7) ∧ Y.cell? ⟨p6, 1, none⟩ = some (.slice none 0 0) ∧ Y.cell? ⟨p6, 2, none⟩ = some (.int .i64 0) ∧ Y.cell? ⟨p6, 3, none⟩ = some (.int .i64 0) ∧ Y.cell? ⟨p6, 4, none⟩ = some (.slice none 0 0) ∧ Y.cell? ⟨p7, 0, none⟩ = some (.int .i64 2) ∧ Y.cell? ⟨p7, 1, none⟩ = some (.int .i64 3)) ∧ Below x.heap.size x Y from fun X Y h hb => HK.out Y (bgo h.2 hb))
    have HKset := hide (show ∀ (X : World) (pp : Nat) (a b : Value), (X.cell? ⟨p2, 0, none⟩ = some (.int .i64 4) ∧ X.cell? ⟨p2, 1, none⟩ = some (.slice none 0 0) ∧ X.cell? ⟨p2, 2, none⟩ = some (.int .i64 0) ∧ X.cell? ⟨p2, 3, none⟩ = some (.int .i64 (-1)) ∧ X.cell? ⟨p2, 4, none⟩ = some (.slice (some ⟨g2, 0, none⟩) 1 1) ∧ X.cell? ⟨p6, 0, none⟩ = some (.int .i64 7) ∧ X.cell? ⟨p6, 1, none⟩ = some (.slice none 0 0) ∧ X.cell? ⟨p6, 2, none⟩ = some (.int .i64 0) ∧ X.cell? ⟨p6, 3, none⟩ = some (.int .i64 0) ∧ X.cell? ⟨p6, 4, none⟩ = some (.slice none 0 0) ∧ X.cell? ⟨p7, 0, none⟩ = some (.int .i64 2) ∧ X.cell? ⟨p7, 1, none⟩ = some (.int .i64 3)) ∧ Below x.heap.size x X → x.heap.size ≤ pp → (((X.setCell ⟨pp, 0, none⟩ a).setCell ⟨pp, 1, none⟩ b).cell? ⟨p2, 0, none⟩ = some (.int .i64 4) ∧ ((X.setCell ⟨pp, 0, none⟩ a).setCell ⟨pp, 1, none⟩ b).cell? ⟨p2, 1, none⟩ = some (.slice none 0 0) ∧ ((X.setCell ⟨pp, 0, none⟩ a).setCell ⟨pp, 1, none⟩ b).cell? ⟨p2, 2, none⟩ = some (.int .i64 0) ∧ ((X.setCell ⟨pp, 0, none⟩ a).setCell ⟨pp, 1, none⟩ b).cell? ⟨p2, 3, none⟩ = some (.int .i64 (-1)) ∧ ((X.setCell ⟨pp, 0, none⟩ a).setCell ⟨pp, 1, none⟩ b).cell? ⟨p2, 4, none⟩ = some (.slice (some ⟨g2, 0, none⟩) 1 1) ∧ ((X.setCell ⟨pp, 0, none⟩ a).setCell ⟨pp, 1, none⟩ b).cell? ⟨p6, 0, none⟩ = some (.int .i64 7) ∧ ((X.setCell ⟨pp, 0, none⟩ a).setCell ⟨pp, 1, none⟩ b).cell? ⟨p6, 1, none⟩ = some (.slice none 0 0) ∧ ((X.setCell ⟨pp, 0, none⟩ a).setCell ⟨pp, 1, none⟩ b).cell? ⟨p6, 2, none⟩ = some (.int .i64 0) ∧ ((X.setCell ⟨pp, 0, none⟩ a).setCell ⟨pp, 1, none⟩ b).cell? ⟨p6, 3, none⟩ = some (.int .i64 0) ∧ ((X.setCell ⟨pp, 0, none⟩ a).setCell ⟨pp, 1, none⟩ b).cell? ⟨p6, 4, none⟩ = some (.slice none 0 0) ∧ ((X.setCell ⟨pp, 0, none⟩ a).setCell ⟨pp, 1, none⟩ b).cell? ⟨p7, 0, none⟩ = some (.int .i64 2) ∧ ((X.setCell ⟨pp, 0, none⟩ a).setCell ⟨pp, 1, none⟩ b).cell? ⟨p7, 1, none⟩ = some (.int .i64 3)) ∧ Below x.heap.size x ((X.setCell ⟨pp, 0, none⟩ a).setCell ⟨pp, 1, none⟩ b) from fun X pp a b h hp => HK.out _ ((h.2.setCell (show x.heap.size ≤ (⟨pp, 0, none⟩ : Addr).block from hp) a).setCell (show x.heap.size ≤ (⟨pp, 1, none⟩ : Addr).block from hp) b))
    have HKal := hide (show ∀ (X : World) (o o2 : Obj), ((X.alloc o).cell? ⟨p2, 0, none⟩ = some (.int .i64 4) ∧ (X.alloc o).cell? ⟨p2, 1, none⟩ = some (.slice none 0 0) ∧ (X.alloc o).cell? ⟨p2, 2, none⟩ = some (.int .i64 0) ∧ (X.alloc o).cell? ⟨p2, 3, none⟩ = some (.int .i64 (-1)) ∧ (X.alloc o).cell? ⟨p2, 4, none⟩ = some (.slice (some ⟨g2, 0, none⟩) 1 1) ∧ (X.alloc o).cell? ⟨p6, 0, none⟩ = some (.int .i64 7) ∧ (X.alloc o).cell? ⟨p6, 1, none⟩ = some (.slice none 0 0) ∧ (X.alloc o).cell? ⟨p6, 2, none⟩ = some (.int .i64 0) ∧ (X.alloc o).cell? ⟨p6, 3, none⟩ = some (.int .i64 0) ∧ (X.alloc o).cell? ⟨p6, 4, none⟩ = some (.slice none 0 0) ∧ (X.alloc o).cell? ⟨p7, 0, none⟩ = some (.int .i64 2) ∧ (X.alloc o).cell? ⟨p7, 1, none⟩ = some (.int .i64 3)) ∧ Below x.heap.size x (X.alloc o) → x.heap.size ≤ X.heap.size → ((X.alloc o2).cell? ⟨p2, 0, none⟩ = some (.int .i64 4) ∧ (X.alloc o2).cell? ⟨p2, 1, none⟩ = some (.slice none 0 0) ∧ (X.alloc o2).cell? ⟨p2, 2, none⟩ = some (.int .i64 0) ∧ (X.alloc o2).cell? ⟨p2, 3, none⟩ = some (.int .i64 (-1)) ∧ (X.alloc o2).cell? ⟨p2, 4, none⟩ = some (.slice (some ⟨g2, 0, none⟩) 1 1) ∧ (X.alloc o2).cell? ⟨p6, 0, none⟩ = some (.int .i64 7) ∧ (X.alloc o2).cell? ⟨p6, 1, none⟩ = some (.slice none 0 0) ∧ (X.alloc o2).cell? ⟨p6, 2, none⟩ = some (.int .i64 0) ∧ (X.alloc o2).cell? ⟨p6, 3, none⟩ = some (.int .i64 0) ∧ (X.alloc o2).cell? ⟨p6, 4, none⟩ = some (.slice none 0 0) ∧ (X.alloc o2).cell? ⟨p7, 0, none⟩ = some (.int .i64 2) ∧ (X.alloc o2).cell? ⟨p7, 1, none⟩ = some (.int .i64 3)) ∧ Below x.heap.size x (X.alloc o2) from fun X o o2 h hp => HK.out _ (below_realloc h.2 hp))
    have HKb := hide (show ∀ X : World, (X.cell? ⟨p2, 0, none⟩ = some (.int .i64 4) ∧ X.cell? ⟨p2, 1, none⟩ = some (.slice none 0 0) ∧ X.cell? ⟨p2, 2, none⟩ = some (.int .i64 0) ∧ X.cell? ⟨p2, 3, none⟩ = some (.int .i64 (-1)) ∧ X.cell? ⟨p2, 4, none⟩ = some (.slice (some ⟨g2, 0, none⟩) 1 1) ∧ X.cell? ⟨p6, 0, none⟩ = some (.int .i64 7) ∧ X.cell? ⟨p6, 1, none⟩ = some (.slice none 0 0) ∧ X.cell? ⟨p6, 2, none⟩ = some (.int .i64 0) ∧ X.cell? ⟨p6, 3, none⟩ = some (.int .i64 0) ∧ X.cell? ⟨p6, 4, none⟩ = some (.slice none 0 0) ∧ X.cell? ⟨p7, 0, none⟩ = some (.int .i64 2) ∧ X.cell? ⟨p7, 1, none⟩ = some (.int .i64 3)) ∧ Below x.heap.size x X → Below x.heap.size x X from fun X h => h.2)
    have HTa := hide (show ∀ X : World, (X.cell? ⟨p2, 0, none⟩ = some (.int .i64 4) ∧ X.cell? ⟨p2, 1, none⟩ = some (.slice none 0 0) ∧ X.cell? ⟨p2, 2, none⟩ = some (.int .i64 0) ∧ X.cell? ⟨p2, 3, none⟩ = some (.int .i64 (-1)) ∧ X.cell? ⟨p2, 4, none⟩ = some (.slice (some ⟨g2, 0, none⟩) 1 1) ∧ X.cell? ⟨p6, 0, none⟩ = some (.int .i64 7) ∧ X.cell? ⟨p6, 1, none⟩ = some (.slice none 0 0) ∧ X.cell? ⟨p6, 2, none⟩ = some (.int .i64 0) ∧ X.cell? ⟨p6, 3, none⟩ = some (.int .i64 0) ∧ X.cell? ⟨p6, 4, none⟩ = some (.slice none 0 0) ∧ X.cell? ⟨p7, 0, none⟩ = some (.int .i64 2) ∧ X.cell? ⟨p7, 1, none⟩ = some (.int .i64 3)) ∧ Below x.heap.size x X → HasT X from fun X h => HT.out.below h.2)
    go_region_held3 (fun w' => (w'.cell? ⟨p2, 0, none⟩ = some (.int .i64 4) ∧ w'.cell? ⟨p2, 1, none⟩ = some (.slice none 0 0) ∧ w'.cell? ⟨p2, 2, none⟩ = some (.int .i64 0) ∧ w'.cell? ⟨p2, 3, none⟩ = some (.int .i64 (-1)) ∧ w'.cell? ⟨p2, 4, none⟩ = some (.slice (some ⟨g2, 0, none⟩) 1 1) ∧ w'.cell? ⟨p6, 0, none⟩ = some (.int .i64 7) ∧ w'.cell? ⟨p6, 1, none⟩ = some (.slice none 0 0) ∧ w'.cell? ⟨p6, 2, none⟩ = some (.int .i64 0) ∧ w'.cell? ⟨p6, 3, none⟩ = some (.int .i64 0) ∧ w'.cell? ⟨p6, 4, none⟩ = some (.slice none 0 0) ∧ w'.cell? ⟨p7, 0, none⟩ = some (.int .i64 2) ∧ w'.cell? ⟨p7, 1, none⟩ = some (.int .i64 3)) ∧ Below x.heap.size x w')
      (first | exact HK.out _ HS0.out | exact HKs.out _ _ (by assumption) hb4 | exact HKs.out _ _ (by assumption) (bel_alloc _ _))
      (first
        | (go_at_call 26; (with_reducible refine (H102.out _).mono ?_); rintro e wf ⟨l0, l1, l2, lA, lB, ln, lc, lm, ld, rfl, hrl, hb4⟩; have hrp := P6.out.rx.kept (bgo (HKb.out _ (by assumption)) hb4))
        | (go_at_call 23; (with_reducible refine (HC.out _ _ _ [boundR, oneR 102, boundR] _ ?_).mono ?_); (first | exact els3p hrp hrl hrp rfl | exact (els3p hrp hrl hrp rfl).below (bel_alloc _ _) | exact els3p (hrp.kept (bel_alloc _ _)) (hrl.kept (bel_alloc _ _)) (hrp.kept (bel_alloc _ _)) (World.size_alloc _ _)); rintro e wc2 ⟨n0, n1, n2, nA, nB, nn, nc, nm, nd, rfl, hrn, hb4⟩)
        | (go_at_call 16; (with_reducible refine (M6.out _ _ hrn (HTa.out _ ?_)).mono ?_); assumption; rintro e wm ⟨rfl, hb4⟩)
        | (go_at_call 16; (with_reducible refine (M7.out _ _ hrn (HTa.out _ ?_)).mono ?_); assumption; rintro e wm ⟨rfl, hb4⟩)
        | (go_at_call 18; (with_reducible refine (W8.out _ _ (P2.out.rx.kept (HKb.out _ ?_)) (HTa.out _ ?_)).mono ?_); assumption; assumption; rintro e wm ⟨rfl, hb4⟩)
        | (go_at_call 18; (with_reducible refine (W9.out _ _ (P2.out.rx.kept (HKb.out _ ?_)) (HTa.out _ ?_)).mono ?_); assumption; assumption; rintro e wm ⟨rfl, hb4⟩))
    all_goals
      have hX := HKb.out _ (by assumption)
      go_wp2
      go_ret
      exact ⟨rfl, bgo B.out hX⟩
end Go.Proofs.YtkghbhcjgogaeaaDoor
