/- Layer 8: the examples walked over the contracts. -/
import Derived.Test.YtmiegjefmebpdaaGreatDoorKS
import Derived.Deep.RegionHeld3
namespace Go.Proofs.YtmiegjefmebpdaaGreatDoor
open Go.RowKit

theorem rxv_rgs' {W : World} {ok : Nat → Prop} {k a b : Int} {A B : Option Addr} {n c m d : Nat} {r : Rx} (h : RxV W ok (.agg #[.int .i64 k, .slice A n c, .int .i64 a, .int .i64 b, .slice B m d]) r) : RgS W ok A n c r.set := by
  cases h
  assumption
def rxAll : Rx := .mk 2 [] 0 0 [setR [(97, 97)], repS (setR [(98, 98)]) 1 (-1), setR [(99, 99)]]
theorem ex_p1 : parseS (⟨#[97, 98, 43, 99]⟩ : ByteArray).data.toList = (rxAll, 0) := by kernel_rfl
theorem ex_l1 : lenR rxAll = (3, -1) := by kernel_rfl
theorem ex_r0 : rightR rxAll = 0 := by kernel_rfl
theorem ex_p2 : parseS (⟨#[91, 99, 45, 101, 97, 45, 100, 93]⟩ : ByteArray).data.toList = (setR [(97, 101)], 0) := by kernel_rfl
theorem ex_q2 : printS (setR [(97, 101)]) = ([91, 97, 45, 101, 93], 0) := by kernel_rfl
theorem ex_p3 : parseS (⟨#[91, 94, 92, 110, 93]⟩ : ByteArray).data.toList = (setR [(0, 9), (11, 255)], 0) := by kernel_rfl
theorem ex_q3 : printS (setR [(0, 9), (11, 255)]) = ([46], 0) := by kernel_rfl
theorem ex_p4 : parseS (⟨#[91, 97, 93]⟩ : ByteArray).data.toList = (setR [(97, 97)], 0) := by kernel_rfl
theorem ex_q4 : printS (setR [(97, 97)]) = ([97], 0) := by kernel_rfl
theorem ex_p5 : parseS (⟨#[97, 123, 48, 44, 125]⟩ : ByteArray).data.toList = (repS (setR [(97, 97)]) 0 (-1), 0) := by kernel_rfl
theorem ex_q5 : printS (repS (setR [(97, 97)]) 0 (-1)) = ([97, 42], 0) := by kernel_rfl
theorem ex_p6 : parseS (⟨#[40, 41, 42]⟩ : ByteArray).data.toList = (repS (.mk 2 [] 0 0 []) 0 (-1), 0) := by kernel_rfl
theorem ex_q6 : printS (repS (.mk 2 [] 0 0 []) 0 (-1)) = ([40, 41, 42], 0) := by kernel_rfl
theorem ex_r1 : (parseS (⟨#[97, 42, 42]⟩ : ByteArray).data.toList).2 = 3 := by kernel_rfl
theorem ex_r2 : (parseS (⟨#[91, 98, 45, 97, 93]⟩ : ByteArray).data.toList).2 = 3 := by kernel_rfl
theorem ex_r3 : (parseS (⟨#[97, 123, 48, 49, 125]⟩ : ByteArray).data.toList).2 = 3 := by kernel_rfl
theorem ex_r4 : (parseS (⟨#[97, 123, 48, 125]⟩ : ByteArray).data.toList).2 = 2 := by kernel_rfl
theorem ex_r5 : (parseS (⟨#[97, 123, 51, 44, 50, 125]⟩ : ByteArray).data.toList).2 = 2 := by kernel_rfl
theorem ex_p7 : parseS (⟨#[91, 97, 45, 99, 93]⟩ : ByteArray).data.toList = (setR [(97, 99)], 0) := by kernel_rfl
theorem ex_f7 : foldR (setR [(97, 99)]) = setR [(65, 67), (97, 99)] := by kernel_rfl
theorem ex_r7 : rightR (setR [(97, 99)]) = 0 := by kernel_rfl
theorem ex_q7 : printS (setR [(65, 67), (97, 99)]) = ([91, 65, 45, 67, 97, 45, 99, 93], 0) := by kernel_rfl
theorem ex_h7 : hasS (setR [(97, 99)]).set 98 = true := by decide
theorem ex_s7 : sameR (setR [(97, 99)]) rxAll = false := by kernel_rfl

def anyB (_ : Nat) : Prop := True
theorem RxV.any {W : World} {ok : Nat → Prop} {v : Value} {r : Rx} (h : RxV W ok v r) : RxV W anyB v r := h.map (fun _ _ _ => rfl) fun _ _ _ => trivial
theorem bel_alloc (w : World) (o : Obj) : Below w.heap.size w (w.alloc o) := bnew (Below.refl _ w) o
theorem lit1 (w : World) (c0 c1 c2 c3 c4 : Value) (x : Rx) (h : RxV w anyB (.agg #[c0, c1, c2, c3, c4]) x) :
    RxV (w.alloc (.cells #[c0, c1, c2, c3, c4] 25)) anyB (.agg #[.int .i64 4, .slice none 0 0, .int .i64 1, .int .i64 (-1), .slice (some ⟨w.heap.size, 0, none⟩) 1 1]) (repS x 1 (-1)) := by
  refine .mk _ _ _ _ _ _ _ _ _ [] [.agg #[c0, c1, c2, c3, c4]] [x] (RgS.nil _ _) ⟨Nat.le_refl _, by decide, rfl, fun i u hu => ?_⟩ rfl (by omega) (by omega) (by omega) fun i u y hu hy => ?_
  · match i, hu with
    | 0, hu =>
      simp at hu
      subst hu
      refine ⟨w.heap.size, 0, c0, c1, c2, c3, c4, rfl, trivial, rfl, ?_, ?_, ?_, ?_, ?_⟩ <;> (rw [World.cell?_alloc_mark]; rfl)
  · match i, hu, hy with
    | 0, hu, hy =>
      simp at hu hy
      subst hu hy
      exact h.kept (bel_alloc _ _)
theorem lit3 (w : World) (a0 a1 a2 a3 a4 b0 b1 b2 b3 b4 c0 c1 c2 c3 c4 : Value) (x y z : Rx) (hx : RxV w anyB (.agg #[a0, a1, a2, a3, a4]) x) (hy : RxV w anyB (.agg #[b0, b1, b2, b3, b4]) y) (hz : RxV w anyB (.agg #[c0, c1, c2, c3, c4]) z) :
    RxV (w.alloc (.cells #[a0, a1, a2, a3, a4, b0, b1, b2, b3, b4, c0, c1, c2, c3, c4] 25)) anyB (.agg #[.int .i64 2, .slice none 0 0, .int .i64 0, .int .i64 0, .slice (some ⟨w.heap.size, 0, none⟩) 3 3]) (.mk 2 [] 0 0 [x, y, z]) := by
  refine .mk _ _ _ _ _ _ _ _ _ [] [.agg #[a0, a1, a2, a3, a4], .agg #[b0, b1, b2, b3, b4], .agg #[c0, c1, c2, c3, c4]] [x, y, z] (RgS.nil _ _) ⟨Nat.le_refl _, by decide, rfl, fun i u hu => ?_⟩ rfl (by omega) (by omega) (by omega) fun i u q hu hq => ?_
  · match i, hu with
    | 0, hu =>
      simp at hu
      subst hu
      refine ⟨w.heap.size, 0, a0, a1, a2, a3, a4, rfl, trivial, rfl, ?_, ?_, ?_, ?_, ?_⟩ <;> (rw [World.cell?_alloc_mark]; rfl)
    | 1, hu =>
      simp at hu
      subst hu
      refine ⟨w.heap.size, 0, b0, b1, b2, b3, b4, rfl, trivial, rfl, ?_, ?_, ?_, ?_, ?_⟩ <;> (rw [World.cell?_alloc_mark]; rfl)
    | 2, hu =>
      simp at hu
      subst hu
      refine ⟨w.heap.size, 0, c0, c1, c2, c3, c4, rfl, trivial, rfl, ?_, ?_, ?_, ?_, ?_⟩ <;> (rw [World.cell?_alloc_mark]; rfl)
  · match i, hu, hq with
    | 0, hu, hq =>
      simp at hu hq
      subst hu hq
      exact hx.kept (bel_alloc _ _)
    | 1, hu, hq =>
      simp at hu hq
      subst hu hq
      exact hy.kept (bel_alloc _ _)
    | 2, hu, hq =>
      simp at hu hq
      subst hu hq
      exact hz.kept (bel_alloc _ _)
theorem one27' (c : UInt8) (z : Int) (hz : z = (c.toNat : Int)) (w : World) : Calls Tryz.prog 27 #[.int .u8 z] w fun e w' => ∃ q A n k y z D m d, e = .returned (.agg #[.int .i64 q, .slice A n k, .int .i64 y, .int .i64 z, .slice D m d]) ∧ RxV w' anyB (.agg #[.int .i64 q, .slice A n k, .int .i64 y, .int .i64 z, .slice D m d]) (setR [(c, c)]) ∧ Below w.heap.size w w' := by
  subst hz
  refine (one27 c w).mono ?_
  rintro e w' ⟨v, rfl, hr, hb⟩
  obtain ⟨q, A, n, k, y, z, D, m, d, rfl⟩ := hr.agg9
  exact ⟨q, A, n, k, y, z, D, m, d, rfl, hr.any, hb⟩

set_option maxRecDepth 100000 in
set_option maxHeartbeats 6400000 in
theorem alive10 (C : Cs) : AliveC := by
  intro w
  have h1 := C.parse ⟨#[97, 98, 43, 99]⟩ w (by decide)
  rw [ex_p1] at h1
  have H1 := hide h1
  have H97 := hide (one27' 97 97 rfl)
  have H98 := hide (one27' 98 98 rfl)
  have H99 := hide (one27' 99 99 rfl)
  have P2 := hide (fun W : World => prints28 C ⟨#[91, 99, 45, 101, 97, 45, 100, 93]⟩ ⟨#[91, 97, 45, 101, 93]⟩ _ _ W (by decide) ex_p2 ex_q2 rfl)
  have P3 := hide (fun W : World => prints28 C ⟨#[91, 94, 92, 110, 93]⟩ ⟨#[46]⟩ _ _ W (by decide) ex_p3 ex_q3 rfl)
  have P4 := hide (fun W : World => prints28 C ⟨#[91, 97, 93]⟩ ⟨#[97]⟩ _ _ W (by decide) ex_p4 ex_q4 rfl)
  have P5 := hide (fun W : World => prints28 C ⟨#[97, 123, 48, 44, 125]⟩ ⟨#[97, 42]⟩ _ _ W (by decide) ex_p5 ex_q5 rfl)
  have P6 := hide (fun W : World => prints28 C ⟨#[40, 41, 42]⟩ ⟨#[40, 41, 42]⟩ _ _ W (by decide) ex_p6 ex_q6 rfl)
  have Q1 := hide (fun W : World => refused29 C ⟨#[97, 42, 42]⟩ 3 W (by decide) ex_r1)
  have Q2 := hide (fun W : World => refused29 C ⟨#[91, 98, 45, 97, 93]⟩ 3 W (by decide) ex_r2)
  have Q3 := hide (fun W : World => refused29 C ⟨#[97, 123, 48, 49, 125]⟩ 3 W (by decide) ex_r3)
  have Q4 := hide (fun W : World => refused29 C ⟨#[97, 123, 48, 125]⟩ 2 W (by decide) ex_r4)
  have Q5 := hide (fun W : World => refused29 C ⟨#[97, 123, 51, 44, 50, 125]⟩ 2 W (by decide) ex_r5)
  have H22 := hide (fun (W : World) (v : Value) (h : RxV W anyB v rxAll) => C.lens W anyB v rxAll h ex_r0)
  rw [ex_l1] at H22
  have H7 := hide (fun W : World => C.parse ⟨#[91, 97, 45, 99, 93]⟩ W (by decide))
  rw [ex_p7] at H7
  have H24 := hide (fun (W : World) (ok : Nat → Prop) (v : Value) (h : RxV W ok v (setR [(97, 99)])) => C.fold W ok v _ h ex_r7 (tame_set (by decide)))
  rw [ex_f7] at H24
  have H18 := hide (fun (W : World) (ok : Nat → Prop) (v : Value) (h : RxV W ok v (setR [(65, 67), (97, 99)])) => C.print W ok v _ h (by decide) (by decide) (tame_set (by decide)))
  rw [ex_q7] at H18
  dsimp only at H18
  rw [show bs [91, 65, 45, 67, 97, 45, 99, 93] = ⟨#[91, 65, 45, 67, 97, 45, 99, 93]⟩ from rfl] at H18
  have H20 := hide (show ∀ (W : World) (ok : Nat → Prop) (A : Option Addr) (n c : Nat), RgS W ok A n c (setR [(97, 99)]).set → Calls Tryz.prog 20 #[.slice A n c, .int .u8 98] W (fun e w' => e = .returned (.bool true) ∧ Below W.heap.size W w') from fun W ok A n c h => C.has W ok A n c _ 98 true h (by decide) ex_h7)
  have H14 := hide (fun (W : World) (ok : Nat → Prop) (v : Value) (h : RxV W ok v (setR [(97, 99)])) => C.same W ok ok v v _ _ h h (by decide) (by decide) (by decide) (by decide) true (by simp))
  have H14b := hide (fun (W : World) (ok ok' : Nat → Prop) (v v' : Value) (h : RxV W ok v (setR [(97, 99)])) (h' : RxV W ok' v' rxAll) => C.same W ok ok' v v' _ _ h h' (by decide) (by decide) (by decide) (by decide) false (by rw [← same_iff, ex_s7]))
  clear h1 C
  go_enter Tryz.func10, Tryz.ntmps10
  go_wp2_with fail
  with_reducible refine H1.out.mono ?_
  rintro e w1 ⟨v, ok, rfl, hr, hb⟩
  have B0 := hide (Below.refl w.heap.size w)
  obtain ⟨qa, Aa, na, ca, ya, za, Da, ma, da, rfl⟩ := hr.agg9
  have hbA := bnew (Below.refl _ w1) (.cells #[.int .i64 qa, .slice Aa na ca, .int .i64 ya, .int .i64 za, .slice Da ma da] 25)
  have Ba := hide (bgo (bgo B0.out hb) hbA)
  have Ra := hide (hr.kept hbA)
  have Fa := hide (five_new w1 (.int .i64 qa) (.slice Aa na ca) (.int .i64 ya) (.int .i64 za) (.slice Da ma da) 25)
  clear hr hb hbA
  go_wp2_with fail
  with_reducible refine (H98.out _).mono ?_
  rintro e w2 ⟨qb, Ab, nb, cb, yb, zb, Db, mb, db, rfl, hr2, hb⟩
  have B2 := hide (bgo Ba.out hb)
  have R2 := hide (Ra.out.any.kept hb)
  have F2 := hide (Fa.out.keep hb)
  have L2 := hide (lit1 w2 _ _ _ _ _ _ hr2)
  clear hb hr2 Ba Ra Fa
  have hx1 := bnew (bnew (Below.refl _ w2) (.cells #[.int .i64 qb, .slice Ab nb cb, .int .i64 yb, .int .i64 zb, .slice Db mb db] 25)) (.cells #[.int .i64 4, .slice none 0 0, .int .i64 1, .int .i64 (-1), .slice (some ⟨w2.heap.size, 0, none⟩) 1 1] 25)
  have B3 := hide (bgo B2.out hx1)
  have R3 := hide (R2.out.kept hx1)
  have F3 := hide (F2.out.keep hx1)
  have L3 := hide (L2.out.kept (bel_alloc _ (.cells #[.int .i64 4, .slice none 0 0, .int .i64 1, .int .i64 (-1), .slice (some ⟨w2.heap.size, 0, none⟩) 1 1] 25)))
  have g3 := five_new (w2.alloc (.cells #[.int .i64 qb, .slice Ab nb cb, .int .i64 yb, .int .i64 zb, .slice Db mb db] 25)) (.int .i64 4) (.slice none 0 0) (.int .i64 1) (.int .i64 (-1)) (.slice (some ⟨w2.heap.size, 0, none⟩) 1 1) 25
  rw [show (w2.alloc (.cells #[.int .i64 qb, .slice Ab nb cb, .int .i64 yb, .int .i64 zb, .slice Db mb db] 25)).heap.size = w2.heap.size + 1 by simp] at g3
  have G3 := hide g3
  clear hx1 g3 B2 R2 F2 L2
  go_wp2_with fail
  obtain ⟨x, hx⟩ : ∃ x, (w2.alloc (.cells #[.int .i64 qb, .slice Ab nb cb, .int .i64 yb, .int .i64 zb, .slice Db mb db] 25)).alloc (.cells #[.int .i64 4, .slice none 0 0, .int .i64 1, .int .i64 (-1), .slice (some ⟨w2.heap.size, 0, none⟩) 1 1] 25) = x := ⟨_, rfl⟩
  rw [hx] at B3 R3 F3 L3 G3 ⊢
  clear hx
  have HK := hide (show ∀ X : World, Below x.heap.size x X → (X.cell? ⟨w1.heap.size, 0, none⟩ = some (.int .i64 qa) ∧ X.cell? ⟨w1.heap.size, 1, none⟩ = some (.slice Aa na ca) ∧ X.cell? ⟨w1.heap.size, 2, none⟩ = some (.int .i64 ya) ∧ X.cell? ⟨w1.heap.size, 3, none⟩ = some (.int .i64 za) ∧ X.cell? ⟨w1.heap.size, 4, none⟩ = some (.slice Da ma da) ∧ X.cell? ⟨w2.heap.size + 1, 0, none⟩ = some (.int .i64 4) ∧ X.cell? ⟨w2.heap.size + 1, 1, none⟩ = some (.slice none 0 0) ∧ X.cell? ⟨w2.heap.size + 1, 2, none⟩ = some (.int .i64 1) ∧ X.cell? ⟨w2.heap.size + 1, 3, none⟩ = some (.int .i64 (-1)) ∧ X.cell? ⟨w2.heap.size + 1, 4, none⟩ = some (.slice (some ⟨w2.heap.size, 0, none⟩) 1 1)) ∧ Below x.heap.size x X from fun X hb => by
    obtain ⟨-, t0, t1, t2, t3, t4⟩ := F3.out.keep hb
    obtain ⟨-, u0, u1, u2, u3, u4⟩ := G3.out.keep hb
    exact ⟨⟨t0, t1, t2, t3, t4, u0, u1, u2, u3, u4⟩, hb⟩)
  have HS0 := hide (bel_drew x)
  have HKs := hide (show ∀ X Y : World, (X.cell? ⟨w1.heap.size, 0, none⟩ = some (.int .i64 qa) ∧ X.cell? ⟨w1.heap.size, 1, none⟩ = some (.slice Aa na ca) ∧ X.cell? ⟨w1.heap.size, 2, none⟩ = some (.int .i64 ya) ∧ X.cell? ⟨w1.heap.size, 3, none⟩ = some (.int .i64 za) ∧ X.cell? ⟨w1.heap.size, 4, none⟩ = some (.slice Da ma da) ∧ X.cell? ⟨w2.heap.size + 1, 0, none⟩ = some (.int .i64 4) ∧ X.cell? ⟨w2.heap.size + 1, 1, none⟩ = some (.slice none 0 0) ∧ X.cell? ⟨w2.heap.size + 1, 2, none⟩ = some (.int .i64 1) ∧ X.cell? ⟨w2.heap.size + 1, 3, none⟩ = some (.int .i64 (-1)) ∧ X.cell? ⟨w2.heap.size + 1, 4, none⟩ = some (.slice (some ⟨w2.heap.size, 0, none⟩) 1 1)) ∧ Below x.heap.size x X → Below X.heap.size X Y → (Y.cell? ⟨w1.heap.size, 0, none⟩ = some (.int .i64 qa) ∧ Y.cell? ⟨w1.heap.size, 1, none⟩ = some (.slice Aa na ca) ∧ Y.cell? ⟨w1.heap.size, 2, none⟩ = some (.int .i64 ya) ∧ Y.cell? ⟨w1.heap.size, 3, none⟩ = some (.int .i64 za) ∧ Y.cell? ⟨w1.heap.size, 4, none⟩ = some (.slice Da ma da) ∧ Y.cell? ⟨w2.heap.size + 1, 0, none⟩ = some (.int .i64 4) ∧ Y.cell? ⟨w2.heap.size + 1, 1, none⟩ = some (.slice none 0 0) ∧ Y.cell? ⟨w2.heap.size + 1, 2, none⟩ = some (.int .i64 1) ∧ Y.cell? ⟨w2.heap.size + 1, 3, none⟩ = some (.int .i64 (-1)) ∧ Y.cell? ⟨w2.heap.size + 1, 4, none⟩ = some (.slice (some ⟨w2.heap.size, 0, none⟩) 1 1)) ∧ Below x.heap.size x Y from fun X Y h hb => HK.out Y (bgo h.2 hb))
  have HKb := hide (show ∀ X : World, (X.cell? ⟨w1.heap.size, 0, none⟩ = some (.int .i64 qa) ∧ X.cell? ⟨w1.heap.size, 1, none⟩ = some (.slice Aa na ca) ∧ X.cell? ⟨w1.heap.size, 2, none⟩ = some (.int .i64 ya) ∧ X.cell? ⟨w1.heap.size, 3, none⟩ = some (.int .i64 za) ∧ X.cell? ⟨w1.heap.size, 4, none⟩ = some (.slice Da ma da) ∧ X.cell? ⟨w2.heap.size + 1, 0, none⟩ = some (.int .i64 4) ∧ X.cell? ⟨w2.heap.size + 1, 1, none⟩ = some (.slice none 0 0) ∧ X.cell? ⟨w2.heap.size + 1, 2, none⟩ = some (.int .i64 1) ∧ X.cell? ⟨w2.heap.size + 1, 3, none⟩ = some (.int .i64 (-1)) ∧ X.cell? ⟨w2.heap.size + 1, 4, none⟩ = some (.slice (some ⟨w2.heap.size, 0, none⟩) 1 1)) ∧ Below x.heap.size x X → Below x.heap.size x X from fun X h => h.2)
  have HRa := hide (show ∀ X : World, (X.cell? ⟨w1.heap.size, 0, none⟩ = some (.int .i64 qa) ∧ X.cell? ⟨w1.heap.size, 1, none⟩ = some (.slice Aa na ca) ∧ X.cell? ⟨w1.heap.size, 2, none⟩ = some (.int .i64 ya) ∧ X.cell? ⟨w1.heap.size, 3, none⟩ = some (.int .i64 za) ∧ X.cell? ⟨w1.heap.size, 4, none⟩ = some (.slice Da ma da) ∧ X.cell? ⟨w2.heap.size + 1, 0, none⟩ = some (.int .i64 4) ∧ X.cell? ⟨w2.heap.size + 1, 1, none⟩ = some (.slice none 0 0) ∧ X.cell? ⟨w2.heap.size + 1, 2, none⟩ = some (.int .i64 1) ∧ X.cell? ⟨w2.heap.size + 1, 3, none⟩ = some (.int .i64 (-1)) ∧ X.cell? ⟨w2.heap.size + 1, 4, none⟩ = some (.slice (some ⟨w2.heap.size, 0, none⟩) 1 1)) ∧ Below x.heap.size x X → RxV X anyB (.agg #[.int .i64 qa, .slice Aa na ca, .int .i64 ya, .int .i64 za, .slice Da ma da]) rxAll from fun X h => R3.out.kept h.2)
  have HRb := hide (show ∀ X : World, (X.cell? ⟨w1.heap.size, 0, none⟩ = some (.int .i64 qa) ∧ X.cell? ⟨w1.heap.size, 1, none⟩ = some (.slice Aa na ca) ∧ X.cell? ⟨w1.heap.size, 2, none⟩ = some (.int .i64 ya) ∧ X.cell? ⟨w1.heap.size, 3, none⟩ = some (.int .i64 za) ∧ X.cell? ⟨w1.heap.size, 4, none⟩ = some (.slice Da ma da) ∧ X.cell? ⟨w2.heap.size + 1, 0, none⟩ = some (.int .i64 4) ∧ X.cell? ⟨w2.heap.size + 1, 1, none⟩ = some (.slice none 0 0) ∧ X.cell? ⟨w2.heap.size + 1, 2, none⟩ = some (.int .i64 1) ∧ X.cell? ⟨w2.heap.size + 1, 3, none⟩ = some (.int .i64 (-1)) ∧ X.cell? ⟨w2.heap.size + 1, 4, none⟩ = some (.slice (some ⟨w2.heap.size, 0, none⟩) 1 1)) ∧ Below x.heap.size x X → RxV X anyB (.agg #[.int .i64 4, .slice none 0 0, .int .i64 1, .int .i64 (-1), .slice (some ⟨w2.heap.size, 0, none⟩) 1 1]) (repS (setR [(98, 98)]) 1 (-1)) from fun X h => L3.out.kept h.2)
  have HRaA := hide (show ∀ (X : World) (o : Obj), (X.cell? ⟨w1.heap.size, 0, none⟩ = some (.int .i64 qa) ∧ X.cell? ⟨w1.heap.size, 1, none⟩ = some (.slice Aa na ca) ∧ X.cell? ⟨w1.heap.size, 2, none⟩ = some (.int .i64 ya) ∧ X.cell? ⟨w1.heap.size, 3, none⟩ = some (.int .i64 za) ∧ X.cell? ⟨w1.heap.size, 4, none⟩ = some (.slice Da ma da) ∧ X.cell? ⟨w2.heap.size + 1, 0, none⟩ = some (.int .i64 4) ∧ X.cell? ⟨w2.heap.size + 1, 1, none⟩ = some (.slice none 0 0) ∧ X.cell? ⟨w2.heap.size + 1, 2, none⟩ = some (.int .i64 1) ∧ X.cell? ⟨w2.heap.size + 1, 3, none⟩ = some (.int .i64 (-1)) ∧ X.cell? ⟨w2.heap.size + 1, 4, none⟩ = some (.slice (some ⟨w2.heap.size, 0, none⟩) 1 1)) ∧ Below x.heap.size x X → RxV (X.alloc o) anyB (.agg #[.int .i64 qa, .slice Aa na ca, .int .i64 ya, .int .i64 za, .slice Da ma da]) rxAll from fun X o h => (R3.out.kept h.2).kept (bel_alloc _ _))
  go_region_held3 (fun w' => (w'.cell? ⟨w1.heap.size, 0, none⟩ = some (.int .i64 qa) ∧ w'.cell? ⟨w1.heap.size, 1, none⟩ = some (.slice Aa na ca) ∧ w'.cell? ⟨w1.heap.size, 2, none⟩ = some (.int .i64 ya) ∧ w'.cell? ⟨w1.heap.size, 3, none⟩ = some (.int .i64 za) ∧ w'.cell? ⟨w1.heap.size, 4, none⟩ = some (.slice Da ma da) ∧ w'.cell? ⟨w2.heap.size + 1, 0, none⟩ = some (.int .i64 4) ∧ w'.cell? ⟨w2.heap.size + 1, 1, none⟩ = some (.slice none 0 0) ∧ w'.cell? ⟨w2.heap.size + 1, 2, none⟩ = some (.int .i64 1) ∧ w'.cell? ⟨w2.heap.size + 1, 3, none⟩ = some (.int .i64 (-1)) ∧ w'.cell? ⟨w2.heap.size + 1, 4, none⟩ = some (.slice (some ⟨w2.heap.size, 0, none⟩) 1 1)) ∧ Below x.heap.size x w')
    (first | exact HK.out _ HS0.out | exact HKs.out _ _ (by assumption) hb4 | exact HKs.out _ _ (by assumption) (bel_alloc _ _))
    (first
      | (go_at_call 27; with_reducible refine (H97.out _).mono ?_; rintro e w4 ⟨qp, Ap, np, cp, yp, zp, Dp, mp, dp, rfl, hr4, hb4⟩; have b4 := HRb.out _ (HKs.out _ _ (by assumption) hb4); try (have hr5 := hr5.kept hb4))
      | (go_at_call 27; with_reducible refine (H99.out _).mono ?_; rintro e w4 ⟨qr, Ar, nr, cr, yr, zr, Dr, mr, dr, rfl, hr5, hb4⟩; have b4 := HRb.out _ (HKs.out _ _ (by assumption) hb4); try (have hr4 := hr4.kept hb4))
      | (go_at_call 15; with_reducible refine (same15 rxAll _ anyB anyB _ _ _ (HRa.out _ ?_) (lit3 _ _ _ _ _ _ _ _ _ _ _ _ _ _ _ _ _ _ _ hr4 b4 hr5) true (by simp [rxAll])).mono ?_; assumption; rintro e w4 ⟨rfl, hb4⟩))
  all_goals
    have hX := HKb.out w4 (by assumption)
    have B5 := hide (bgo B3.out hX)
    have R5 := hide (R3.out.kept hX)
    have F5 := hide (F3.out.keep hX)
    clear hX HK HS0 HKs HKb HRa HRb HRaA B3 R3 F3 L3 G3
    obtain ⟨-, t0, t1, t2, t3, t4⟩ := F5.out
    go_wp2_with fail
    with_reducible refine (H22.out _ _ R5.out).mono ?_
    rintro e v0 ⟨rfl, hb⟩
    have C0 := hide (bgo B5.out hb)
    have R0 := hide (R5.out.kept hb)
    have F0 := hide (F5.out.keep hb)
    clear hb B5 R5 F5 t0 t1 t2 t3 t4
    go_wp2_with fail
    with_reducible refine (P2.out _).mono ?_
    rintro e v1 ⟨rfl, hb⟩
    have C1 := hide (bgo C0.out hb)
    have R1 := hide (R0.out.kept hb)
    have F1 := hide (F0.out.keep hb)
    clear hb C0 R0 F0 P2
    go_wp2_with fail
    with_reducible refine (P3.out _).mono ?_
    rintro e v2 ⟨rfl, hb⟩
    have C2 := hide (bgo C1.out hb)
    have R2 := hide (R1.out.kept hb)
    have F2 := hide (F1.out.keep hb)
    clear hb C1 R1 F1 P3
    go_wp2_with fail
    with_reducible refine (P4.out _).mono ?_
    rintro e v3 ⟨rfl, hb⟩
    have C3 := hide (bgo C2.out hb)
    have R3 := hide (R2.out.kept hb)
    have F3 := hide (F2.out.keep hb)
    clear hb C2 R2 F2 P4
    go_wp2_with fail
    with_reducible refine (P5.out _).mono ?_
    rintro e v4 ⟨rfl, hb⟩
    have C4 := hide (bgo C3.out hb)
    have R4 := hide (R3.out.kept hb)
    have F4 := hide (F3.out.keep hb)
    clear hb C3 R3 F3 P5
    go_wp2_with fail
    with_reducible refine (P6.out _).mono ?_
    rintro e v5 ⟨rfl, hb⟩
    have C5 := hide (bgo C4.out hb)
    have R5 := hide (R4.out.kept hb)
    have F5 := hide (F4.out.keep hb)
    clear hb C4 R4 F4 P6
    go_wp2_with fail
    with_reducible refine (Q1.out _).mono ?_
    rintro e v6 ⟨rfl, hb⟩
    have C6 := hide (bgo C5.out hb)
    have R6 := hide (R5.out.kept hb)
    have F6 := hide (F5.out.keep hb)
    clear hb C5 R5 F5 Q1
    go_wp2_with fail
    with_reducible refine (Q2.out _).mono ?_
    rintro e v7 ⟨rfl, hb⟩
    have C7 := hide (bgo C6.out hb)
    have R7 := hide (R6.out.kept hb)
    have F7 := hide (F6.out.keep hb)
    clear hb C6 R6 F6 Q2
    go_wp2_with fail
    with_reducible refine (Q3.out _).mono ?_
    rintro e v8 ⟨rfl, hb⟩
    have C8 := hide (bgo C7.out hb)
    have R8 := hide (R7.out.kept hb)
    have F8 := hide (F7.out.keep hb)
    clear hb C7 R7 F7 Q3
    go_wp2_with fail
    with_reducible refine (Q4.out _).mono ?_
    rintro e v9 ⟨rfl, hb⟩
    have C9 := hide (bgo C8.out hb)
    have R9 := hide (R8.out.kept hb)
    have F9 := hide (F8.out.keep hb)
    clear hb C8 R8 F8 Q4
    go_wp2_with fail
    with_reducible refine (Q5.out _).mono ?_
    rintro e v10 ⟨rfl, hb⟩
    have C10 := hide (bgo C9.out hb)
    have R10 := hide (R9.out.kept hb)
    have F10 := hide (F9.out.keep hb)
    clear hb C9 R9 F9 Q5
    go_wp2_with fail
    with_reducible refine (H7.out _).mono ?_
    rintro e w7 ⟨v, ok7, rfl, hr, hb⟩
    obtain ⟨qg, Ag, ng, cg, yg, zg, Dg, mg, dg, rfl⟩ := hr.agg9
    have hbA := bnew (Below.refl _ w7) (.cells #[.int .i64 qg, .slice Ag ng cg, .int .i64 yg, .int .i64 zg, .slice Dg mg dg] 25)
    have Bg := hide (bgo (bgo C10.out hb) hbA)
    have Rg := hide (hr.kept hbA)
    have Fg := hide (five_new w7 (.int .i64 qg) (.slice Ag ng cg) (.int .i64 yg) (.int .i64 zg) (.slice Dg mg dg) 25)
    have FA7 := hide ((F10.out.keep hb).keep hbA)
    have RA7 := hide ((R10.out.kept hb).kept hbA)
    clear hr hb hbA
    obtain ⟨-, t0, t1, t2, t3, t4⟩ := Fg.out
    go_wp2_with fail
    with_reducible refine (H24.out _ _ _ Rg.out).mono ?_
    rintro e w8 ⟨v8, ok8, rfl, hr8, hb⟩
    have B8 := hide (bgo Bg.out hb)
    have R8 := hide (Rg.out.kept hb)
    have F8 := hide (Fg.out.keep hb)
    have RA8 := hide (RA7.out.kept hb)
    have FA8 := hide (FA7.out.keep hb)
    have V8 := hide hr8
    clear hb hr8 t0 t1 t2 t3 t4 Bg Rg Fg RA7 FA7
    go_wp2_with fail
    with_reducible refine (H18.out _ _ _ V8.out).mono ?_
    rintro e w9 ⟨rfl, hb⟩
    have B9 := hide (bgo B8.out hb)
    have R9 := hide (R8.out.kept hb)
    have F9 := hide (F8.out.keep hb)
    have RA9 := hide (RA8.out.kept hb)
    have FA9 := hide (FA8.out.keep hb)
    clear hb B8 R8 F8 RA8 FA8 V8
    obtain ⟨-, t0, t1, t2, t3, t4⟩ := F9.out
    go_wp2_with fail
    with_reducible refine (H20.out _ _ _ _ _ (rxv_rgs' R9.out)).mono ?_
    rintro e x1 ⟨rfl, hb⟩
    have D1 := hide (bgo B9.out hb)
    have S1 := hide (R9.out.kept hb)
    have E1 := hide (F9.out.keep hb)
    have SA1 := hide (RA9.out.kept hb)
    have EA1 := hide (FA9.out.keep hb)
    clear hb B9 R9 F9 RA9 FA9 t0 t1 t2 t3 t4
    obtain ⟨-, t0, t1, t2, t3, t4⟩ := E1.out
    go_wp2_with fail
    with_reducible refine (H14.out _ _ _ S1.out).mono ?_
    rintro e x2 ⟨rfl, hb⟩
    have D2 := hide (bgo D1.out hb)
    have S2 := hide (S1.out.kept hb)
    have E2 := hide (E1.out.keep hb)
    have SA2 := hide (SA1.out.kept hb)
    have EA2 := hide (EA1.out.keep hb)
    clear hb D1 S1 E1 SA1 EA1 t0 t1 t2 t3 t4
    obtain ⟨-, t0, t1, t2, t3, t4⟩ := E2.out
    obtain ⟨-, u0, u1, u2, u3, u4⟩ := EA2.out
    go_wp2_with fail
    with_reducible refine (H14b.out _ _ _ _ _ S2.out SA2.out).mono ?_
    rintro e x3 ⟨rfl, hb⟩
    have D3 := hide (bgo D2.out hb)
    clear hb t0 t1 t2 t3 t4 u0 u1 u2 u3 u4
    go_wp2
    go_ret
    exact ⟨rfl, D3.out⟩

end Go.Proofs.YtmiegjefmebpdaaGreatDoor
