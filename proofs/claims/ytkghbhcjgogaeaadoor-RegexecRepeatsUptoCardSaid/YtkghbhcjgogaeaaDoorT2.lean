/- Layer 9: law 4 (Finds) over the contracts. -/
import Derived.Test.YtkghbhcjgogaeaaDoorGv
namespace Go.Proofs.YtkghbhcjgogaeaaDoor
open Go.RowKit

theorem findV_shape (p : Option (Nat × Nat)) : ∃ (a b : Int) (q : Bool), findV p = .tuple #[.agg #[.int .i64 a, .int .i64 b], .bool q] := by
  cases p with
  | none => exact ⟨0, 0, false, rfl⟩
  | some p => exact ⟨p.1, p.2, true, rfl⟩

set_option maxRecDepth 100000 in
set_option maxHeartbeats 6400000 in
theorem law4 (A : AliveC) {ok : Nat → Prop} {v : Value} {r : Rx} (s : ByteArray) (hs : s.size ≤ 9223372036854775807) (h1 : sizeR r ≤ 1000000) (h2 : depthR r ≤ 1000000) (from_ : Int) (hf64 : -9223372036854775808 ≤ from_ ∧ from_ ≤ 9223372036854775807) (w : World) (hv : RxV w ok v r) (hT : HasT w) :
    Calls Tryd.prog 4 #[v, .string s, .int .i64 from_] w fun e w' => e = .returned (.bool true) ∧ Below w.heap.size w w' := by
  obtain ⟨qa, ya, za, Aa, Da, na, ca, ma, da, rfl⟩ := rxv_shape hv
  have hbA := bnew (Below.refl _ w) (.cells #[.int .i64 qa, .slice Aa na ca, .int .i64 ya, .int .i64 za, .slice Da ma da] 25)
  have HA := hide (A _ (hT.below hbA))
  have Ra := hide (hv.kept hbA)
  have Ta := hide (hT.below hbA)
  have Fa := hide (five_new w (.int .i64 qa) (.slice Aa na ca) (.int .i64 ya) (.int .i64 za) (.slice Da ma da) 25)
  have Ba := hide hbA
  have hsb : (s.size : Int) ≤ 9223372036854775807 := by omega
  clear hv hT hbA A
  by_cases h6 : 60 < s.size
  · have h6' : (60 : Int) < (s.size : Int) := by omega
    go_enter Tryd.func4, Tryd.ntmps4
    go_wp2_with fail
    with_reducible refine HA.out.mono ?_
    rintro e w1 ⟨rfl, hb⟩
    have B1 := hide (bgo Ba.out hb)
    clear hb
    go_wp2
    go_ret
    exact ⟨rfl, B1.out⟩
  · have h6' : ¬ (60 : Int) < (s.size : Int) := by omega
    have hs6 : s.size ≤ 60 := by omega
    obtain ⟨xa, xb, q, hq⟩ := findV_shape (findP r s.data.toList from_)
    have H14 := hide (fun (W : World) (h : RxV W ok (.agg #[.int .i64 qa, .slice Aa na ca, .int .i64 ya, .int .i64 za, .slice Da ma da]) r) (hT : HasT W) => (hq ▸ find14 all_mirror s hs6 r h1 h2 from_ W ok _ h hT : Calls Tryd.prog 14 #[_, .string s, .int .i64 from_] W fun e w' => e = .returned (.tuple #[.agg #[.int .i64 xa, .int .i64 xb], .bool q]) ∧ Below W.heap.size W w'))
    have H15 := hide (fun (W : World) (h : RxV W ok (.agg #[.int .i64 qa, .slice Aa na ca, .int .i64 ya, .int .i64 za, .slice Da ma da]) r) => (hq ▸ rfind15 s hs6 r h1 h2 from_ hf64 W ok _ h : Calls Tryd.prog 15 #[_, .string s, .int .i64 from_] W fun e w' => e = .returned (.tuple #[.agg #[.int .i64 xa, .int .i64 xb], .bool q]) ∧ Below W.heap.size W w'))
    obtain ⟨mb, hmb⟩ : ∃ mb, matchA r s.data.toList = mb := ⟨_, rfl⟩
    obtain ⟨wb, hwb⟩ : ∃ wb, wholeA r s.data.toList = wb := ⟨_, rfl⟩
    have H16 := hide (fun (W : World) (h : RxV W ok (.agg #[.int .i64 qa, .slice Aa na ca, .int .i64 ya, .int .i64 za, .slice Da ma da]) r) (hT : HasT W) => (hmb ▸ match16 s hs6 r h1 h2 W ok _ h hT : Calls Tryd.prog 16 #[_, .string s] W fun e w' => e = .returned (.bool mb) ∧ Below W.heap.size W w'))
    have H17 := hide (fun (W : World) (h : RxV W ok (.agg #[.int .i64 qa, .slice Aa na ca, .int .i64 ya, .int .i64 za, .slice Da ma da]) r) => (hmb ▸ rmatch17 s hs6 r h1 h2 W ok _ h : Calls Tryd.prog 17 #[_, .string s] W fun e w' => e = .returned (.bool mb) ∧ Below W.heap.size W w'))
    have H18 := hide (fun (W : World) (h : RxV W ok (.agg #[.int .i64 qa, .slice Aa na ca, .int .i64 ya, .int .i64 za, .slice Da ma da]) r) (hT : HasT W) => (hwb ▸ whole18 s hs6 r h1 h2 W ok _ h hT : Calls Tryd.prog 18 #[_, .string s] W fun e w' => e = .returned (.bool wb) ∧ Below W.heap.size W w'))
    have H19 := hide (fun (W : World) (h : RxV W ok (.agg #[.int .i64 qa, .slice Aa na ca, .int .i64 ya, .int .i64 za, .slice Da ma da]) r) => (hwb ▸ rwhole19 s hs6 r h1 h2 W ok _ h : Calls Tryd.prog 19 #[_, .string s] W fun e w' => e = .returned (.bool wb) ∧ Below W.heap.size W w'))
    clear h1 h2 hq hmb hwb
    go_enter Tryd.func4, Tryd.ntmps4
    go_wp2_with fail
    with_reducible refine HA.out.mono ?_
    rintro e w1 ⟨rfl, hb⟩
    have B1 := hide (bgo Ba.out hb)
    have Ra1 := hide (Ra.out.kept hb)
    have Ta1 := hide (Ta.out.below hb)
    have Fa1 := hide (Fa.out.keep hb)
    clear hb Ba Ra Fa Ta
    obtain ⟨-, t0, t1, t2, t3, t4⟩ := Fa1.out
    go_wp2_with fail
    with_reducible refine (H14.out _ Ra1.out Ta1.out).mono ?_
    rintro e w2 ⟨rfl, hb⟩
    have hb2 := bgo hb (bnew (Below.refl _ w2) (.cells #[.int .i64 xa, .int .i64 xb] 32))
    have B2 := hide (bgo B1.out hb2)
    have Ra2 := hide (Ra1.out.kept hb2)
    have Ta2 := hide (Ta1.out.below hb2)
    have Fa2 := hide (Fa1.out.keep hb2)
    have TW2 := hide (two_alloc w2 (.int .i64 xa) (.int .i64 xb) 32)
    clear hb hb2 B1 Ra1 Ta1 Fa1 t0 t1 t2 t3 t4
    obtain ⟨-, t0, t1, t2, t3, t4⟩ := Fa2.out
    go_wp2_with fail
    with_reducible refine (H15.out _ Ra2.out).mono ?_
    rintro e w3 ⟨rfl, hb⟩
    have hb2 := bgo hb (bnew (Below.refl _ w3) (.cells #[.int .i64 xa, .int .i64 xb] 32))
    have B3 := hide (bgo B2.out hb2)
    have Ra3 := hide (Ra2.out.kept hb2)
    have Ta3 := hide (Ta2.out.below hb2)
    have Fa3 := hide (Fa2.out.keep hb2)
    have TW3 := hide (TW2.out.keep hb2)
    have TV3 := hide (two_alloc w3 (.int .i64 xa) (.int .i64 xb) 32)
    clear hb hb2 B2 Ra2 Ta2 Fa2 TW2 t0 t1 t2 t3 t4
    go_wp2_with fail
    obtain ⟨p7, hp7⟩ : ∃ p7, w2.heap.size = p7 := ⟨_, rfl⟩
    obtain ⟨p9, hp9⟩ : ∃ p9, w3.heap.size = p9 := ⟨_, rfl⟩
    obtain ⟨w4, hw4⟩ : ∃ w4, w3.alloc (.cells #[.int .i64 xa, .int .i64 xb] 32) = w4 := ⟨_, rfl⟩
    rw [hw4] at B3 Ra3 Ta3 Fa3 TW3 TV3 ⊢
    rw [hp7] at TW3 ⊢
    rw [hp9] at TV3 ⊢
    clear hw4 hp7 hp9
    obtain ⟨x, hx⟩ : ∃ x, x = w4 := ⟨_, rfl⟩
    subst hx
    have HK := hide (show ∀ X : World, Below x.heap.size x X → (X.cell? ⟨w.heap.size, 0, none⟩ = some (.int .i64 qa) ∧ X.cell? ⟨w.heap.size, 1, none⟩ = some (.slice Aa na ca) ∧ X.cell? ⟨w.heap.size, 2, none⟩ = some (.int .i64 ya) ∧ X.cell? ⟨w.heap.size, 3, none⟩ = some (.int .i64 za) ∧ X.cell? ⟨w.heap.size, 4, none⟩ = some (.slice Da ma da) ∧ X.cell? ⟨p7, 0, none⟩ = some (.int .i64 xa) ∧ X.cell? ⟨p7, 1, none⟩ = some (.int .i64 xb) ∧ X.cell? ⟨p9, 0, none⟩ = some (.int .i64 xa) ∧ X.cell? ⟨p9, 1, none⟩ = some (.int .i64 xb)) ∧ Below x.heap.size x X from fun X hb => by
      obtain ⟨-, t0, t1, t2, t3, t4⟩ := Fa3.out.keep hb
      exact ⟨⟨t0, t1, t2, t3, t4, (TW3.out.keep hb).2.1, (TW3.out.keep hb).2.2, (TV3.out.keep hb).2.1, (TV3.out.keep hb).2.2⟩, hb⟩)
    have HS0 := hide (bel_drew x)
    have HKs := hide (show ∀ X Y : World, (X.cell? ⟨w.heap.size, 0, none⟩ = some (.int .i64 qa) ∧ X.cell? ⟨w.heap.size, 1, none⟩ = some (.slice Aa na ca) ∧ X.cell? ⟨w.heap.size, 2, none⟩ = some (.int .i64 ya) ∧ X.cell? ⟨w.heap.size, 3, none⟩ = some (.int .i64 za) ∧ X.cell? ⟨w.heap.size, 4, none⟩ = some (.slice Da ma da) ∧ X.cell? ⟨p7, 0, none⟩ = some (.int .i64 xa) ∧ X.cell? ⟨p7, 1, none⟩ = some (.int .i64 xb) ∧ X.cell? ⟨p9, 0, none⟩ = some (.int .i64 xa) ∧ X.cell? ⟨p9, 1, none⟩ = some (.int .i64 xb)) ∧ Below x.heap.size x X → Below X.heap.size X Y → (Y.cell? ⟨w.heap.size, 0, none⟩ = some (.int .i64 qa) ∧ Y.cell? ⟨w.heap.size, 1, none⟩ = some (.slice Aa na ca) ∧ Y.cell? ⟨w.heap.size, 2, none⟩ = some (.int .i64 ya) ∧ Y.cell? ⟨w.heap.size, 3, none⟩ = some (.int .i64 za) ∧ Y.cell? ⟨w.heap.size, 4, none⟩ = some (.slice Da ma da) ∧ Y.cell? ⟨p7, 0, none⟩ = some (.int .i64 xa) ∧ Y.cell? ⟨p7, 1, none⟩ = some (.int .i64 xb) ∧ Y.cell? ⟨p9, 0, none⟩ = some (.int .i64 xa) ∧ Y.cell? ⟨p9, 1, none⟩ = some (.int .i64 xb)) ∧ Below x.heap.size x Y from fun X Y h hb => HK.out Y (bgo h.2 hb))
    have HKb := hide (show ∀ X : World, (X.cell? ⟨w.heap.size, 0, none⟩ = some (.int .i64 qa) ∧ X.cell? ⟨w.heap.size, 1, none⟩ = some (.slice Aa na ca) ∧ X.cell? ⟨w.heap.size, 2, none⟩ = some (.int .i64 ya) ∧ X.cell? ⟨w.heap.size, 3, none⟩ = some (.int .i64 za) ∧ X.cell? ⟨w.heap.size, 4, none⟩ = some (.slice Da ma da) ∧ X.cell? ⟨p7, 0, none⟩ = some (.int .i64 xa) ∧ X.cell? ⟨p7, 1, none⟩ = some (.int .i64 xb) ∧ X.cell? ⟨p9, 0, none⟩ = some (.int .i64 xa) ∧ X.cell? ⟨p9, 1, none⟩ = some (.int .i64 xb)) ∧ Below x.heap.size x X → Below w.heap.size w X from fun X h => bgo B3.out h.2)
    have HRa := hide (show ∀ X : World, (X.cell? ⟨w.heap.size, 0, none⟩ = some (.int .i64 qa) ∧ X.cell? ⟨w.heap.size, 1, none⟩ = some (.slice Aa na ca) ∧ X.cell? ⟨w.heap.size, 2, none⟩ = some (.int .i64 ya) ∧ X.cell? ⟨w.heap.size, 3, none⟩ = some (.int .i64 za) ∧ X.cell? ⟨w.heap.size, 4, none⟩ = some (.slice Da ma da) ∧ X.cell? ⟨p7, 0, none⟩ = some (.int .i64 xa) ∧ X.cell? ⟨p7, 1, none⟩ = some (.int .i64 xb) ∧ X.cell? ⟨p9, 0, none⟩ = some (.int .i64 xa) ∧ X.cell? ⟨p9, 1, none⟩ = some (.int .i64 xb)) ∧ Below x.heap.size x X → RxV X ok (.agg #[.int .i64 qa, .slice Aa na ca, .int .i64 ya, .int .i64 za, .slice Da ma da]) r from fun X h => Ra3.out.kept h.2)
    have HTa := hide (show ∀ X : World, (X.cell? ⟨w.heap.size, 0, none⟩ = some (.int .i64 qa) ∧ X.cell? ⟨w.heap.size, 1, none⟩ = some (.slice Aa na ca) ∧ X.cell? ⟨w.heap.size, 2, none⟩ = some (.int .i64 ya) ∧ X.cell? ⟨w.heap.size, 3, none⟩ = some (.int .i64 za) ∧ X.cell? ⟨w.heap.size, 4, none⟩ = some (.slice Da ma da) ∧ X.cell? ⟨p7, 0, none⟩ = some (.int .i64 xa) ∧ X.cell? ⟨p7, 1, none⟩ = some (.int .i64 xb) ∧ X.cell? ⟨p9, 0, none⟩ = some (.int .i64 xa) ∧ X.cell? ⟨p9, 1, none⟩ = some (.int .i64 xb)) ∧ Below x.heap.size x X → HasT X from fun X h => Ta3.out.below h.2)
    go_region_held3 (fun w' => (w'.cell? ⟨w.heap.size, 0, none⟩ = some (.int .i64 qa) ∧ w'.cell? ⟨w.heap.size, 1, none⟩ = some (.slice Aa na ca) ∧ w'.cell? ⟨w.heap.size, 2, none⟩ = some (.int .i64 ya) ∧ w'.cell? ⟨w.heap.size, 3, none⟩ = some (.int .i64 za) ∧ w'.cell? ⟨w.heap.size, 4, none⟩ = some (.slice Da ma da) ∧ w'.cell? ⟨p7, 0, none⟩ = some (.int .i64 xa) ∧ w'.cell? ⟨p7, 1, none⟩ = some (.int .i64 xb) ∧ w'.cell? ⟨p9, 0, none⟩ = some (.int .i64 xa) ∧ w'.cell? ⟨p9, 1, none⟩ = some (.int .i64 xb)) ∧ Below x.heap.size x w')
      (first | exact HK.out _ HS0.out | exact HKs.out _ _ (by assumption) hb4)
      (first
        | (go_at_call 16; (with_reducible refine (H16.out _ (HRa.out _ ?_) (HTa.out _ ?_)).mono ?_); assumption; assumption; rintro e w4 ⟨rfl, hb4⟩)
        | (go_at_call 17; (with_reducible refine (H17.out _ (HRa.out _ ?_)).mono ?_); assumption; rintro e w4 ⟨rfl, hb4⟩)
        | (go_at_call 18; (with_reducible refine (H18.out _ (HRa.out _ ?_) (HTa.out _ ?_)).mono ?_); assumption; assumption; rintro e w4 ⟨rfl, hb4⟩)
        | (go_at_call 19; (with_reducible refine (H19.out _ (HRa.out _ ?_)).mono ?_); assumption; rintro e w4 ⟨rfl, hb4⟩))
    all_goals
      have Bfin := HKb.out _ (by assumption)
      go_wp2
      go_ret
      exact ⟨rfl, Bfin⟩
end Go.Proofs.YtkghbhcjgogaeaaDoor
