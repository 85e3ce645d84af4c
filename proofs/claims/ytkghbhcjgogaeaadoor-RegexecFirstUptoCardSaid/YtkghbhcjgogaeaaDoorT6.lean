/- Layer 9: law 6 (First) over the contracts. -/
import Derived.Test.YtkghbhcjgogaeaaDoorGv
import Derived.Test.YtkghbhcjgogaeaaDoorU1
import Derived.BigQuiet
import Derived.Deep.Cut
namespace Go.Proofs.YtkghbhcjgogaeaaDoor
open Go.RowKit

set_option maxRecDepth 100000 in
set_option maxHeartbeats 6400000 in
theorem law6 (A : AliveC) {ok : Nat → Prop} {v : Value} {r : Rx} (s : ByteArray) (hs : s.size ≤ 9223372036854775807) (h1 : sizeR r ≤ 1000000) (h2 : depthR r ≤ 1000000) (from_ : Int) (hf64 : -9223372036854775808 ≤ from_ ∧ from_ ≤ 9223372036854775807) (w : World) (hv : RxV w ok v r) (hT : HasT w) :
    Calls Tryd.prog 6 #[v, .string s, .int .i64 from_] w fun e w' => e = .returned (.bool true) ∧ Below w.heap.size w w' := by
  obtain ⟨qa, ya, za, Aa, Da, na, ca, ma, da, rfl⟩ := rxv_shape hv
  have hbA := bnew (Below.refl _ w) (.cells #[.int .i64 qa, .slice Aa na ca, .int .i64 ya, .int .i64 za, .slice Da ma da] 25)
  have HA := hide (A _ (hT.below hbA))
  have Ra := hide (hv.kept hbA)
  have Ta := hide (hT.below hbA)
  have Fa := hide (five_new w (.int .i64 qa) (.slice Aa na ca) (.int .i64 ya) (.int .i64 za) (.slice Da ma da) 25)
  have Ba := hide hbA
  have hsb : (s.size : Int) ≤ 9223372036854775807 := by omega
  clear hv hT hbA A
  by_cases h6 : 60 < s.size
  · have h6' : (60 : Int) < (s.size : Int) := by omega
    go_enter Tryd.func6, Tryd.ntmps6
    go_wp2_with fail
    with_reducible refine HA.out.mono ?_
    rintro e w1 ⟨rfl, hb⟩
    have B1 := hide (bgo Ba.out hb)
    clear hb
    go_wp2
    go_ret
    exact ⟨rfl, B1.out⟩
  · have h6' : ¬ (60 : Int) < (s.size : Int) := by omega
    have hs6 : s.size ≤ 60 := by omega
    have hlen := strlen s
    obtain ⟨f0, hf0⟩ : ∃ f0, from_.toNat = f0 := ⟨_, rfl⟩
    obtain ⟨mb, hmb⟩ : ∃ mb, matchA r s.data.toList = mb := ⟨_, rfl⟩
    have H14 := fun (W : World) (h : RxV W ok (.agg #[.int .i64 qa, .slice Aa na ca, .int .i64 ya, .int .i64 za, .slice Da ma da]) r) (hT : HasT W) => find14 all_mirror s hs6 r h1 h2 from_ W ok _ h hT
    have H12 := hide (fun (W : World) (a : Nat) (m : Nat) (hm : (natI (endsA r s.data.toList (a : Int))).length = m) (h : RxV W ok (.agg #[.int .i64 qa, .slice Aa na ca, .int .i64 ya, .int .i64 za, .slice Da ma da]) r) (hT : HasT W) => (ends12 s hs6 r h1 h2 (a : Int) W ok _ h hT).mono (R' := fun e w' => ∃ A c, e = .returned (.slice A m c) ∧ Sl w' A m c (numCells (natI (endsA r s.data.toList (a : Int)))) ∧ Below W.heap.size W w') (fun e w' h => grew_n h hm))
    have H16 := hide (fun (W : World) (h : RxV W ok (.agg #[.int .i64 qa, .slice Aa na ca, .int .i64 ya, .int .i64 za, .slice Da ma da]) r) (hT : HasT W) => (hmb ▸ match16 s hs6 r h1 h2 W ok _ h hT : Calls Tryd.prog 16 #[_, .string s] W fun e w' => e = .returned (.bool mb) ∧ Below W.heap.size W w'))
    have hEl := hide (fun (a : Nat) => show (natI (endsA r s.data.toList (a : Int))).length ≤ 1000000 by rw [natI_len]; have := endsA_len r s.data.toList (a : Int); omega)
    cases hf : findP r s.data.toList from_ with
    | some ab =>
      obtain ⟨a, b⟩ := ab
      obtain ⟨k0, k1, k2, k3, k4⟩ := findP_spec hf
      rw [hf] at H14
      have H14 := hide (show ∀ (W : World) (h : RxV W ok (.agg #[.int .i64 qa, .slice Aa na ca, .int .i64 ya, .int .i64 za, .slice Da ma da]) r) (hT : HasT W), Calls Tryd.prog 14 #[(.agg #[.int .i64 qa, .slice Aa na ca, .int .i64 ya, .int .i64 za, .slice Da ma da]), .string s, .int .i64 from_] W fun e w' => e = .returned (.tuple #[.agg #[.int .i64 (a : Int), .int .i64 (b : Int)], .bool true]) ∧ Below W.heap.size W w' from H14)
      have hmt : mb = true := by rw [← hmb, match_some]; exact ⟨k0, a, k2, fun e => by rw [e] at k3; cases k3⟩
      subst hmt
      have HNo := hide (show ∀ q, f0 ≤ q → q < a → (natI (endsA r s.data.toList (q : Int))).length = 0 from fun q h3 h4 => by rw [endsA_in k0 _ q (by omega), k4 q (by omega) h4]; rfl)
      obtain ⟨m, hm⟩ : ∃ m, (natI (endsA r s.data.toList (a : Int))).length = m + 1 := ⟨(natI (endsA r s.data.toList (a : Int))).length - 1, by
        have : 0 < (natI (endsA r s.data.toList (a : Int))).length := by
          rw [natI_len, endsA_in k0 _ a k2]
          exact List.length_pos_iff.2 (fun e => by rw [e] at k3; cases k3)
        omega⟩
      have hmle : m ≤ 1000000 := by have := hEl.out a; omega
      have Hm := hide hm
      have HLast := hide (show (natI (endsA r s.data.toList (a : Int)))[m]? = some (b : Int) by
        have e1 : endsA r s.data.toList (a : Int) = endsC r s.data.toList a := endsA_in k0 _ a k2
        rw [e1, natI_len] at hm
        rw [e1]
        unfold natI
        rw [List.getElem?_map]
        rw [List.getLast?_eq_getElem?, show (endsC r s.data.toList a).length - 1 = m by omega] at k3
        rw [k3]
        rfl)
      have hfa : f0 ≤ a := by omega
      have has : a ≤ s.size := by omega
      clear h1 h2 hmb hf k3 k4 hm
      go_enter Tryd.func6, Tryd.ntmps6
      go_wp2_with fail
      with_reducible refine HA.out.mono ?_
      rintro e w1 ⟨rfl, hb⟩
      have B1 := hide (bgo Ba.out hb)
      have Ra1 := hide (Ra.out.kept hb)
      have Ta1 := hide (Ta.out.below hb)
      have Fa1 := hide (Fa.out.keep hb)
      clear hb Ba Ra Fa Ta
      obtain ⟨-, t0, t1, t2, t3, t4⟩ := Fa1.out
      go_wp2_with fail
      with_reducible refine (H14.out _ Ra1.out Ta1.out).mono ?_
      rintro e w2 ⟨rfl, hb⟩
      have hb2 := bgo hb (bnew (Below.refl _ w2) (.cells #[.int .i64 (a : Int), .int .i64 (b : Int)] 32))
      have B2 := hide (bgo B1.out hb2)
      have Ra2 := hide (Ra1.out.kept hb2)
      have Ta2 := hide (Ta1.out.below hb2)
      have Fa2 := hide (Fa1.out.keep hb2)
      have T2 := hide (two_alloc w2 (.int .i64 (a : Int)) (.int .i64 (b : Int)) 32)
      go_upto_region 6 with fail
      obtain ⟨p7, hp7⟩ : ∃ p7, w2.heap.size = p7 := ⟨_, rfl⟩
      obtain ⟨x2, hx2⟩ : ∃ x2, w2.alloc (.cells #[.int .i64 (a : Int), .int .i64 (b : Int)] 32) = x2 := ⟨_, rfl⟩
      rw [hx2] at B2 Ra2 Ta2 Fa2 T2 ⊢
      rw [hp7] at T2 ⊢
      clear hb hb2 hx2 hp7 B1 Ra1 Ta1 Fa1 t0 t1 t2 t3 t4 H14 HA
      have hmx : max from_ 0 = (f0 : Int) := by omega
      go_wp2_with fail
      go_loopw [9, 10] (fun y _ wr => ∃ i : Nat, f0 ≤ i ∧ i ≤ a ∧ y = .int .i64 (i : Int) ∧ Below x2.heap.size x2 wr) (fun y _ _ => a - (intOf y).toNat)
      case atStart => exact ⟨f0, Nat.le_refl _, hfa, rfl, Below.refl _ _⟩
      case round =>
        obtain ⟨i, hi1, hi2, rfl, hbel⟩ := hrel
        obtain ⟨x, hx⟩ : ∃ x, x = wr := ⟨wr, rfl⟩
        subst hx
        have B3 := hide (bgo B2.out hbel)
        have Ra3 := hide (Ra2.out.kept hbel)
        have Ta3 := hide (Ta2.out.below hbel)
        have Fa3 := hide (Fa2.out.keep hbel)
        have T3 := hide (T2.out.keep hbel)
        have Hb2 := hide hbel
        clear hbel
        have hin : (i : Int) ≤ (s.size : Int) := by omega
        have hi60 : (i : Int) ≤ 60 := by omega
        by_cases hia : i = a
        · subst hia
          obtain ⟨M1, hM1⟩ : ∃ M1, m + 1 = M1 := ⟨_, rfl⟩
          have HC := hide (H12.out x i M1 (by rw [← hM1]; exact Hm.out) Ra3.out Ta3.out)
          have hm0 : (0 : Int) < (M1 : Int) := by omega
          have hm2 : (m : Int) ≤ 1000000 := by omega
          have hm3 : (M1 : Int) - 1 = (m : Int) := by omega
          have hm4 : (m : Int) < (M1 : Int) := by omega
          have hm5 : m < M1 := by omega
          have hm7 : 0 < M1 := by omega
          have hm8 : ¬ (M1 : Int) ≤ (m : Int) := by omega
          have hm9 : ¬ M1 ≤ m := by omega
          have hma : (0 : Int) ≤ (m : Int) := by omega
          have hmb2 : (m : Int).toNat = m := by omega
          have hmc : IntKind.i64.wrap (m : Int) = (m : Int) := IntWalk.i64_in _ (by omega)
          have hd0 : decide ((0 : Int) < (M1 : Int)) = true := decide_eq_true hm0
          have hd1 : decide (0 < M1) = true := decide_eq_true hm7
          have hm6 : (M1 : Int) ≤ 1000001 := by omega
          clear hM1
          obtain ⟨-, t0, t1, t2, t3, t4⟩ := Fa3.out
          obtain ⟨-, r0, r1⟩ := T3.out
          go_wp2_with fail
          with_reducible refine HC.out.mono ?_
          rintro e w4 ⟨AE, cE, rfl, hsE, hb⟩
          have hrd := hsE.reads
          obtain ⟨ad, z, rfl, hz, hcz⟩ := num_cell hrd hm5
          obtain rfl : z = (b : Int) := by have := HLast.out; rw [hz] at this; exact Option.some.inj this
          have Sz := hide hcz
          clear hz hrd hsE hcz
          have hb4 := hb
          have B4 := hide (bgo B3.out hb)
          have Ra4 := hide (Ra3.out.kept hb)
          have Ta4 := hide (Ta3.out.below hb)
          have Fa4 := hide (Fa3.out.keep hb)
          have T4 := hide (T3.out.keep hb)
          have Hb4 := hide (bgo Hb2.out hb)
          clear hb hb4 t0 t1 t2 t3 t4 r0 r1
          by_cases hfp : (0 : Int) < from_
          · have hcz := Sz.out
            obtain ⟨-, t0, t1, t2, t3, t4⟩ := Fa4.out
            obtain ⟨-, r0, r1⟩ := T4.out
            go_wp2_with fail
            go_quiet (fail)
            go_wp2
            go_ret
            exact ⟨rfl, bdr B4.out _⟩
          · have hfd : decide ((0 : Int) < from_) = false := decide_eq_false hfp
            have hcz := Sz.out
            obtain ⟨-, t0, t1, t2, t3, t4⟩ := Fa4.out
            obtain ⟨-, r0, r1⟩ := T4.out
            go_wp2_with fail
            obtain ⟨x, hx⟩ : ∃ x, x = w4 := ⟨_, rfl⟩
            subst hx
            have HK := hide (show ∀ X : World, Below x.heap.size x X → (X.cell? ⟨w.heap.size, 0, none⟩ = some (.int .i64 qa) ∧ X.cell? ⟨w.heap.size, 1, none⟩ = some (.slice Aa na ca) ∧ X.cell? ⟨w.heap.size, 2, none⟩ = some (.int .i64 ya) ∧ X.cell? ⟨w.heap.size, 3, none⟩ = some (.int .i64 za) ∧ X.cell? ⟨w.heap.size, 4, none⟩ = some (.slice Da ma da) ∧ X.cell? ⟨p7, 0, none⟩ = some (.int .i64 (i : Int)) ∧ X.cell? ⟨p7, 1, none⟩ = some (.int .i64 (b : Int)) ∧ X.cell? (ad.add m) = some (.int .i64 (b : Int))) ∧ Below x.heap.size x X from fun X hb => by
              obtain ⟨-, t0, t1, t2, t3, t4⟩ := Fa4.out.keep hb
              exact ⟨⟨t0, t1, t2, t3, t4, (T4.out.keep hb).2.1, (T4.out.keep hb).2.2, (hb.cell (World.block_lt_of_cell? _ _ Sz.out)).trans Sz.out⟩, hb⟩)
            have HS0 := hide (bel_drew x)
            have HKs := hide (show ∀ X Y : World, (X.cell? ⟨w.heap.size, 0, none⟩ = some (.int .i64 qa) ∧ X.cell? ⟨w.heap.size, 1, none⟩ = some (.slice Aa na ca) ∧ X.cell? ⟨w.heap.size, 2, none⟩ = some (.int .i64 ya) ∧ X.cell? ⟨w.heap.size, 3, none⟩ = some (.int .i64 za) ∧ X.cell? ⟨w.heap.size, 4, none⟩ = some (.slice Da ma da) ∧ X.cell? ⟨p7, 0, none⟩ = some (.int .i64 (i : Int)) ∧ X.cell? ⟨p7, 1, none⟩ = some (.int .i64 (b : Int)) ∧ X.cell? (ad.add m) = some (.int .i64 (b : Int))) ∧ Below x.heap.size x X → Below X.heap.size X Y → (Y.cell? ⟨w.heap.size, 0, none⟩ = some (.int .i64 qa) ∧ Y.cell? ⟨w.heap.size, 1, none⟩ = some (.slice Aa na ca) ∧ Y.cell? ⟨w.heap.size, 2, none⟩ = some (.int .i64 ya) ∧ Y.cell? ⟨w.heap.size, 3, none⟩ = some (.int .i64 za) ∧ Y.cell? ⟨w.heap.size, 4, none⟩ = some (.slice Da ma da) ∧ Y.cell? ⟨p7, 0, none⟩ = some (.int .i64 (i : Int)) ∧ Y.cell? ⟨p7, 1, none⟩ = some (.int .i64 (b : Int)) ∧ Y.cell? (ad.add m) = some (.int .i64 (b : Int))) ∧ Below x.heap.size x Y from fun X Y h hb => HK.out Y (bgo h.2 hb))
            have HKb := hide (show ∀ X : World, (X.cell? ⟨w.heap.size, 0, none⟩ = some (.int .i64 qa) ∧ X.cell? ⟨w.heap.size, 1, none⟩ = some (.slice Aa na ca) ∧ X.cell? ⟨w.heap.size, 2, none⟩ = some (.int .i64 ya) ∧ X.cell? ⟨w.heap.size, 3, none⟩ = some (.int .i64 za) ∧ X.cell? ⟨w.heap.size, 4, none⟩ = some (.slice Da ma da) ∧ X.cell? ⟨p7, 0, none⟩ = some (.int .i64 (i : Int)) ∧ X.cell? ⟨p7, 1, none⟩ = some (.int .i64 (b : Int)) ∧ X.cell? (ad.add m) = some (.int .i64 (b : Int))) ∧ Below x.heap.size x X → Below w.heap.size w X from fun X h => bgo B4.out h.2)
            have HRa := hide (show ∀ X : World, (X.cell? ⟨w.heap.size, 0, none⟩ = some (.int .i64 qa) ∧ X.cell? ⟨w.heap.size, 1, none⟩ = some (.slice Aa na ca) ∧ X.cell? ⟨w.heap.size, 2, none⟩ = some (.int .i64 ya) ∧ X.cell? ⟨w.heap.size, 3, none⟩ = some (.int .i64 za) ∧ X.cell? ⟨w.heap.size, 4, none⟩ = some (.slice Da ma da) ∧ X.cell? ⟨p7, 0, none⟩ = some (.int .i64 (i : Int)) ∧ X.cell? ⟨p7, 1, none⟩ = some (.int .i64 (b : Int)) ∧ X.cell? (ad.add m) = some (.int .i64 (b : Int))) ∧ Below x.heap.size x X → RxV X ok (.agg #[.int .i64 qa, .slice Aa na ca, .int .i64 ya, .int .i64 za, .slice Da ma da]) r from fun X h => Ra4.out.kept h.2)
            have HTa := hide (show ∀ X : World, (X.cell? ⟨w.heap.size, 0, none⟩ = some (.int .i64 qa) ∧ X.cell? ⟨w.heap.size, 1, none⟩ = some (.slice Aa na ca) ∧ X.cell? ⟨w.heap.size, 2, none⟩ = some (.int .i64 ya) ∧ X.cell? ⟨w.heap.size, 3, none⟩ = some (.int .i64 za) ∧ X.cell? ⟨w.heap.size, 4, none⟩ = some (.slice Da ma da) ∧ X.cell? ⟨p7, 0, none⟩ = some (.int .i64 (i : Int)) ∧ X.cell? ⟨p7, 1, none⟩ = some (.int .i64 (b : Int)) ∧ X.cell? (ad.add m) = some (.int .i64 (b : Int))) ∧ Below x.heap.size x X → HasT X from fun X h => Ta4.out.below h.2)

            go_region_held3 (fun w' => (w'.cell? ⟨w.heap.size, 0, none⟩ = some (.int .i64 qa) ∧ w'.cell? ⟨w.heap.size, 1, none⟩ = some (.slice Aa na ca) ∧ w'.cell? ⟨w.heap.size, 2, none⟩ = some (.int .i64 ya) ∧ w'.cell? ⟨w.heap.size, 3, none⟩ = some (.int .i64 za) ∧ w'.cell? ⟨w.heap.size, 4, none⟩ = some (.slice Da ma da) ∧ w'.cell? ⟨p7, 0, none⟩ = some (.int .i64 (i : Int)) ∧ w'.cell? ⟨p7, 1, none⟩ = some (.int .i64 (b : Int)) ∧ w'.cell? (ad.add m) = some (.int .i64 (b : Int))) ∧ Below x.heap.size x w')
              (first | exact HK.out _ HS0.out | exact HKs.out _ _ (by assumption) hb4)
              (first
                | (go_at_call 16; (with_reducible refine (H16.out _ (HRa.out _ ?_) (HTa.out _ ?_)).mono ?_); assumption; assumption; rintro e w5 ⟨rfl, hb4⟩))
            all_goals
              have Bfin := HKb.out _ (by assumption)
              go_wp2
              go_ret
              exact ⟨rfl, Bfin⟩
        · have hil : i < a := by omega
          have hne : ((i : Int) == (a : Int)) = false := beq_eq_false_iff_ne.2 (by omega)
          have HC := hide (H12.out x i 0 (HNo.out i hi1 hil) Ra3.out Ta3.out)
          obtain ⟨-, t0, t1, t2, t3, t4⟩ := Fa3.out
          obtain ⟨-, r0, r1⟩ := T3.out
          clear hia
          go_wp2_with fail
          with_reducible refine HC.out.mono ?_
          rintro e w4 ⟨AE, cE, rfl, hsE, hb⟩
          clear hsE
          have hb4 := hb
          have B4 := hide (bgo B3.out hb)
          have Ra4 := hide (Ra3.out.kept hb)
          have Ta4 := hide (Ta3.out.below hb)
          have Fa4 := hide (Fa3.out.keep hb)
          have T4 := hide (T3.out.keep hb)
          have Hb4 := hide (bgo Hb2.out hb)
          clear hb hb4 t0 t1 t2 t3 t4 r0 r1
          obtain ⟨-, t0, t1, t2, t3, t4⟩ := Fa4.out
          obtain ⟨-, r0, r1⟩ := T4.out
          go_wp2
          go_roundw
          case rel => exact ⟨i + 1, by omega, by omega, by go_num, Hb4.out⟩
          case measure => simp [intOf]; omega
    | none =>
      rw [hf] at H14
      have H14 := hide (show ∀ (W : World) (h : RxV W ok (.agg #[.int .i64 qa, .slice Aa na ca, .int .i64 ya, .int .i64 za, .slice Da ma da]) r) (hT : HasT W), Calls Tryd.prog 14 #[(.agg #[.int .i64 qa, .slice Aa na ca, .int .i64 ya, .int .i64 za, .slice Da ma da]), .string s, .int .i64 from_] W fun e w' => e = .returned (.tuple #[.agg #[.int .i64 0, .int .i64 0], .bool false]) ∧ Below W.heap.size W w' from H14)
      have hno := findP_nil hf
      have HNo := hide (show ∀ q, f0 ≤ q → q ≤ s.size → (natI (endsA r s.data.toList (q : Int))).length = 0 from fun q h3 h4 => by rw [hno q (by omega) (by omega)]; rfl)
      have HMb := hide (show from_ ≤ 0 → mb = false from fun h => by
        rw [← hmb, Bool.eq_false_iff, ne_eq, match_some]
        rintro ⟨k0, q, k1, k2⟩
        have := hno q (by omega) k1
        rw [endsA_in k0 _ q k1] at this
        exact k2 this)
      clear h1 h2 hmb hf hno
      go_enter Tryd.func6, Tryd.ntmps6
      go_wp2_with fail
      with_reducible refine HA.out.mono ?_
      rintro e w1 ⟨rfl, hb⟩
      have B1 := hide (bgo Ba.out hb)
      have Ra1 := hide (Ra.out.kept hb)
      have Ta1 := hide (Ta.out.below hb)
      have Fa1 := hide (Fa.out.keep hb)
      clear hb Ba Ra Fa Ta
      obtain ⟨-, t0, t1, t2, t3, t4⟩ := Fa1.out
      go_wp2_with fail
      with_reducible refine (H14.out _ Ra1.out Ta1.out).mono ?_
      rintro e w2 ⟨rfl, hb⟩
      have hb2 := bgo hb (bnew (Below.refl _ w2) (.cells #[.int .i64 0, .int .i64 0] 32))
      have B2 := hide (bgo B1.out hb2)
      have Ra2 := hide (Ra1.out.kept hb2)
      have Ta2 := hide (Ta1.out.below hb2)
      have Fa2 := hide (Fa1.out.keep hb2)
      have T2 := hide (two_alloc w2 (.int .i64 0) (.int .i64 0) 32)
      go_upto_region 6 with fail
      obtain ⟨p7, hp7⟩ : ∃ p7, w2.heap.size = p7 := ⟨_, rfl⟩
      obtain ⟨x2, hx2⟩ : ∃ x2, w2.alloc (.cells #[.int .i64 0, .int .i64 0] 32) = x2 := ⟨_, rfl⟩
      rw [hx2] at B2 Ra2 Ta2 Fa2 T2 ⊢
      rw [hp7] at T2 ⊢
      clear hb hb2 hx2 hp7 B1 Ra1 Ta1 Fa1 t0 t1 t2 t3 t4 H14 HA
      have hmx : max from_ 0 = (f0 : Int) := by omega
      go_wp2_with fail
      go_loopw [9, 10] (fun y _ wr => ∃ i : Nat, f0 ≤ i ∧ (i ≤ s.size + 1 ∨ i = f0) ∧ y = .int .i64 (i : Int) ∧ Below x2.heap.size x2 wr) (fun y _ _ => s.size + 1 - (intOf y).toNat)
      case atStart => exact ⟨f0, Nat.le_refl _, Or.inr rfl, rfl, Below.refl _ _⟩
      case round =>
        obtain ⟨i, hi1, hi2, rfl, hbel⟩ := hrel
        obtain ⟨x, hx⟩ : ∃ x, x = wr := ⟨wr, rfl⟩
        subst hx
        have B3 := hide (bgo B2.out hbel)
        have Ra3 := hide (Ra2.out.kept hbel)
        have Ta3 := hide (Ta2.out.below hbel)
        have Fa3 := hide (Fa2.out.keep hbel)
        have T3 := hide (T2.out.keep hbel)
        have Hb2 := hide hbel
        clear hbel
        by_cases hin' : i ≤ s.size
        · have hin : (i : Int) ≤ (s.size : Int) := by omega
          have hi60 : (i : Int) ≤ 60 := by omega
          have HC := hide (H12.out x i 0 (HNo.out i hi1 hin') Ra3.out Ta3.out)
          obtain ⟨-, t0, t1, t2, t3, t4⟩ := Fa3.out
          obtain ⟨-, r0, r1⟩ := T3.out
          go_wp2_with fail
          with_reducible refine HC.out.mono ?_
          rintro e w4 ⟨AE, cE, rfl, hsE, hb⟩
          clear hsE
          have hb4 := hb
          have B4 := hide (bgo B3.out hb)
          have Ra4 := hide (Ra3.out.kept hb)
          have Ta4 := hide (Ta3.out.below hb)
          have Fa4 := hide (Fa3.out.keep hb)
          have T4 := hide (T3.out.keep hb)
          have Hb4 := hide (bgo Hb2.out hb)
          clear hb hb4 t0 t1 t2 t3 t4 r0 r1
          obtain ⟨-, t0, t1, t2, t3, t4⟩ := Fa4.out
          obtain ⟨-, r0, r1⟩ := T4.out
          go_wp2
          go_roundw
          case rel => exact ⟨i + 1, by omega, Or.inl (by omega), by go_num, Hb4.out⟩
          case measure => simp [intOf]; omega
        · have hin : ¬ (i : Int) ≤ (s.size : Int) := by omega
          have hmi : (i : Int) ≤ 9223372036854775807 := by omega
          obtain ⟨-, t0, t1, t2, t3, t4⟩ := Fa3.out
          obtain ⟨-, r0, r1⟩ := T3.out
          by_cases hfp : (0 : Int) < from_
          · go_wp2
            go_ret
            exact ⟨rfl, B3.out⟩
          · obtain rfl := HMb.out (by omega)
            have HC := hide (H16.out x Ra3.out Ta3.out)
            go_wp2_with fail
            with_reducible refine HC.out.mono ?_
            rintro e w4 ⟨rfl, hb⟩
            have B4 := hide (bgo B3.out hb)
            clear hb t0 t1 t2 t3 t4 r0 r1
            go_wp2
            go_ret
            exact ⟨rfl, B4.out⟩
end Go.Proofs.YtkghbhcjgogaeaaDoor
