/- Layer 11's law: TokenPrints. -/
import Derived.Test.YteokeljmggdecaaDoorLc
import Derived.Deep.RegionHeld3
namespace Go.Proofs.YteokeljmggdecaaDoor
open Go.RowKit

theorem below_drew (W : World) : Below W.heap.size W W.drew := Below.drew' _ _
set_option maxRecDepth 20000 in
set_option maxHeartbeats 6400000 in
theorem law4 (A : Option Addr) (n c : Nat) (B : Option Addr) (m d : Nat) (a b : List Tk) (w : World) (ha : TkS w A n c a) (hb : TkS w B m d b) (wa : Wide a) (wb : Wide b) :
    Calls Tryd.prog 4 #[.slice A n c, .slice B m d] w fun en w' => en = .returned (.bool true) ∧ Below w.heap.size w w' := by
  have HA := hide (alive9 w)
  have H := hide ha
  have K := hide hb
  have Hn := hide ha.2.2.1
  have hnc := ha.1
  have hcc := ha.2.1
  obtain ⟨Pa, hPa⟩ : ∃ P, bndS a = P := ⟨_, rfl⟩
  obtain ⟨Pb, hPb⟩ : ∃ P, bndS b = P := ⟨_, rfl⟩
  have Ba := hide (fun W (hW : TkS W A n c a) => lbounded A n c a W hW wa Pa hPa)
  have Bb := hide (fun W (hW : TkS W B m d b) => lbounded B m d b W hW wb Pb hPb)
  clear ha hb wa wb
  cases Pa with
  | false =>
    clear hPa hPb
    go_enter Tryd.func4, Tryd.ntmps4
    go_wp2_with fail
    with_reducible refine HA.out.mono ?_
    rintro en w1 ⟨rfl, hb1⟩
    have HB1 := hide hb1
    have HX := hide (Ba.out w1 (H.out.below hb1))
    clear hb1
    go_wp2_with fail
    with_reducible refine HX.out.mono ?_
    rintro en w2 ⟨rfl, rfl⟩
    go_wp2
    go_ret
    exact ⟨rfl, HB1.out⟩
  | true =>
    cases Pb with
    | false =>
      clear hPa hPb
      go_enter Tryd.func4, Tryd.ntmps4
      go_wp2_with fail
      with_reducible refine HA.out.mono ?_
      rintro en w1 ⟨rfl, hb1⟩
      have HB1 := hide hb1
      have HX := hide (Ba.out w1 (H.out.below hb1))
      have HY := hide (Bb.out w1 (K.out.below hb1))
      clear hb1
      go_wp2_with fail
      with_reducible refine HX.out.mono ?_
      rintro en w2 ⟨rfl, rfl⟩
      go_wp2_with fail
      with_reducible refine HY.out.mono ?_
      rintro en w2 ⟨rfl, rfl⟩
      go_wp2
      go_ret
      exact ⟨rfl, HB1.out⟩
    | true =>
      obtain ⟨hn7, hsh⟩ := bnd_short hPa
      rw [Hn.out] at hn7
      have Hsh := hide hsh
      have HP := fun W (hW : TkS W A n c a) => pprint A n c a W hW hn7 hsh
      have HR := fun W (hW : TkS W A n c a) => rprint A n c a W hW hn7 hsh
      obtain ⟨S, hS⟩ : ∃ S, bs (if allRight a = true then printS a else []) = S := ⟨_, rfl⟩
      obtain ⟨z, hz⟩ : ∃ z : Int, (if allRight a = true then 0 else 1) = z := ⟨_, rfl⟩
      rw [hS, hz] at HP HR
      have HP := hide HP
      have HR := hide HR
      obtain ⟨P, hP⟩ : ∃ P, sameT a b = P := ⟨_, rfl⟩
      have HS1 := fun W (hW : TkS W A n c a) (hW' : TkS W B m d b) => psame A B n c m d a b W hW hW'
      rw [hP] at HS1
      have HS1 := hide HS1
      have HS2 := hide (fun W (hW : TkS W A n c a) (hW' : TkS W B m d b) => rsame A B n c m d a b W hW hW' P hP)
      have HS3 := fun W (hW : TkS W A n c a) => psame A A n c n c a a W hW hW
      rw [show sameT a a = true from decide_eq_true rfl] at HS3
      have HS3 := hide HS3
      have q1 : (z != z) = false := by simp
      have q2 : (P != P) = false := by cases P <;> rfl
      clear hPa hPb hsh hS hz hP
      go_enter Tryd.func4, Tryd.ntmps4
      go_wp2_with fail
      with_reducible refine HA.out.mono ?_
      rintro en w1 ⟨rfl, hb1⟩
      have HB1 := hide hb1
      have H1 := hide (H.out.below hb1)
      have K1 := hide (K.out.below hb1)
      have HX := hide (Ba.out w1 H1.out)
      have HY := hide (Bb.out w1 K1.out)
      have HZ := hide (HP.out w1 H1.out)
      clear hb1
      go_wp2_with fail
      with_reducible refine HX.out.mono ?_
      rintro en w2 ⟨rfl, rfl⟩
      go_wp2_with fail
      with_reducible refine HY.out.mono ?_
      rintro en w2 ⟨rfl, rfl⟩
      go_wp2_with fail
      with_reducible refine HZ.out.mono ?_
      rintro en w3 ⟨rfl, hb3⟩
      have HB3 := hide (bgo HB1.out hb3)
      have H3 := hide (H1.out.below hb3)
      have K3 := hide (K1.out.below hb3)
      have HZ := hide (HR.out w3 H3.out)
      clear hb3
      go_wp2_with fail
      with_reducible refine HZ.out.mono ?_
      rintro en w4 ⟨rfl, hb4⟩
      have HB4 := hide (bgo HB3.out hb4)
      have H4 := hide (H3.out.below hb4)
      have K4 := hide (K3.out.below hb4)
      have HZ := hide (HS1.out w4 H4.out K4.out)
      clear hb4
      go_wp2_with fail
      with_reducible refine HZ.out.mono ?_
      rintro en w5 ⟨rfl, hb5⟩
      have HB5 := hide (bgo HB4.out hb5)
      have H5 := hide (H4.out.below hb5)
      have K5 := hide (K4.out.below hb5)
      have HZ := hide (HS2.out w5 H5.out K5.out)
      clear hb5
      go_wp2_with fail
      with_reducible refine HZ.out.mono ?_
      rintro en w6 ⟨rfl, hb6⟩
      have HB6 := hide (bgo HB5.out hb6)
      have H6 := hide (H5.out.below hb6)
      have HZ := hide (HS3.out w6 H6.out)
      clear hb6
      go_wp2_with fail
      with_reducible refine HZ.out.mono ?_
      rintro en w7 ⟨rfl, hb7⟩
      have HB7 := hide (bgo HB6.out hb7)
      have H7 := hide (H6.out.below hb7)
      clear hb7
      go_wp2_with fail
      go_loopw [9] (fun y wr => ∃ k : Nat, k ≤ n ∧ y = .int .i64 (k : Int) ∧ Below w7.heap.size w7 wr) (fun y _ => n - (intOf y).toNat)
      case atStart => exact ⟨0, Nat.zero_le _, rfl, Below.refl _ _⟩
      case round =>
        obtain ⟨k, hk, rfl, hbk⟩ := hrel
        rename_i wr _
        by_cases hlt : k < n
        · have hki : (k : Int) < (n : Int) := by omega
          obtain ⟨g, o, t, rfl, ht, c0, c1, c2, c3⟩ := (H7.out.below hbk).at_ hlt
          have hts := Hsh.out t (List.mem_of_getElem? ht)
          obtain ⟨T, hT⟩ : ∃ T, bs t.text = T := ⟨_, rfl⟩
          rw [hT] at c1
          have hTs : T.size ≤ maxLen := by rw [← hT, bs_size]; unfold maxLen; omega
          obtain ⟨Q, hQ⟩ : ∃ Q, isKw T.data.toList = Q := ⟨_, rfl⟩
          have HC1 := fun W => pkeyword T hTs W
          rw [hQ] at HC1
          have HC1 := hide HC1
          have HC2 := hide (fun W => rkeyword T Q hQ W)
          have q3 : (Q != Q) = false := by cases Q <;> rfl
          obtain ⟨x, hx⟩ : ∃ x, x = wr := ⟨_, rfl⟩
          subst hx
          have HBk := hide hbk
          have HK := hide (show ∀ X : World, Below x.heap.size x X → X.cell? ⟨g, o + k * 4 + 1, none⟩ = some (.string T) ∧ Below x.heap.size x X from fun X hb => ⟨(hb.cell (p := ⟨g, o + k * 4 + 1, none⟩) (World.block_lt_of_cell? _ _ c1)).trans c1, hb⟩)
          have HS0 := hide (below_drew x)
          have HKs := hide (show ∀ X Y : World, (X.cell? ⟨g, o + k * 4 + 1, none⟩ = some (.string T) ∧ Below x.heap.size x X) → Below X.heap.size X Y → Y.cell? ⟨g, o + k * 4 + 1, none⟩ = some (.string T) ∧ Below x.heap.size x Y from fun X Y h hb => HK.out Y (bgo h.2 hb))
          have HK0 := hide (show ∀ X : World, (X.cell? ⟨g, o + k * 4 + 1, none⟩ = some (.string T) ∧ Below x.heap.size x X) → Below x.heap.size x X from fun X h => h.2)
          clear c0 c2 c3 ht hts hT hTs hQ hbk
          go_wp2_with fail
          clear c1
          go_region_held3 (fun w' => w'.cell? ⟨g, o + k * 4 + 1, none⟩ = some (.string T) ∧ Below x.heap.size x w')
            (first | assumption | exact HK.out _ HS0.out | exact HKs.out _ _ (by assumption) hb4)
            (first
              | (go_at_call 20; with_reducible refine (HC1.out _).mono ?_; rintro e w4 ⟨rfl, hb4⟩)
              | (go_at_call 21; with_reducible refine (HC2.out _).mono ?_; rintro e w4 ⟨rfl, hb4⟩))
          all_goals
            have Bfin := hide (bgo HBk.out (HK0.out w4 (by assumption)))
            clear HK HS0 HKs HK0
            go_wp2
            go_roundw
            case rel => exact ⟨k + 1, by omega, by go_num, Bfin.out⟩
            case measure => simp [intOf]; omega
        · have hki : ¬ (k : Int) < (n : Int) := by omega
          have Hf := hide (bgo HB7.out hbk)
          clear hbk
          go_wp2
          go_ret
          exact ⟨rfl, Hf.out⟩
end Go.Proofs.YteokeljmggdecaaDoor
