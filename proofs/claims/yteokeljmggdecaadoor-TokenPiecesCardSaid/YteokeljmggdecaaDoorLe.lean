/- Layer 11's law: TokenPlaces. -/
import Derived.Test.YteokeljmggdecaaDoorLd
import Derived.BigQuiet
import Derived.Deep.RegionHeld3
namespace Go.Proofs.YteokeljmggdecaaDoor
open Go.RowKit

theorem ext_list (s : ByteArray) (k e : Nat) (h : k ≤ e) : (s.extract k e).data.toList = (s.data.toList.drop k).take (e - k) := by
  rw [show e = k + (e - k) by omega, ext_bs, bs_list, show k + (e - k) - k = e - k by omega]
theorem ext_list2 (s : ByteArray) (k : Nat) : (s.extract k s.size).data.toList = s.data.toList.drop k := by
  rw [bs_drop, bs_list]
theorem ext_size (s : ByteArray) (k e : Nat) : (s.extract k e).size ≤ s.size := by
  rw [ByteArray.size_extract]
  omega
set_option maxRecDepth 20000 in
set_option maxHeartbeats 6400000 in
theorem law7 (s : ByteArray) (hs : s.size ≤ 9223372036854775807) (w : World) : Calls Tryd.prog 7 #[.string s] w fun en w' => en = .returned (.bool true) ∧ Below w.heap.size w w' := by
  have HA := hide (alive9 w)
  by_cases h3 : 1000 < s.size
  · have hg : (1000 : Int) < (s.size : Int) := by omega
    have hg2 : (s.size : Int) > 1000 := hg
    clear h3
    go_enter Tryd.func7, Tryd.ntmps7
    go_wp2_with fail
    with_reducible refine HA.out.mono ?_
    rintro en w1 ⟨rfl, hb1⟩
    have HB1 := hide hb1
    clear hb1
    go_wp2
    go_ret
    exact ⟨rfl, HB1.out⟩
  · have hg : ¬ (1000 : Int) < (s.size : Int) := by omega
    have hg2 : ¬ (s.size : Int) > 1000 := hg
    have H1 := hide (fun W => pScan s (by omega) W)
    rcases res_ways false s.data.toList with ⟨l, hl, hX, har, hl6⟩ | ⟨a, e, hl, hX, ha, he⟩
    · rw [hX] at H1
      have HP0 := hide (places_scan hl)
      have hs1 : s.size ≤ 1000 := by omega
      clear h3 hl hX har hl6
      go_enter Tryd.func7, Tryd.ntmps7
      go_wp2_with fail
      with_reducible refine HA.out.mono ?_
      rintro en w1 ⟨rfl, hb1⟩
      have HB1 := hide hb1
      clear hb1
      go_wp2_with fail
      with_reducible refine (H1.out _).mono ?_
      rintro en w2 ⟨A, n, c, rfl, ht2, hb2⟩
      have HB2 := hide (bgo HB1.out hb2)
      have H := hide ht2
      have Hn := hide ht2.2.2.1
      have hnc := ht2.1
      have hcc := ht2.2.1
      clear hb2 ht2
      dsimp only
      go_wp2_with fail
      go_loopw [6, 7] (fun u y wr => ∃ i z : Nat, i ≤ n ∧ z ≤ s.size ∧ u = .int .i64 (z : Int) ∧ y = .int .i64 (i : Int) ∧ PlacesS s.data.toList z (l.drop i) ∧ Below w2.heap.size w2 wr) (fun _ y _ => n - (intOf y).toNat)
      case atStart => exact ⟨0, 0, Nat.zero_le _, Nat.zero_le _, rfl, rfl, HP0.out, Below.refl _ _⟩
      case round =>
        obtain ⟨i, z, hi, hz, rfl, rfl, hpl, hbk⟩ := hrel
        rename_i wr _
        by_cases hlt : i < n
        · have hki : (i : Int) < (n : Int) := by omega
          obtain ⟨g, o, t, rfl, ht, c0, c1, c2, c3⟩ := (H.out.below hbk).at_ hlt
          rw [List.drop_eq_getElem_cons (by rw [Hn.out]; exact hlt), show l[i]'(by rw [Hn.out]; exact hlt) = t from by rw [List.getElem?_eq_getElem (by rw [Hn.out]; exact hlt)] at ht; exact Option.some.inj ht] at hpl
          obtain ⟨a, b, ha, hb, hza, hab, hbs, hS1, hS2, hrest⟩ := hpl
          rw [size_list] at hbs
          obtain ⟨tk, tt, ta, te⟩ := t
          dsimp only at ha hb hS2 c0 c1 c2 c3
          subst ha hb
          have HR := hide hrest
          have HC1 := fun W => pScan (s.extract z a) (by have := ext_size s z a; omega) W
          rw [ext_list s z a hza, hS1] at HC1
          have HC1 := hide (show ∀ W, Calls Tryd.prog 10 #[.string (s.extract z a)] W (GotS W ([], 0, 0)) from HC1)
          have HC2 := fun W => pScan (s.extract a b) (by have := ext_size s a b; omega) W
          rw [ext_list s a b (by omega), hS2] at HC2
          have HC2 := hide (show ∀ W, Calls Tryd.prog 10 #[.string (s.extract a b)] W (fun e w' => ∃ A n c, e = .returned (.tuple #[.slice A n c, .int .i64 0, .int .i64 0]) ∧ TkS w' A n c [⟨tk, tt, 0, ((b - a : Nat) : Int)⟩] ∧ Below W.heap.size W w') from HC2)
          obtain ⟨T, hT⟩ : ∃ T, bs tt = T := ⟨_, rfl⟩
          rw [hT] at c1
          have HT := hide hT
          have q1 : (tk != tk) = false := by simp
          have d1 : decide ((a : Int) < (z : Int)) = false := decide_eq_false (by omega)
          have d2 : decide ((b : Int) ≤ (a : Int)) = false := decide_eq_false (by omega)
          have d3 : decide ((b : Int) > (s.size : Int)) = false := decide_eq_false (by omega)
          have d3' : decide ((s.size : Int) < (b : Int)) = false := decide_eq_false (by omega)
          have n1 : ¬ (a : Int) < (z : Int) := by omega
          have n2 : ¬ (b : Int) ≤ (a : Int) := by omega
          have n3 : ¬ (s.size : Int) < (b : Int) := by omega
          have HBk := hide hbk
          have e1 : (z : Int) ≤ (a : Int) := by omega
          have e2 : (a : Int) ≤ (b : Int) := by omega
          have e3 : (b : Int) ≤ (s.size : Int) := by omega
          have e4 : (a : Int) ≤ (s.size : Int) := by omega
          clear ht hS1 hS2 hT hbk hrest
          have ccl : ∀ (p : Addr) (v : Value), wr.cell? p = some v → ∀ X : World, Below wr.heap.size wr X → X.cell? p = some v := fun p v h X hb => (hb.cell (p := p) (World.block_lt_of_cell? _ _ h)).trans h
          have HCl := hide (show ∀ X : World, Below wr.heap.size wr X → X.cell? ⟨g, o + i * 4, none⟩ = some (.int .i64 tk) ∧ X.cell? ⟨g, o + i * 4 + 1, none⟩ = some (.string T) ∧ X.cell? ⟨g, o + i * 4 + 2, none⟩ = some (.int .i64 (a : Int)) ∧ X.cell? ⟨g, o + i * 4 + 3, none⟩ = some (.int .i64 (b : Int)) from
            fun X hb => ⟨ccl _ _ c0 X hb, ccl _ _ c1 X hb, ccl _ _ c2 X hb, ccl _ _ c3 X hb⟩)
          clear ccl
          go_wp2_with fail
          go_quiet (fail)
          have Hwq := hide (show Below wr.heap.size wr (wr.drewN nq) from Drawn.below ⟨nq, rfl⟩ _)
          have c2q := (HCl.out _ Hwq.out).2.2.1
          clear c0 c1 c2 c3
          generalize wr.drewN nq = wq at c2q Hwq ⊢
          go_wp2_with fail
          with_reducible refine (HC1.out _).mono ?_
          rintro en w3 ⟨A1, m1, k1, rfl, ht3, hb3⟩
          obtain rfl : m1 = 0 := ht3.2.2.1.symm
          have hmk1 := ht3.1
          have HB3 := hide (bgo Hwq.out hb3)
          clear hb3 ht3 c2q
          dsimp only
          obtain ⟨-, -, y2, y3⟩ := HCl.out w3 HB3.out
          obtain ⟨x, hx⟩ : ∃ x, x = w3 := ⟨_, rfl⟩
          subst hx
          have HK := hide (show ∀ X : World, Below x.heap.size x X → (X.cell? ⟨g, o + i * 4 + 2, none⟩ = some (.int .i64 (a : Int)) ∧ X.cell? ⟨g, o + i * 4 + 3, none⟩ = some (.int .i64 (b : Int))) ∧ Below x.heap.size x X from fun X hb => ⟨⟨(hb.cell (p := ⟨g, o + i * 4 + 2, none⟩) (World.block_lt_of_cell? _ _ y2)).trans y2, (hb.cell (p := ⟨g, o + i * 4 + 3, none⟩) (World.block_lt_of_cell? _ _ y3)).trans y3⟩, hb⟩)
          have HS0 := hide (below_drew x)
          have HKs := hide (show ∀ X Y : World, ((X.cell? ⟨g, o + i * 4 + 2, none⟩ = some (.int .i64 (a : Int)) ∧ X.cell? ⟨g, o + i * 4 + 3, none⟩ = some (.int .i64 (b : Int))) ∧ Below x.heap.size x X) → Below X.heap.size X Y → (Y.cell? ⟨g, o + i * 4 + 2, none⟩ = some (.int .i64 (a : Int)) ∧ Y.cell? ⟨g, o + i * 4 + 3, none⟩ = some (.int .i64 (b : Int))) ∧ Below x.heap.size x Y from fun X Y h hb => HK.out Y (bgo h.2 hb))
          have HK0 := hide (show ∀ X : World, ((X.cell? ⟨g, o + i * 4 + 2, none⟩ = some (.int .i64 (a : Int)) ∧ X.cell? ⟨g, o + i * 4 + 3, none⟩ = some (.int .i64 (b : Int))) ∧ Below x.heap.size x X) → Below x.heap.size x X from fun X h => h.2)
          go_wp2_with fail
          clear y2 y3
          go_region_held3 (fun w' => (w'.cell? ⟨g, o + i * 4 + 2, none⟩ = some (.int .i64 (a : Int)) ∧ w'.cell? ⟨g, o + i * 4 + 3, none⟩ = some (.int .i64 (b : Int))) ∧ Below x.heap.size x w')
            (first | assumption | exact HK.out _ HS0.out | exact HKs.out _ _ (by assumption) hb4)
            (first
              | (go_at_call 10; with_reducible refine (HC2.out _).mono ?_; rintro e w4 ⟨A2, m2, k2, rfl, ht4, hb4⟩))
          all_goals
            have HB4 := hide (bgo HB3.out (HK0.out w4 (by assumption)))
            obtain rfl : m2 = 1 := ht4.2.2.1.symm
            obtain ⟨g2, o2, t2, hA2, ht2, x0, x1, x2, x3⟩ := ht4.at_ (k := 0) (by decide)
            obtain rfl : t2 = ⟨tk, tt, 0, ((b - a : Nat) : Int)⟩ := by injection ht2.symm
            subst hA2
            dsimp only at x0 x1
            rw [HT.out] at x1
            have hmk2 := ht4.1
            obtain ⟨y0, y1, y2, y3⟩ := HCl.out w4 HB4.out
            clear HK HS0 HKs HK0 ht4 hb4 ht2 x2 x3
            have x0' := x0
            have x1' := x1
            rw [Nat.zero_mul, Nat.add_zero] at x0' x1'
            have HBe := hide (bgo HBk.out HB4.out)
            go_wp2
            go_quiet (fail)
            have Hw5 := hide (show Below w4.heap.size w4 (w4.drewN nq) from Drawn.below ⟨nq, rfl⟩ _)
            have y3q := (HCl.out _ (bgo HB4.out Hw5.out)).2.2.2
            clear x0 x1 x0' x1' y0 y1 y2 y3
            go_wp2
            go_roundw
            case rel => exact ⟨i + 1, b, by omega, hbs, rfl, by go_num, HR.out, bgo HBe.out Hw5.out⟩
            case measure => simp [intOf]; omega
        · have hki : ¬ (i : Int) < (n : Int) := by omega
          obtain rfl : i = n := by omega
          rw [List.drop_of_length_le (by rw [Hn.out]; omega)] at hpl
          have hpl : scanS false (s.data.toList.drop z) = .ok [] := hpl
          have HC1 := fun W => pScan (s.extract z s.size) (by have := ext_size s z s.size; omega) W
          rw [ext_list2 s z, hpl] at HC1
          have HC1 := hide (show ∀ W, Calls Tryd.prog 10 #[.string (s.extract z s.size)] W (GotS W ([], 0, 0)) from HC1)
          have HBk := hide hbk
          have e1 : (z : Int) ≤ (s.size : Int) := by omega
          clear hpl hbk
          go_wp2_with fail
          with_reducible refine (HC1.out _).mono ?_
          rintro en w3 ⟨A1, m1, k1, rfl, ht3, hb3⟩
          obtain rfl : m1 = 0 := ht3.2.2.1.symm
          have hmk1 := ht3.1
          have HB3 := hide (bgo HB2.out (bgo HBk.out hb3))
          clear hb3 ht3
          dsimp only
          go_wp2
          go_ret
          exact ⟨rfl, HB3.out⟩
    · rw [hX] at H1
      have q1 : (e != 0) = true := by unfold bne; rw [beq_eq_false_iff_ne.2 he]; rfl
      clear h3 hl hX he ha
      go_enter Tryd.func7, Tryd.ntmps7
      go_wp2_with fail
      with_reducible refine HA.out.mono ?_
      rintro en w1 ⟨rfl, hb1⟩
      have HB1 := hide hb1
      clear hb1
      go_wp2_with fail
      with_reducible refine (H1.out _).mono ?_
      rintro en w2 ⟨A, n, c, rfl, ht2, hb2⟩
      have HB2 := hide (bgo HB1.out hb2)
      clear hb2 ht2
      dsimp only
      go_wp2
      go_ret
      exact ⟨rfl, HB2.out⟩
end Go.Proofs.YteokeljmggdecaaDoor
