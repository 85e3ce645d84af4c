/- Layer 11's laws: TokenScans, TokenBack, TokenAgain. -/
import Derived.Test.YteokeljmggdecaaDoorLb
namespace Go.Proofs.YteokeljmggdecaaDoor
open Go.RowKit

/-- A scan of a short string: letters for what it hands back. -/
theorem res_ways (pat : Bool) (d : List UInt8) : (∃ l, scanS pat d = .ok l ∧ resS (scanS pat d) = (l, 0, 0) ∧ allRight l = true ∧ l.length ≤ 600) ∨ (∃ (a : Nat) (e : Int), scanS pat d = .error (a, e) ∧ resS (scanS pat d) = ([], (a : Int), e) ∧ a < d.length ∧ e ≠ 0) := by
  have hf := scanS_facts pat d
  cases h : scanS pat d with
  | ok l => exact Or.inl ⟨l, rfl, rfl, (hf.1 l h).1, (hf.1 l h).2⟩
  | error x => exact Or.inr ⟨x.1, x.2, rfl, rfl, (hf.2 x.1 x.2 h).1, (hf.2 x.1 x.2 h).2⟩
set_option maxRecDepth 20000 in
set_option maxHeartbeats 6400000 in
theorem law3 (s : ByteArray) (hs : s.size ≤ 9223372036854775807) (w : World) : Calls Tryd.prog 3 #[.string s] w fun en w' => en = .returned (.bool true) ∧ Below w.heap.size w w' := by
  have HA := hide (alive9 w)
  by_cases h3 : 3000 < s.size
  · have hg : (3000 : Int) < (s.size : Int) := by omega
    have hg2 : (s.size : Int) > 3000 := hg
    clear h3
    go_enter Tryd.func3, Tryd.ntmps3
    go_wp2_with fail
    with_reducible refine HA.out.mono ?_
    rintro en w1 ⟨rfl, hb1⟩
    have HB1 := hide hb1
    clear hb1
    go_wp2
    go_ret
    exact ⟨rfl, HB1.out⟩
  · have hg : ¬ (3000 : Int) < (s.size : Int) := by omega
    have hg2 : ¬ (s.size : Int) > 3000 := hg
    have H1 := hide (fun W => pScan s (by omega) W)
    have H2 := hide (fun W => rScan s (by omega) W)
    have H3 := hide (fun W => pScanPattern s (by omega) W)
    have H4 := hide (fun W => rScanPattern s (by omega) W)
    obtain ⟨⟨l1, i1, e1⟩, hX1⟩ : ∃ X, resS (scanS false s.data.toList) = X := ⟨_, rfl⟩
    obtain ⟨⟨l2, i2, e2⟩, hX2⟩ : ∃ X, resS (scanS true s.data.toList) = X := ⟨_, rfl⟩
    rw [hX1] at H1 H2
    rw [hX2] at H3 H4
    have q1 : (e1 != e1) = false := by simp
    have q2 : (i1 != i1) = false := by simp
    have q3 : (e2 == e2) = true := by simp
    have q4 : (i2 == i2) = true := by simp
    clear hX1 hX2 h3
    go_enter Tryd.func3, Tryd.ntmps3
    go_wp2_with fail
    with_reducible refine HA.out.mono ?_
    rintro en w1 ⟨rfl, hb1⟩
    have HB1 := hide hb1
    clear hb1
    go_wp2_with fail
    with_reducible refine (H1.out _).mono ?_
    rintro en w2 ⟨A1, n1, c1, rfl, ht1, hb2⟩
    have HB2 := hide (bgo HB1.out hb2)
    have HT1 := hide ht1
    clear hb2 ht1
    dsimp only
    go_wp2_with fail
    with_reducible refine (H2.out _).mono ?_
    rintro en w3 ⟨A2, n2, c2, rfl, ht2, hb3⟩
    have HE := hide (requal A1 A2 n1 c1 n2 c2 l1 w3 (HT1.out.below hb3) ht2)
    have HB3 := hide (bgo HB2.out hb3)
    clear hb3 ht2
    dsimp only
    go_wp2_with fail
    with_reducible refine HE.out.mono ?_
    rintro en w4 ⟨rfl, hb4⟩
    have HB4 := hide (bgo HB3.out hb4)
    clear hb4
    go_wp2_with fail
    with_reducible refine (H3.out _).mono ?_
    rintro en w5 ⟨A3, n3, c3, rfl, ht3, hb5⟩
    have HB5 := hide (bgo HB4.out hb5)
    have HT3 := hide ht3
    clear hb5 ht3
    dsimp only
    go_wp2_with fail
    with_reducible refine (H4.out _).mono ?_
    rintro en w6 ⟨A4, n4, c4, rfl, ht4, hb6⟩
    have HE2 := hide (requal A3 A4 n3 c3 n4 c4 l2 w6 (HT3.out.below hb6) ht4)
    have HB6 := hide (bgo HB5.out hb6)
    clear hb6 ht4
    dsimp only
    go_wp2_with fail
    with_reducible refine HE2.out.mono ?_
    rintro en w7 ⟨rfl, hb7⟩
    have HB7 := hide (bgo HB6.out hb7)
    clear hb7
    go_wp2
    go_ret
    exact ⟨rfl, HB7.out⟩

set_option maxRecDepth 20000 in
set_option maxHeartbeats 6400000 in
theorem law5 (A : Option Addr) (n c : Nat) (l : List Tk) (w : World) (h : TkS w A n c l) (hw : Wide l) : Calls Tryd.prog 5 #[.slice A n c] w fun en w' => en = .returned (.bool true) ∧ Below w.heap.size w w' := by
  have HA := hide (alive9 w)
  have H := hide h
  have Hw := hide hw
  have Hn := hide h.2.2.1
  have hnc := h.1
  have hcc := h.2.1
  clear h hw
  cases hbd : bndS l with
  | false =>
    have HBd := hide (fun W (hW : TkS W A n c l) => lbounded A n c l W hW Hw.out false hbd)
    go_enter Tryd.func5, Tryd.ntmps5
    go_wp2_with fail
    with_reducible refine HA.out.mono ?_
    rintro en w1 ⟨rfl, hb1⟩
    have HB1 := hide hb1
    have HX := hide (HBd.out w1 (H.out.below hb1))
    clear hb1
    go_wp2_with fail
    with_reducible refine HX.out.mono ?_
    rintro en w2 ⟨rfl, rfl⟩
    go_wp2
    go_ret
    exact ⟨rfl, HB1.out⟩
  | true =>
    have HBd := hide (fun W (hW : TkS W A n c l) => lbounded A n c l W hW Hw.out true hbd)
    obtain ⟨hn7, hsh⟩ := bnd_short hbd
    rw [Hn.out] at hn7
    have Hsh := hide hsh
    clear hbd hsh
    by_cases h6 : 600 < n
    · have hg : (600 : Int) < (n : Int) := by omega
      have hg2 : (n : Int) > 600 := hg
      clear h6
      go_enter Tryd.func5, Tryd.ntmps5
      go_wp2_with fail
      with_reducible refine HA.out.mono ?_
      rintro en w1 ⟨rfl, hb1⟩
      have HB1 := hide hb1
      have HX := hide (HBd.out w1 (H.out.below hb1))
      clear hb1
      go_wp2_with fail
      with_reducible refine HX.out.mono ?_
      rintro en w2 ⟨rfl, rfl⟩
      go_wp2
      go_ret
      exact ⟨rfl, HB1.out⟩
    · have hg : ¬ (600 : Int) < (n : Int) := by omega
      have hg2 : ¬ (n : Int) > 600 := hg
      have HP := hide (fun W (hW : TkS W A n c l) => pprint A n c l W hW hn7 Hsh.out)
      cases har : allRight l with
      | false =>
        rw [har, if_neg (by decide), if_neg (by decide)] at HP
        have HP := hide (show ∀ W, TkS W A n c l → Calls Tryd.prog 16 #[.slice A n c] W fun e w' => e = .returned (.tuple #[.string ⟨#[]⟩, .int .i64 1]) ∧ Below W.heap.size W w' from HP.out)
        clear h6 har
        go_enter Tryd.func5, Tryd.ntmps5
        go_wp2_with fail
        with_reducible refine HA.out.mono ?_
        rintro en w1 ⟨rfl, hb1⟩
        have HB1 := hide hb1
        have HX := hide (HBd.out w1 (H.out.below hb1))
        have HY := hide (HP.out w1 (H.out.below hb1))
        clear hb1
        go_wp2_with fail
        with_reducible refine HX.out.mono ?_
        rintro en w2 ⟨rfl, rfl⟩
        go_wp2_with fail
        with_reducible refine HY.out.mono ?_
        rintro en w3 ⟨rfl, hb3⟩
        have HB3 := hide (bgo HB1.out hb3)
        clear hb3
        go_wp2
        go_ret
        exact ⟨rfl, HB3.out⟩
      | true =>
        rw [har, if_pos rfl, if_pos rfl] at HP
        have hpl := print_len Hsh.out
        rw [Hn.out] at hpl
        obtain ⟨S, hS⟩ : ∃ S, bs (printS l) = S := ⟨_, rfl⟩
        have hSd : S.data.toList = printS l := by rw [← hS, bs_list]
        have hSs : S.size ≤ 1000000 := by rw [← hS, bs_size]; omega
        rw [hS] at HP
        obtain ⟨m, hm, hkt⟩ := back_pattern har (by rw [Hn.out]; omega)
        have H1 := hide (fun W => pScanPattern S hSs W)
        rw [hSd, hm] at H1
        have H1 := hide (show ∀ W, Calls Tryd.prog 13 #[.string S] W (GotS W (m, 0, 0)) from H1.out)
        have HM := hide (fun W (hW : TkS W A n c l) => lmetas A n c l W hW _ rfl)
        have hsame : sameT l m = true := decide_eq_true hkt.symm
        have Hsame := hide hsame
        cases hmt : l.any metaT with
        | true =>
          rw [hmt] at HM
          obtain ⟨a, ha⟩ := back_metas har (by rw [Hn.out]; omega) hmt
          have H2 := hide (fun W => pScan S hSs W)
          rw [hSd, ha] at H2
          have H2 := hide (show ∀ W, Calls Tryd.prog 10 #[.string S] W (GotS W ([], (a : Int), 11)) from H2.out)
          clear h6 har hpl hS hSd hSs hm hkt hsame hmt ha
          go_enter Tryd.func5, Tryd.ntmps5
          go_wp2_with fail
          with_reducible refine HA.out.mono ?_
          rintro en w1 ⟨rfl, hb1⟩
          have HB1 := hide hb1
          have HL1 := hide (H.out.below hb1)
          have HX := hide (HBd.out w1 (H.out.below hb1))
          have HY := hide (HP.out w1 (H.out.below hb1))
          clear hb1
          go_wp2_with fail
          with_reducible refine HX.out.mono ?_
          rintro en w2 ⟨rfl, rfl⟩
          go_wp2_with fail
          with_reducible refine HY.out.mono ?_
          rintro en w3 ⟨rfl, hb3⟩
          have HB3 := hide (bgo HB1.out hb3)
          have HL3 := hide (HL1.out.below hb3)
          clear hb3
          go_wp2_with fail
          with_reducible refine (H1.out _).mono ?_
          rintro en w4 ⟨A4, n4, c4, rfl, ht4, hb4⟩
          have HB4 := hide (bgo HB3.out hb4)
          have HL4 := hide (HL3.out.below hb4)
          have HS4 := hide (rsame A A4 n c n4 c4 l m w4 HL4.out ht4 true Hsame.out)
          clear hb4 ht4
          dsimp only
          go_wp2_with fail
          with_reducible refine HS4.out.mono ?_
          rintro en w5 ⟨rfl, hb5⟩
          have HB5 := hide (bgo HB4.out hb5)
          have HL5 := hide (HL4.out.below hb5)
          clear hb5
          go_wp2_with fail
          with_reducible refine (H2.out _).mono ?_
          rintro en w6 ⟨A6, n6, c6, rfl, ht6, hb6⟩
          have HB6 := hide (bgo HB5.out hb6)
          have HL6 := hide (HL5.out.below hb6)
          have HM6 := hide (HM.out w6 HL6.out)
          clear hb6 ht6
          dsimp only
          go_wp2_with fail
          with_reducible refine HM6.out.mono ?_
          rintro en w7 ⟨rfl, rfl⟩
          go_wp2
          go_ret
          exact ⟨rfl, HB6.out⟩
        | false =>
          rw [hmt] at HM
          obtain ⟨m2, hm2, hkt2⟩ := back_plain har (by rw [Hn.out]; omega) hmt
          have H2 := hide (fun W => pScan S hSs W)
          rw [hSd, hm2] at H2
          have H2 := hide (show ∀ W, Calls Tryd.prog 10 #[.string S] W (GotS W (m2, 0, 0)) from H2.out)
          have Hsame2 := hide (show sameT l m2 = true from decide_eq_true hkt2.symm)
          clear h6 har hpl hS hSd hSs hm hkt hsame hmt hm2 hkt2
          go_enter Tryd.func5, Tryd.ntmps5
          go_wp2_with fail
          with_reducible refine HA.out.mono ?_
          rintro en w1 ⟨rfl, hb1⟩
          have HB1 := hide hb1
          have HL1 := hide (H.out.below hb1)
          have HX := hide (HBd.out w1 (H.out.below hb1))
          have HY := hide (HP.out w1 (H.out.below hb1))
          clear hb1
          go_wp2_with fail
          with_reducible refine HX.out.mono ?_
          rintro en w2 ⟨rfl, rfl⟩
          go_wp2_with fail
          with_reducible refine HY.out.mono ?_
          rintro en w3 ⟨rfl, hb3⟩
          have HB3 := hide (bgo HB1.out hb3)
          have HL3 := hide (HL1.out.below hb3)
          clear hb3
          go_wp2_with fail
          with_reducible refine (H1.out _).mono ?_
          rintro en w4 ⟨A4, n4, c4, rfl, ht4, hb4⟩
          have HB4 := hide (bgo HB3.out hb4)
          have HL4 := hide (HL3.out.below hb4)
          have HS4 := hide (rsame A A4 n c n4 c4 l m w4 HL4.out ht4 true Hsame.out)
          clear hb4 ht4
          dsimp only
          go_wp2_with fail
          with_reducible refine HS4.out.mono ?_
          rintro en w5 ⟨rfl, hb5⟩
          have HB5 := hide (bgo HB4.out hb5)
          have HL5 := hide (HL4.out.below hb5)
          clear hb5
          go_wp2_with fail
          with_reducible refine (H2.out _).mono ?_
          rintro en w6 ⟨A6, n6, c6, rfl, ht6, hb6⟩
          have HB6 := hide (bgo HB5.out hb6)
          have HL6 := hide (HL5.out.below hb6)
          have HM6 := hide (HM.out w6 HL6.out)
          have HS6 := hide (rsame A A6 n c n6 c6 l m2 w6 HL6.out ht6 true Hsame2.out)
          clear hb6 ht6
          dsimp only
          go_wp2_with fail
          with_reducible refine HM6.out.mono ?_
          rintro en w7 ⟨rfl, rfl⟩
          go_wp2_with fail
          with_reducible refine HS6.out.mono ?_
          rintro en w8 ⟨rfl, hb8⟩
          have HB8 := hide (bgo HB6.out hb8)
          clear hb8
          go_wp2
          go_ret
          exact ⟨rfl, HB8.out⟩

theorem tok_len {t : Tk} {pat : Bool} {d : List UInt8} {l : List Tk} (h : scanS pat d = .ok l) (ht : t ∈ l) : t.text.length ≤ 60 := by
  have har := ((scanS_facts pat d).1 l h).1
  have hr := List.all_eq_true.1 har t ht
  have h2 := (right_form hr).2
  have : longS t.kind ≤ 60 := by unfold longS; split <;> (try split) <;> omega
  omega
set_option maxRecDepth 20000 in
set_option maxHeartbeats 6400000 in
theorem law6 (s : ByteArray) (hs : s.size ≤ 9223372036854775807) (w : World) : Calls Tryd.prog 6 #[.string s] w fun en w' => en = .returned (.bool true) ∧ Below w.heap.size w w' := by
  have HA := hide (alive9 w)
  by_cases h3 : 3000 < s.size
  · have hg : (3000 : Int) < (s.size : Int) := by omega
    have hg2 : (s.size : Int) > 3000 := hg
    clear h3
    go_enter Tryd.func6, Tryd.ntmps6
    go_wp2_with fail
    with_reducible refine HA.out.mono ?_
    rintro en w1 ⟨rfl, hb1⟩
    have HB1 := hide hb1
    clear hb1
    go_wp2
    go_ret
    exact ⟨rfl, HB1.out⟩
  · have hg : ¬ (3000 : Int) < (s.size : Int) := by omega
    have hg2 : ¬ (s.size : Int) > 3000 := hg
    have H1 := hide (fun W => pScanPattern s (by omega) W)
    rcases res_ways true s.data.toList with ⟨l, hl, hX, har, hl6⟩ | ⟨a, e, hl, hX, ha, he⟩
    · rw [hX] at H1
      have hsh : Short l := fun t ht => by have := tok_len hl ht; omega
      have Hsh := hide hsh
      have Har := hide har
      have hpl := print_len hsh
      obtain ⟨S, hS⟩ : ∃ S, bs (printS l) = S := ⟨_, rfl⟩
      have hSd : S.data.toList = printS l := by rw [← hS, bs_list]
      have hSs : S.size ≤ 1000000 := by rw [← hS, bs_size]; omega
      obtain ⟨m, hm, hkt⟩ := back_pattern har hl6
      have H2 := hide (fun W => pScanPattern S hSs W)
      rw [hSd, hm] at H2
      have H2 := hide (show ∀ W, Calls Tryd.prog 13 #[.string S] W (GotS W (m, 0, 0)) from H2.out)
      have HS := hide hS
      have Hkt := hide (show sameT l m = true from decide_eq_true hkt.symm)
      have Hl6 := hide hl6
      clear h3 hl hX har hsh hpl hS hSd hSs hm hkt hl6
      go_enter Tryd.func6, Tryd.ntmps6
      go_wp2_with fail
      with_reducible refine HA.out.mono ?_
      rintro en w1 ⟨rfl, hb1⟩
      have HB1 := hide hb1
      clear hb1
      go_wp2_with fail
      with_reducible refine (H1.out _).mono ?_
      rintro en w2 ⟨A, n, c, rfl, ht2, hb2⟩
      have HB2 := hide (bgo HB1.out hb2)
      have HT2 := hide ht2
      have hnl : l.length = n := ht2.2.2.1
      have HP := pprint A n c l w2 ht2 (by have := Hl6.out; omega) Hsh.out
      rw [Har.out, if_pos rfl, if_pos rfl, HS.out] at HP
      have HP := hide HP
      clear hb2 ht2 hnl
      dsimp only
      go_wp2_with fail
      with_reducible refine HP.out.mono ?_
      rintro en w3 ⟨rfl, hb3⟩
      have HB3 := hide (bgo HB2.out hb3)
      have HT3 := hide (HT2.out.below hb3)
      clear hb3
      go_wp2_with fail
      with_reducible refine (H2.out _).mono ?_
      rintro en w4 ⟨A4, n4, c4, rfl, ht4, hb4⟩
      have HB4 := hide (bgo HB3.out hb4)
      have HQ := psame A A4 n c n4 c4 l m w4 (HT3.out.below hb4) ht4
      rw [Hkt.out] at HQ
      have HQ := hide HQ
      clear hb4 ht4
      dsimp only
      go_wp2_with fail
      with_reducible refine HQ.out.mono ?_
      rintro en w5 ⟨rfl, hb5⟩
      have HB5 := hide (bgo HB4.out hb5)
      clear hb5
      go_wp2
      go_ret
      exact ⟨rfl, HB5.out⟩
    · rw [hX] at H1
      rw [size_list] at ha
      have q1 : (e != 0) = true := by unfold bne; rw [beq_eq_false_iff_ne.2 he]; rfl
      have q2 : (a : Int) < (s.size : Int) := by omega
      have q3 : (0 : Int) ≤ (a : Int) := by omega
      have q3' : (a : Int) ≥ 0 := q3
      clear h3 hl hX he
      go_enter Tryd.func6, Tryd.ntmps6
      go_wp2_with fail
      with_reducible refine HA.out.mono ?_
      rintro en w1 ⟨rfl, hb1⟩
      have HB1 := hide hb1
      clear hb1
      go_wp2_with fail
      with_reducible refine (H1.out _).mono ?_
      rintro en w2 ⟨A, n, c, rfl, ht2, hb2⟩
      obtain rfl : n = 0 := ht2.2.2.1.symm
      have HB2 := hide (bgo HB1.out hb2)
      have hnc := ht2.1
      clear hb2 ht2
      dsimp only
      go_wp2
      go_ret
      exact ⟨by simp, HB2.out⟩
end Go.Proofs.YteokeljmggdecaaDoor
