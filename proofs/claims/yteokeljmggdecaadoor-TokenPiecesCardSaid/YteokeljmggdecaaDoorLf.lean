/- Layer 11's law: TokenPieces. -/
import Derived.Test.YteokeljmggdecaaDoorLe
namespace Go.Proofs.YteokeljmggdecaaDoor
open Go.RowKit

theorem places_at {d : List UInt8} : ∀ (l : List Tk) (z : Nat), PlacesS d z l → ∀ t ∈ l, ∃ a b : Nat, t.at_ = (a : Int) ∧ t.en = (b : Int) ∧ a ≤ d.length ∧ b ≤ d.length := by
  intro l
  induction l with
  | nil => intro z _ t ht; simp at ht
  | cons x l ih =>
    intro z h t ht
    obtain ⟨a, b, h1, h2, _, h4, h5, _, _, h8⟩ := h
    rcases List.mem_cons.1 ht with rfl | ht
    · exact ⟨a, b, h1, h2, by omega, h5⟩
    · exact ih b h8 t ht
theorem eqTk (k : Int) (T : ByteArray) (a b : Int) (w : World) :
    (Op.equalIn 10000 33 (.agg #[.int .i64 k, .string T, .int .i64 a, .int .i64 b]) (.agg #[.int .i64 k, .string T, .int .i64 a, .int .i64 b])).run Tryd.prog w = .ok true w := by
  rw [run_equalIn_agg w 9999 33 _ _ (by kernel_rfl) (by kernel_rfl)]
  simp [go_sem]
theorem joined (s t : ByteArray) : (s ++ ⟨#[10]⟩ ++ t).data.toList = s.data.toList ++ 10 :: t.data.toList := by
  rw [ByteArray.toList_data_append, ByteArray.toList_data_append]
  simp
theorem joined_size (s t : ByteArray) : (s ++ ⟨#[10]⟩ ++ t).size = s.size + 1 + t.size := by
  rw [← size_list, joined, List.length_append, List.length_cons, size_list, size_list]
  omega
set_option maxRecDepth 20000 in
set_option maxHeartbeats 6400000 in
theorem law8 (s t : ByteArray) (hs : s.size ≤ 9223372036854775807) (ht : t.size ≤ 9223372036854775807) (w : World) : Calls Tryd.prog 8 #[.string s, .string t] w fun en w' => en = .returned (.bool true) ∧ Below w.heap.size w w' := by
  have HA := hide (alive9 w)
  by_cases h3 : 1000 < s.size ∨ 1000 < t.size
  · by_cases h4 : 1000 < s.size
    · have hg : (1000 : Int) < (s.size : Int) := by omega
      have hg2 : (s.size : Int) > 1000 := hg
      clear h3 h4
      go_enter Tryd.func8, Tryd.ntmps8
      go_wp2_with fail
      with_reducible refine HA.out.mono ?_
      rintro en w1 ⟨rfl, hb1⟩
      have HB1 := hide hb1
      clear hb1
      go_wp2
      go_ret
      exact ⟨rfl, HB1.out⟩
    · have hg : ¬ (1000 : Int) < (s.size : Int) := by omega
      have hg2 : ¬ (s.size : Int) > 1000 := hg
      have hh : (1000 : Int) < (t.size : Int) := by omega
      have hh2 : (t.size : Int) > 1000 := hh
      clear h3 h4
      go_enter Tryd.func8, Tryd.ntmps8
      go_wp2_with fail
      with_reducible refine HA.out.mono ?_
      rintro en w1 ⟨rfl, hb1⟩
      have HB1 := hide hb1
      clear hb1
      go_wp2
      go_ret
      exact ⟨rfl, HB1.out⟩
  · have hg : ¬ (1000 : Int) < (s.size : Int) := by omega
    have hg2 : ¬ (s.size : Int) > 1000 := hg
    have hh : ¬ (1000 : Int) < (t.size : Int) := by omega
    have hh2 : ¬ (t.size : Int) > 1000 := hh
    have H1 := hide (fun W => pScan s (by omega) W)
    have H2 := hide (fun W => pScan t (by omega) W)
    rcases res_ways false s.data.toList with ⟨l, hl, hX, har, hl6⟩ | ⟨a, e, hl, hX, ha, he⟩
    · rw [hX] at H1
      rcases res_ways false t.data.toList with ⟨m, hm, hY, hbr, hm6⟩ | ⟨a, e, hm, hY, ha, he⟩
      · rw [hY] at H2
        by_cases hsum : 600 < l.length + m.length
        · clear h3 hl hX har hm hY hbr
          go_enter Tryd.func8, Tryd.ntmps8
          go_wp2_with fail
          with_reducible refine HA.out.mono ?_
          rintro en w1 ⟨rfl, hb1⟩
          have HB1 := hide hb1
          clear hb1
          go_wp2_with fail
          with_reducible refine (H1.out _).mono ?_
          rintro en w2 ⟨A, n, c, rfl, ht2, hb2⟩
          have HB2 := hide (bgo HB1.out hb2)
          have hln : l.length = n := ht2.2.2.1
          clear hb2 ht2
          dsimp only
          go_wp2_with fail
          with_reducible refine (H2.out _).mono ?_
          rintro en w3 ⟨A', n', c', rfl, ht3, hb3⟩
          have HB3 := hide (bgo HB2.out hb3)
          have hmn : m.length = n' := ht3.2.2.1
          clear hb3 ht3
          rw [hln, hmn] at hsum
          rw [hln] at hl6
          rw [hmn] at hm6
          have q : (600 : Int) < (n : Int) + (n' : Int) := by omega
          have q' : (n : Int) + (n' : Int) > 600 := q
          clear hln hmn
          dsimp only
          go_wp2
          go_ret
          exact ⟨rfl, HB3.out⟩
        · have hps := pieces_scan hl hm (by omega)
          have hpa := hide (places_at l 0 (places_scan hl))
          have hpb := hide (places_at m 0 (places_scan hm))
          have H3 := fun W => pScan (s ++ ⟨#[10]⟩ ++ t) (by have := joined_size s t; omega) W
          rw [joined, hps] at H3
          obtain ⟨N, hN⟩ : ∃ N, l ++ m.map (shiftT (s.data.toList.length + 1)) = N := ⟨_, rfl⟩
          rw [hN] at H3
          have H3 := hide (show ∀ W, Calls Tryd.prog 10 #[.string (s ++ ⟨#[10]⟩ ++ t)] W (GotS W (N, 0, 0)) from H3)
          have HN := hide hN
          have hNl : N.length = l.length + m.length := by rw [← hN, List.length_append, List.length_map]
          have hs1 : s.size ≤ 1000 := by omega
          have ht1 : t.size ≤ 1000 := by omega
          clear h3 hl hX har hm hY hbr hps hN
          go_enter Tryd.func8, Tryd.ntmps8
          go_wp2_with fail
          with_reducible refine HA.out.mono ?_
          rintro en w1 ⟨rfl, hb1⟩
          have HB1 := hide hb1
          clear hb1
          go_wp2_with fail
          with_reducible refine (H1.out _).mono ?_
          rintro en w2 ⟨A, n, c, rfl, ht2, hb2⟩
          have HB2 := hide (bgo HB1.out hb2)
          have HL2 := hide ht2
          have hln : l.length = n := ht2.2.2.1
          have hnc := ht2.1
          have hcc := ht2.2.1
          clear hb2 ht2
          dsimp only
          go_wp2_with fail
          with_reducible refine (H2.out _).mono ?_
          rintro en w3 ⟨A', n', c', rfl, ht3, hb3⟩
          have HB3 := hide (bgo HB2.out hb3)
          have HL3 := hide (HL2.out.below hb3)
          have HM3 := hide ht3
          have hmn : m.length = n' := ht3.2.2.1
          have hnc' := ht3.1
          have hcc' := ht3.2.1
          clear hb3 ht3
          rw [hln, hmn] at hsum hNl
          have q : ¬ (600 : Int) < (n : Int) + (n' : Int) := by omega
          have q' : ¬ (n : Int) + (n' : Int) > 600 := q
          have Hln := hide hln
          have Hmn := hide hmn
          clear hln hmn hl6 hm6
          dsimp only
          go_wp2_with fail
          with_reducible refine (H3.out _).mono ?_
          rintro en w4 ⟨C, nn, cc, rfl, ht4, hb4⟩
          have HB4 := hide (bgo HB3.out hb4)
          have HL4 := hide (HL3.out.below hb4)
          have HM4 := hide (HM3.out.below hb4)
          have HN4 := hide ht4
          have hnn : nn = n + n' := ht4.2.2.1.symm.trans hNl
          have hnc4 := ht4.1
          have hcc4 := ht4.2.1
          have q5 : ((nn : Int) != (n : Int) + (n' : Int)) = false := by rw [hnn]; simp
          have q6 : (nn : Int) = (n : Int) + (n' : Int) := by omega
          clear hb4 ht4 hNl
          dsimp only
          go_wp2_with fail
          go_loopw [14] (fun y wr => ∃ i : Nat, i ≤ nn ∧ y = .int .i64 (i : Int) ∧ Below w4.heap.size w4 wr) (fun y _ => nn - (intOf y).toNat)
          case atStart => exact ⟨0, Nat.zero_le _, rfl, Below.refl _ _⟩
          case round =>
            obtain ⟨i, hi, rfl, hbk⟩ := hrel
            rename_i wr _
            by_cases hlt : i < nn
            · have hki : (i : Int) < (nn : Int) := by omega
              obtain ⟨g3, o3, t3, rfl, ht3, z0, z1, z2, z3⟩ := (HN4.out.below hbk).at_ hlt
              have HBk := hide hbk
              by_cases hin : i < n
              · have hki2 : (i : Int) < (n : Int) := by omega
                obtain ⟨g1, o1, t1, rfl, ht1, x0, x1, x2, x3⟩ := (HL4.out.below hbk).at_ hin
                obtain rfl : t3 = t1 := by
                  rw [← HN.out, List.getElem?_append_left (by rw [Hln.out]; exact hin), ht1] at ht3
                  exact Option.some.inj ht3.symm
                have heq := fun w => eqTk t3.kind (bs t3.text) t3.at_ t3.en w
                have ccl : ∀ (p : Addr) (v : Value), wr.cell? p = some v → ∀ Y : Obj, (wr.alloc Y).cell? p = some v := fun p v h Y => ((bnew (Below.refl wr.heap.size wr) Y).cell (p := p) (World.block_lt_of_cell? _ _ h)).trans h
                obtain ⟨tk, tt, ta, te⟩ := t3
                dsimp only at z0 z1 z2 z3 x0 x1 x2 x3 heq
                obtain ⟨T, hT⟩ : ∃ T, bs tt = T := ⟨_, rfl⟩
                rw [hT] at z1 x1 heq
                have z0 := ccl _ _ z0
                have z1 := ccl _ _ z1
                have z2 := ccl _ _ z2
                have z3 := ccl _ _ z3
                have x0 := ccl _ _ x0
                have x1 := ccl _ _ x1
                have x2 := ccl _ _ x2
                have x3 := ccl _ _ x3
                have HX := hide (show ∀ Y : Obj, Below w4.heap.size w4 (wr.alloc Y) from fun Y => bnew hbk Y)
                clear ht3 ht1 hbk ccl hT
                go_wp2_with fail
                go_quiet (fail)
                have HXn := hide (bdr (HX.out (.cells #[.int .i64 tk, .string T, .int .i64 ta, .int .i64 te] 33)) nq)
                go_wp2
                go_roundw
                case rel => exact ⟨i + 1, by omega, by go_num, HXn.out⟩
                case measure => simp [intOf]; omega
              · have hki2 : ¬ (i : Int) < (n : Int) := by omega
                obtain ⟨j, hj⟩ : ∃ j, i = n + j := ⟨i - n, by omega⟩
                have hjn : j < n' := by omega
                have hij : (i : Int) - (n : Int) = (j : Int) := by omega
                obtain ⟨g1, o1, t1, rfl, ht1, x0, x1, x2, x3⟩ := (HM4.out.below hbk).at_ hjn
                obtain rfl : t3 = shiftT (s.data.toList.length + 1) t1 := by
                  rw [← HN.out, List.getElem?_append_right (by rw [Hln.out]; omega), Hln.out, show i - n = j by omega, List.getElem?_map, ht1] at ht3
                  exact Option.some.inj ht3.symm
                obtain ⟨a, b, ha, hb, ha2, hb2⟩ := hpb.out t1 (List.mem_of_getElem? ht1)
                rw [size_list] at ha2 hb2
                obtain ⟨tk, tt, ta, te⟩ := t1
                dsimp only at ha hb
                subst ha hb
                have z0 : wr.cell? ⟨g3, o3 + i * 4, none⟩ = some (.int .i64 tk) := z0
                have z1 : wr.cell? ⟨g3, o3 + i * 4 + 1, none⟩ = some (.string (bs tt)) := z1
                have z2 : wr.cell? ⟨g3, o3 + i * 4 + 2, none⟩ = some (.int .i64 ((a : Int) + (s.size : Int) + 1)) := by
                  rw [z2]; unfold shiftT; dsimp only; rw [size_list]; congr 2
                have z3 : wr.cell? ⟨g3, o3 + i * 4 + 3, none⟩ = some (.int .i64 ((b : Int) + (s.size : Int) + 1)) := by
                  rw [z3]; unfold shiftT; dsimp only; rw [size_list]; congr 2
                dsimp only at x0 x1 x2 x3
                have ccl : ∀ (p : Addr) (v : Value), wr.cell? p = some v → ∀ Y : Obj, (wr.alloc Y).cell? p = some v := fun p v h Y => ((bnew (Below.refl wr.heap.size wr) Y).cell (p := p) (World.block_lt_of_cell? _ _ h)).trans h
                obtain ⟨T, hT⟩ : ∃ T, bs tt = T := ⟨_, rfl⟩
                rw [hT] at z1 x1
                have heq := fun w => eqTk tk T ((a : Int) + (s.size : Int) + 1) ((b : Int) + (s.size : Int) + 1) w
                have z0 := ccl _ _ z0
                have z1 := ccl _ _ z1
                have z2 := ccl _ _ z2
                have z3 := ccl _ _ z3
                have x0 := ccl _ _ x0
                have x1 := ccl _ _ x1
                have x2 := ccl _ _ x2
                have x3 := ccl _ _ x3
                have HX := hide (show ∀ Y : Obj, Below w4.heap.size w4 (wr.alloc Y) from fun Y => bnew hbk Y)
                have Hj := hide hj
                clear ht3 ht1 hbk ccl hT hj
                have r1 : (j : Int) < (n' : Int) := by omega
                have r2 : (0 : Int) ≤ (j : Int) := by omega
                go_wp2_with fail
                go_quiet (fail)
                have HXn := hide (bdr (HX.out (.cells #[.int .i64 tk, .string T, .int .i64 ((a : Int) + (s.size : Int) + 1), .int .i64 ((b : Int) + (s.size : Int) + 1)] 33)) nq)
                go_wp2
                go_roundw
                case rel => exact ⟨i + 1, by omega, by go_num, HXn.out⟩
                case measure => simp [intOf]; omega
            · have hki : ¬ (i : Int) < (nn : Int) := by omega
              have Hf := hide (bgo HB4.out hbk)
              clear hbk
              go_wp2
              go_ret
              exact ⟨rfl, Hf.out⟩
      · rw [hY] at H2
        have q1 : (e != 0) = true := by unfold bne; rw [beq_eq_false_iff_ne.2 he]; rfl
        clear h3 hl hX hm hY he ha
        go_enter Tryd.func8, Tryd.ntmps8
        go_wp2_with fail
        with_reducible refine HA.out.mono ?_
        rintro en w1 ⟨rfl, hb1⟩
        have HB1 := hide hb1
        clear hb1
        go_wp2_with fail
        with_reducible refine (H1.out _).mono ?_
        rintro en w2 ⟨A, n, c, rfl, ht2, hb2⟩
        have HB2 := hide (bgo HB1.out hb2)
        clear hb2 ht2
        dsimp only
        go_wp2_with fail
        with_reducible refine (H2.out _).mono ?_
        rintro en w3 ⟨A', n', c', rfl, ht3, hb3⟩
        have HB3 := hide (bgo HB2.out hb3)
        clear hb3 ht3
        dsimp only
        go_wp2
        go_ret
        exact ⟨rfl, HB3.out⟩
    · rw [hX] at H1
      obtain ⟨⟨m, i2, e2⟩, hY⟩ : ∃ X, resS (scanS false t.data.toList) = X := ⟨_, rfl⟩
      rw [hY] at H2
      have q1 : (e != 0) = true := by unfold bne; rw [beq_eq_false_iff_ne.2 he]; rfl
      clear h3 hl hX hY he ha
      go_enter Tryd.func8, Tryd.ntmps8
      go_wp2_with fail
      with_reducible refine HA.out.mono ?_
      rintro en w1 ⟨rfl, hb1⟩
      have HB1 := hide hb1
      clear hb1
      go_wp2_with fail
      with_reducible refine (H1.out _).mono ?_
      rintro en w2 ⟨A, n, c, rfl, ht2, hb2⟩
      have HB2 := hide (bgo HB1.out hb2)
      clear hb2 ht2
      dsimp only
      go_wp2_with fail
      with_reducible refine (H2.out _).mono ?_
      rintro en w3 ⟨A', n', c', rfl, ht3, hb3⟩
      have HB3 := hide (bgo HB2.out hb3)
      clear hb3 ht3
      dsimp only
      go_wp2
      go_ret
      exact ⟨rfl, HB3.out⟩
end Go.Proofs.YteokeljmggdecaaDoor
