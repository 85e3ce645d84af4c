/- Layer 6: the law that each offset is in exactly one list. -/
import Derived.Test.YtdegppifgcbaeaaTA
namespace Go.Proofs.Ytdegppifgcbaeaa
open Go.RowKit

theorem cnt_take (gs : List (Int × List Int)) (k : Nat) (g : Int × List Int) (h : gs[k]? = some g) : cnt (gs.take (k + 1)) = cnt (gs.take k) + g.2.length := by
  rw [List.take_succ_eq_append_getElem (List.getElem?_eq_some_iff.1 h).1, (List.getElem?_eq_some_iff.1 h).2, cnt_app, cnt_one]
theorem cnt_le (gs : List (Int × List Int)) (k : Nat) : cnt (gs.take k) ≤ cnt gs := by
  conv => rhs; rw [← List.take_append_drop k gs, cnt_app]
  omega

set_option maxRecDepth 100000 in
set_option maxHeartbeats 6400000 in
theorem law7 (C : Cs) (s : ByteArray) (w : World) (hs : s.size ≤ 9223372036854775807) :
    Calls Try.prog 7 #[.string s] w fun e w' => e = .returned (.bool true) ∧ Below w.heap.size w w' := by
  have CC := hide C
  clear C
  go_enter Try.func7, Try.ntmps7
  go_wp2_with fail
  refine (alive9 CC.out _).mono ?_
  rintro e w1 ⟨rfl, h1⟩
  have B1 := hide h1
  clear h1
  by_cases hlt : 2000 < s.size
  · go_wp2
    go_ret
    exact ⟨rfl, B1.out⟩
  · obtain ⟨d, hd⟩ : ∃ d, s.data.toList = d := ⟨_, rfl⟩
    have Hd := hide hd
    have Hdl := hide (show d.length = s.size by rw [← hd, size_list])
    have hgr := CC.out.grams s w1 (by omega)
    rw [hd] at hgr
    clear hd
    obtain ⟨G, hG⟩ : ∃ G, gramsS d = G := ⟨_, rfl⟩
    rw [hG] at hgr
    have Hcnt := hide (show cnt G = s.size - 2 by rw [← hG, cnt_grams, Hdl.out])
    have Hget := hide (show ∀ (k : Nat) (g : Int × List Int), G[k]? = some g → (0 ≤ g.1 ∧ g.1 < 16777216) ∧ 0 < g.2.length ∧ g.2 = offs d g.1 by rw [← hG]; exact grams_get d)
    clear hG
    go_wp2_with fail
    with_reducible refine hgr.mono ?_
    rintro e w2 ⟨A, n, m, rfl, hg, h1⟩
    have hnm := hg.1
    have hmm := hg.2.1
    have Hn := hide hg.2.2.1
    have S2 := hide hg
    have B2 := hide (bgo B1.out h1)
    clear hg h1 hgr B1
    go_wp2
    go_loopw [4, 5] (fun u x wr => ∃ k N : Nat, k ≤ n ∧ x = .int .i64 k ∧ u = .int .i64 N ∧ cnt (G.take k) = N ∧ Below w2.heap.size w2 wr) (fun _ x _ => n - (intOf x).toNat)
    case atStart => exact ⟨0, 0, Nat.zero_le _, rfl, rfl, rfl, Below.refl _ _⟩
    case round =>
      obtain ⟨k, N, hk, rfl, rfl, hN, hbel⟩ := hrel
      have hNle : N ≤ s.size := by have := cnt_le G k; have := Hcnt.out; omega
      have Hb := hide hbel
      by_cases hkn : k < n
      · obtain ⟨g, o, z, l, A1, n1, c1, rfl, hz, h0, h1, hsl⟩ := (S2.out.below hbel).at_ hkn
        obtain ⟨hzr, hl0, hlo⟩ := Hget.out k _ hz
        have hzr : 0 ≤ z ∧ z < 16777216 := hzr
        have hl0 : 0 < l.length := hl0
        have hlo : l = offs d z := hlo
        have hst := cnt_take G k _ hz
        have hle := cnt_le G (k + 1)
        rw [hN] at hst
        have hst : cnt (G.take (k + 1)) = N + l.length := hst
        rw [hst, Hcnt.out] at hle
        have hnl := hsl.nlen
        have hn0 : ((n1 : Int) == 0) = false := by rw [beq_eq_false_iff_ne]; omega
        rw [hnl] at hst hle
        have hn1 := hsl.1
        have hc1 := hsl.2.1
        obtain ⟨T, hT⟩ : ∃ T, strA z = T := ⟨_, rfl⟩
        have hTs : T.size = 3 := by rw [← hT]; exact strA_size z hzr
        have hT3 : ((T.size : Int) != 3) = false := by rw [hTs]; rfl
        have hcs := CC.out.str z wr (by omega)
        rw [hT, show strOk z = true from decide_eq_true hzr] at hcs
        have HT := hide hT
        have Hst := hide hst
        have Hlo := hide hlo
        have Hs := hide hsl
        clear hT hTs hbel hz hl0 hst hnl hsl hlo hN
        go_wp2_with fail
        with_reducible refine hcs.mono ?_
        rintro e w3 ⟨rfl, h3⟩
        have B3 := hide (Hb.out.trans (h3.mono Hb.out.size))
        have x0 := (h3.cell (p := ⟨g, o + k * 2, none⟩) (World.block_lt_of_cell? _ _ h0)).trans h0
        have x1 := (h3.cell (p := ⟨g, o + k * 2 + 1, none⟩) (World.block_lt_of_cell? _ _ h1)).trans h1
        have Hs3 := hide (Hs.out.below h3)
        clear h0 h1 h3 hcs Hs Hb
        go_wp2
        go_loopw [4, 8] (fun u x w4 => ∃ j M : Nat, j ≤ n1 ∧ x = .int .i64 j ∧ u = .int .i64 M ∧ N + j = M ∧ Drawn w3 w4) (fun _ x _ => n1 - (intOf x).toNat)
        case atStart => exact ⟨0, N, Nat.zero_le _, rfl, rfl, rfl, Drawn.refl _⟩
        case round =>
          obtain ⟨j, M, hj, rfl, rfl, hM, hdr⟩ := hrel
          have hMle : M ≤ s.size := by omega
          have y0 := (hdr.cell ⟨g, o + k * 2, none⟩).trans x0
          have y1 := (hdr.cell ⟨g, o + k * 2 + 1, none⟩).trans x1
          have Hdr := hide hdr
          by_cases hjn : j < n1
          · obtain ⟨ad, x, rfl, hx, hcell⟩ := num_cell (Hs3.out.below (hdr.below _)).reads hjn
            rw [Hlo.out] at hx
            obtain ⟨i, rfl, hi2, hti⟩ := offs_get d z j x hx
            rw [Hdl.out] at hi2
            have HM := hide hM
            have Hti := hide hti
            rcases Nat.eq_zero_or_pos j with hj0 | hj0
            · have kd : decide ((0 : Int) < (j : Int)) = false := decide_eq_false (by omega)
              have kd' : decide (0 < j) = false := decide_eq_false (by omega)
              clear hdr hx hti hM hj0
              go_wp2
              go_quiet ((go_at_call 22; exact quiet_drawn (by rw [← HT.out]; exact begC s i z true _ hi2 hs hzr (by rw [Hd.out]; exact decide_eq_true Hti.out))))
              go_wp2
              go_roundw
              case rel => exact ⟨j + 1, M + 1, by omega, by go_num, by go_num, by have := HM.out; omega, Hdr.out.more _⟩
              case measure => simp [intOf]; omega
            · obtain ⟨ad', y, e', hy, hcell'⟩ := num_cell (Hs3.out.below (hdr.below _)).reads (show j - 1 < n1 by omega)
              cases e'
              rw [Hlo.out] at hy
              have hyz := up_get (up_offsN d z _) (j - 1) y (i : Int) hy (by rw [show j - 1 + 1 = j by omega]; exact hx)
              have hle2 : decide ((i : Int) ≤ y) = false := decide_eq_false (by omega)
              have kw : IntKind.i64.wrap ((j : Int) - 1) = ((j - 1 : Nat) : Int) := by rw [IntWalk.i64_in _ (by omega)]; omega
              have kd : decide ((0 : Int) < (j : Int)) = true := decide_eq_true (by omega)
              have kd' : decide (0 < j) = true := decide_eq_true hj0
              have k1 : j - 1 < n1 := by omega
              have k2 : ((j - 1 : Nat) : Int) < (n1 : Int) := by omega
              have k3 : (0 : Int) ≤ ((j - 1 : Nat) : Int) := by omega
              clear hdr hx hti hM hy
              go_wp2
              go_quiet ((go_at_call 22; exact quiet_drawn (by rw [← HT.out]; exact begC s i z true _ hi2 hs hzr (by rw [Hd.out]; exact decide_eq_true Hti.out))))
              go_wp2
              go_roundw
              case rel => exact ⟨j + 1, M + 1, by omega, by go_num, by go_num, by have := HM.out; omega, Hdr.out.more _⟩
              case measure => simp [intOf]; omega
          · have hM' : cnt (G.take (k + 1)) = M := by rw [Hst.out]; omega
            have HM := hide hM'
            clear hdr hM hM'
            go_wp2
            go_roundw
            case rel => exact ⟨k + 1, M, by omega, by go_num, rfl, HM.out, B3.out.trans (Hdr.out.below _)⟩
            case measure => simp [intOf]; omega
      · have hN2 : N = s.size - 2 := by
          rw [← hN, List.take_of_length_le (by rw [Hn.out]; omega), Hcnt.out]
        have B3 := hide (B2.out.trans (hbel.mono B2.out.size))
        clear hbel hN
        by_cases h2 : 2 ≤ s.size
        · have hmax : max ((s.size : Int) - 2) 0 = (N : Int) := by omega
          clear hN2
          go_wp2
          go_ret
          exact ⟨rfl, B3.out⟩
        · have hmax : max ((s.size : Int) - 2) 0 = (N : Int) := by omega
          clear hN2
          go_wp2
          go_ret
          exact ⟨rfl, B3.out⟩

end Go.Proofs.Ytdegppifgcbaeaa
