/- The laws of layer 5 on counting, packing, there and back, over the contracts of what they call. -/
import Derived.Test.YtfljmnjcoagbmaaRA
namespace Go.Proofs.Ytfljmnjcoagbmaa
open Go.RowKit
open Go.Lib (byteCells)

set_option maxRecDepth 20000 in
set_option maxHeartbeats 3200000 in
theorem law5 (C : Cs) (A : Option Addr) (n c : Nat) (l : List Int) (m : Int) (w : World) (h : Sl w A n c (numCells l)) :
    Calls Try.prog 5 #[.slice A n c, .int .i64 m] w fun e w' => e = .returned (.bool true) ∧ Below w.heap.size w w' := by
  have H := hide h
  have CC := hide C
  clear h C
  by_cases hb1 : 100 < n
  · go_enter Try.func5, Try.ntmps5
    go_wp2_with fail
    refine (CC.out.alive w).mono ?_
    rintro e w1 ⟨rfl, hb⟩
    have B1 := hide hb
    clear hb
    go_wp2
    go_ret
    exact ⟨rfl, B1.out⟩
  obtain ⟨⟨r, er⟩, hr⟩ : ∃ r, packR l = r := ⟨_, rfl⟩
  obtain ⟨q, hq⟩ : ∃ q, (valP l && decide (m ∈ l)) = q := ⟨_, rfl⟩
  have Hr := hide hr
  have Hq := hide hq
  clear hr hq
  go_enter Try.func5, Try.ntmps5
  go_wp2_with fail
  refine (CC.out.alive w).mono ?_
  rintro e w1 ⟨rfl, hb⟩
  have B1 := hide hb
  clear hb
  go_wp2_with fail
  with_reducible refine (CC.out.pack A n c l _ (H.out.below B1.out) (by omega)).mono ?_
  rw [Hr.out]
  intro e w2 hg
  obtain ⟨A2, m2, c2, rfl, -, hs2, hb2⟩ := hg.sl
  have S2 := hide hs2
  have B2 := hide (bgo B1.out hb2)
  clear hg hs2 hb2
  go_wp2_with fail
  with_reducible refine (rpack23 CC.out.put CC.out.putL A n c l _ (H.out.below B2.out)).mono ?_
  rw [Hr.out]
  intro e w3 hg
  obtain ⟨A3, m3, c3, rfl, -, hs3, hb3⟩ := hg.sl
  have S3 := hide hs3
  have S2' := hide (S2.out.below hb3)
  have B3 := hide (bgo B2.out hb3)
  clear hg hs3 hb3 S2
  have hbb : (r == r) = true := by simp
  go_wp2_with fail
  with_reducible refine (sameb24 A2 A3 m2 c2 m3 c3 r r _ S2'.out S3.out).mono ?_
  rintro e w4 ⟨rfl, rfl⟩
  rw [hbb]
  go_wp2_with fail
  with_reducible refine (CC.out.has A n c l m _ (H.out.below B3.out) (by omega)).mono ?_
  rw [Hq.out]
  rintro e w5 ⟨rfl, hb⟩
  have B5 := hide (bgo B3.out hb)
  clear hb
  go_wp2_with fail
  with_reducible refine (rhas26 A n c l m _ (H.out.below B5.out)).mono ?_
  rw [Hq.out]
  rintro e w6 ⟨rfl, hd⟩
  have B6 := hide (B5.out.trans (hd.below _))
  clear hd
  go_wp2
  go_ret
  exact ⟨ret_bool (by simp), B6.out⟩

set_option maxRecDepth 20000 in
set_option maxHeartbeats 3200000 in
theorem law4 (C : Cs) (A : Option Addr) (n c : Nat) (ls : List (List Int)) (k : Int) (w : World) (h : RowsI w A n c ls) (hwf : ∀ l ∈ ls, ∀ z ∈ l, (Lit.int .i64 z).wf = true) :
    Calls Try.prog 4 #[.int .i64 k, .slice A n c] w fun e w' => e = .returned (.bool true) ∧ Below w.heap.size w w' := by
  have hnc := h.1
  have hcc := h.2.1
  have Hlen := hide h.2.2.1
  have H := hide h
  have CC := hide C
  have Hwf := hide hwf
  clear h C hwf
  by_cases hb1 : 8 < n
  · go_enter Try.func4, Try.ntmps4
    go_wp2_with fail
    refine (CC.out.alive w).mono ?_
    rintro e w1 ⟨rfl, hb⟩
    have B1 := hide hb
    clear hb
    go_wp2
    go_ret
    exact ⟨rfl, B1.out⟩
  go_enter Try.func4, Try.ntmps4
  go_wp2_with fail
  refine (CC.out.alive w).mono ?_
  rintro e w1 ⟨rfl, hb⟩
  have B1 := hide hb
  clear hb
  go_wp2
  go_loop [5] (fun x => ∃ i : Nat, i ≤ n ∧ x = .int .i64 i ∧ ∀ l ∈ ls.take i, l.length ≤ 20) (fun x => n - (intOf x).toNat)
  case atStart => exact ⟨0, Nat.zero_le _, rfl, fun l hl => by simp at hl⟩
  case round =>
    obtain ⟨i, hin, rfl, h20⟩ := hrel
    have H20 := hide h20
    clear h20
    by_cases hlt : i < n
    · obtain ⟨ad, B, p, q, l, rfl, hl, hcell, hsl⟩ := (H.out.below B1.out).at_ hlt
      by_cases hp : 20 < p
      · clear hl hsl
        go_wp2
        go_ret
        exact ⟨rfl, B1.out⟩
      · have Hn := hide (show ∀ x ∈ ls.take (i + 1), x.length ≤ 20 from fun x hx => by
          rw [takeL_at ls i l hl] at hx
          rcases List.mem_append.1 hx with hx | hx
          · exact H20.out x hx
          · simp at hx; subst hx; have := hsl.nlen; omega)
        clear hl hsl
        go_wp2
        go_round
        case rel => exact ⟨i + 1, by omega, by go_num, Hn.out⟩
        case measure => simp [intOf]; omega
    · have h20 := H20.out
      rw [List.take_of_length_le (by rw [Hlen.out]; omega)] at h20
      have Hall := hide (show ∀ x ∈ ls, x.length ≤ 1000 from fun x hx => by have := h20 x hx; omega)
      clear h20
      go_wp2_with fail
      with_reducible refine (CC.out.least A n c ls k _ (H.out.below B1.out) (by omega) Hall.out Hwf.out).mono ?_
      intro e w2 hg
      obtain ⟨A2, m2, c2, rfl, -, hs2, hb2⟩ := hg.sl
      have S2 := hide hs2
      have B2 := hide (bgo B1.out hb2)
      clear hg hs2 hb2
      go_wp2_with fail
      with_reducible refine (rleast21 A n c ls k _ (H.out.below B2.out) (by omega) Hall.out).mono ?_
      intro e w3 hg
      obtain ⟨A3, m3, c3, rfl, -, hs3, hb3⟩ := hg.sl
      have S3 := hide hs3
      have S2' := hide (S2.out.below hb3)
      have B3 := hide (bgo B2.out hb3)
      clear hg hs3 hb3 S2
      go_wp2_with fail
      with_reducible refine (rsame13 A2 A3 m2 c2 m3 c3 _ _ S2'.out S3.out).mono ?_
      rintro e w4 ⟨rfl, hd⟩
      have B4 := hide (B3.out.trans (hd.below _))
      clear hd
      go_wp2
      go_ret
      exact ⟨rfl, B4.out⟩

theorem pack_len (l : List Int) (h : valP l = true) : (packP l).length ≤ 200000 := by
  have h1 := heads_len (blocksP l) (blocks_good l h)
  have h2 := bodies_len (blocksP l) (blocks_good l h)
  have h3 := val_len l h
  have h4 := enc_len9' l.length (by unfold big; omega)
  rw [blocks_len] at h1 h2
  unfold packP
  rw [List.length_append, List.length_append]
  omega

set_option maxRecDepth 20000 in
set_option maxHeartbeats 3200000 in
theorem law8 (C : Cs) (A A' : Option Addr) (n c n' c' : Nat) (l : List Int) (b : List UInt8) (w : World) (h : Sl w A n c (numCells l)) (h' : Sl w A' n' c' (byteCells b)) :
    Calls Try.prog 8 #[.slice A n c, .slice A' n' c'] w fun e w' => e = .returned (.bool true) ∧ Below w.heap.size w w' := by
  have H := hide h
  have H' := hide h'
  have CC := hide C
  clear h h' C
  by_cases hb1 : 200 < n
  · go_enter Try.func8, Try.ntmps8
    go_wp2_with fail
    refine (CC.out.alive w).mono ?_
    rintro e w1 ⟨rfl, hb⟩
    have B1 := hide hb
    clear hb
    go_wp2
    go_ret
    exact ⟨rfl, B1.out⟩
  by_cases hb2 : 1000 < n'
  · go_enter Try.func8, Try.ntmps8
    go_wp2_with fail
    refine (CC.out.alive w).mono ?_
    rintro e w1 ⟨rfl, hb⟩
    have B1 := hide hb
    clear hb
    go_wp2
    go_ret
    exact ⟨rfl, B1.out⟩
  cases hv : valP l with
  | false =>
    have hpk : packR l = ([], 1) := by unfold packR; rw [hv]; rfl
    have Hpk := hide hpk
    have Hv := hide hv
    clear hpk hv
    go_enter Try.func8, Try.ntmps8
    go_wp2_with fail
    refine (CC.out.alive w).mono ?_
    rintro e w1 ⟨rfl, hb⟩
    have B1 := hide hb
    clear hb
    go_wp2_with fail
    with_reducible refine (CC.out.pack A n c l _ (H.out.below B1.out) (by omega)).mono ?_
    rw [Hpk.out]
    intro e w2 hg
    obtain ⟨A2, m2, c2, rfl, -, -, hb2⟩ := hg.sl
    have B2 := hide (bgo B1.out hb2)
    clear hg hb2
    go_wp2_with fail
    with_reducible refine (CC.out.valid A n c l _ (H.out.below B2.out) (by omega)).mono ?_
    rw [Hv.out]
    rintro e w3 ⟨rfl, hb⟩
    have B3 := hide (bgo B2.out hb)
    clear hb
    go_wp2_with fail
    with_reducible refine (CC.out.unpack A' n' c' b _ (H'.out.below B3.out) (by omega)).mono ?_
    cases hu : unpackP b with
    | none =>
      have Hu := hide hu
      clear hu
      intro e w6 hg
      have hg' : GotU _ ([], 3) e w6 := hg
      obtain ⟨A6, m6, c6, rfl, hm6, -, hb6⟩ := hg'.sl
      have hm0 : m6 = 0 := hm6
      subst hm0
      have B6 := hide (bgo B3.out hb6)
      clear hg hg' hb6 hm6
      go_wp2
      go_ret
      exact ⟨rfl, B6.out⟩
    | some xs =>
      obtain ⟨hv2, hp2⟩ := pack_unpack b xs hu
      have hxl := val_len xs hv2
      have hpr : packR xs = (b, 0) := by unfold packR; rw [hv2, hp2]; rfl
      have Hpr := hide hpr
      clear hu hv2 hp2 hpr
      intro e w6 hg
      have hg' : GotU _ (xs, 0) e w6 := hg
      obtain ⟨A6, m6, c6, rfl, hm6, hs6, hb6⟩ := hg'.sl
      have hm6' : m6 = xs.length := hm6
      have hm6b : m6 ≤ 100000 := by omega
      have hs6' : Sl w6 A6 m6 c6 (numCells xs) := hs6
      have S6 := hide hs6'
      have B6 := hide (bgo B3.out hb6)
      clear hg hg' hb6 hm6 hm6' hs6 hs6'
      go_wp2_with fail
      with_reducible refine (CC.out.pack A6 m6 c6 xs _ S6.out (by omega)).mono ?_
      rw [Hpr.out]
      intro e w7 hg
      obtain ⟨A7, m7, c7, rfl, -, hs7, hb7⟩ := hg.sl
      have S7 := hide hs7
      have B7 := hide (bgo B6.out hb7)
      clear hg hs7 hb7
      have hbb : (b == b) = true := by simp
      go_wp2_with fail
      with_reducible refine (sameb24 A' A7 n' c' m7 c7 b b _ (H'.out.below B7.out) S7.out).mono ?_
      rintro e w8 ⟨rfl, rfl⟩
      rw [hbb]
      go_wp2
      go_ret
      exact ⟨rfl, B7.out⟩
  | true =>
    have hpk : packR l = (packP l, 0) := by unfold packR; rw [hv]; rfl
    have hup : unpR (unpackP (packP l)) = (l, 0) := by rw [unpack_pack l hv]; rfl
    have hpl := pack_len l hv
    have Hpk := hide hpk
    have Hup := hide hup
    have Hv := hide hv
    clear hpk hup hv
    go_enter Try.func8, Try.ntmps8
    go_wp2_with fail
    refine (CC.out.alive w).mono ?_
    rintro e w1 ⟨rfl, hb⟩
    have B1 := hide hb
    clear hb
    go_wp2_with fail
    with_reducible refine (CC.out.pack A n c l _ (H.out.below B1.out) (by omega)).mono ?_
    rw [Hpk.out]
    intro e w2 hg
    obtain ⟨A2, m2, c2, rfl, hm2, hs2, hb2⟩ := hg.sl
    have hm2' : m2 = (packP l).length := hm2
    have hm2b : m2 ≤ 1000000 := by omega
    have S2 := hide hs2
    have B2 := hide (bgo B1.out hb2)
    clear hg hb2 hs2 hm2 hm2'
    go_wp2_with fail
    with_reducible refine (CC.out.valid A n c l _ (H.out.below B2.out) (by omega)).mono ?_
    rw [Hv.out]
    rintro e w3 ⟨rfl, hb⟩
    have B3 := hide (bgo B2.out hb)
    have S3 := hide (S2.out.below hb)
    clear hb S2
    go_wp2_with fail
    refine (CC.out.unpack A2 m2 c2 (packP l) _ S3.out (by omega)).mono ?_
    rw [Hup.out]
    intro e w4 hg
    obtain ⟨A4, m4, c4, rfl, -, hs4, hb4⟩ := hg.sl
    have hs4' : Sl w4 A4 m4 c4 (numCells l) := hs4
    have S4 := hide hs4'
    have B4 := hide (bgo B3.out hb4)
    clear hg hb4 hs4 hs4' S3
    go_wp2_with fail
    with_reducible refine (rsame13 A A4 n c m4 c4 l _ (H.out.below B4.out) S4.out).mono ?_
    rintro e w5 ⟨rfl, hd⟩
    have B5 := hide (B4.out.trans (hd.below _))
    clear hd S4
    go_wp2_with fail
    with_reducible refine (CC.out.unpack A' n' c' b _ (H'.out.below B5.out) (by omega)).mono ?_
    cases hu : unpackP b with
    | none =>
      have Hu := hide hu
      clear hu
      intro e w6 hg
      have hg' : GotU _ ([], 3) e w6 := hg
      obtain ⟨A6, m6, c6, rfl, hm6, -, hb6⟩ := hg'.sl
      have hm0 : m6 = 0 := hm6
      subst hm0
      have B6 := hide (bgo B5.out hb6)
      clear hg hg' hb6 hm6
      go_wp2
      go_ret
      exact ⟨rfl, B6.out⟩
    | some xs =>
      obtain ⟨hv2, hp2⟩ := pack_unpack b xs hu
      have hxl := val_len xs hv2
      have hpr : packR xs = (b, 0) := by unfold packR; rw [hv2, hp2]; rfl
      have Hpr := hide hpr
      clear hu hv2 hp2 hpr
      intro e w6 hg
      have hg' : GotU _ (xs, 0) e w6 := hg
      obtain ⟨A6, m6, c6, rfl, hm6, hs6, hb6⟩ := hg'.sl
      have hm6' : m6 = xs.length := hm6
      have hm6b : m6 ≤ 100000 := by omega
      have hs6' : Sl w6 A6 m6 c6 (numCells xs) := hs6
      have S6 := hide hs6'
      have B6 := hide (bgo B5.out hb6)
      clear hg hg' hb6 hm6 hm6' hs6 hs6'
      go_wp2_with fail
      with_reducible refine (CC.out.pack A6 m6 c6 xs _ S6.out (by omega)).mono ?_
      rw [Hpr.out]
      intro e w7 hg
      obtain ⟨A7, m7, c7, rfl, -, hs7, hb7⟩ := hg.sl
      have S7 := hide hs7
      have B7 := hide (bgo B6.out hb7)
      clear hg hs7 hb7
      have hbb : (b == b) = true := by simp
      go_wp2_with fail
      with_reducible refine (sameb24 A' A7 n' c' m7 c7 b b _ (H'.out.below B7.out) S7.out).mono ?_
      rintro e w8 ⟨rfl, rfl⟩
      rw [hbb]
      go_wp2
      go_ret
      exact ⟨rfl, B7.out⟩

end Go.Proofs.Ytfljmnjcoagbmaa
