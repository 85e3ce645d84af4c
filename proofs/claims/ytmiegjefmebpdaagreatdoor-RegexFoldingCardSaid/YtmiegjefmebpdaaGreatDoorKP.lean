/- Walks of layer 8's reference: sequences, alternatives, Parse. -/
import Derived.Test.YtmiegjefmebpdaaGreatDoorKO
namespace Go.Proofs.YtmiegjefmebpdaaGreatDoor
open Go.RowKit

theorem ownX_empty (w : World) (B : Nat) (hB : B ≤ w.heap.size) : OwnX (w.alloc (.cells #[] 25)) B (.slice (some ⟨w.heap.size, 0, none⟩) 0 0) [] :=
  ⟨[], [], ⟨rfl, Or.inr ⟨w.heap.size, 0, #[], rfl, hB, heap_alloc_new w _, Nat.le_refl _, by unfold maxLen; omega, rfl, rfl⟩⟩, rfl, fun i u h => by simp at h, fun i u x h => by simp at h⟩
theorem one_of_len {l : List Rx} (h : l.length = 1) : ∃ x, l = [x] := by
  match l, h with
  | [x], _ => exact ⟨x, rfl⟩
theorem infoX : (Tryz.prog.info? 25).map (fun i => (i.zero, i.size, i.bytes)) = some (some (.agg #[.int .i64 0, .slice none 0 0, .int .i64 0, .int .i64 0, .slice none 0 0]), 5, 72) := by kernel_rfl

set_option maxRecDepth 100000 in
set_option maxHeartbeats 12800000 in
theorem seq56 (s : ByteArray) (hs : s.size ≤ 20000) (n : Nat) (hI : ∀ n', n' ≤ n → ItemC s n') : SeqC s (n + 1) := by
  intro k w hk hn
  obtain ⟨i0, hi, hz0, hz1, hz2⟩ := info_parts infoX
  have HI := hide hI
  clear hI
  obtain ⟨w0, hw0⟩ : ∃ w0, w.alloc (.cells #[.int .i64 0, .slice none 0 0, .int .i64 0, .int .i64 0, .slice none 0 0] 25) = w0 := ⟨_, rfl⟩
  have HF0 := hide (show FiveF w0 w.heap.size (.int .i64 0) (.slice none 0 0) (.int .i64 0) (.int .i64 0) (.slice none 0 0) by rw [← hw0]; exact fiveF_new w _ _ _ _ _ 25)
  have HB0 := hide (show Below w.heap.size w w0 by rw [← hw0]; exact bnew (Below.refl _ w) _)
  have hs0 : w.heap.size + 1 ≤ w0.heap.size ∧ w0.heap.size ≤ w.heap.size + 1 := by rw [← hw0]; simp
  obtain ⟨hs1, hs2⟩ := hs0
  have Hlit := hide (show OwnX (w0.alloc (.cells #[] 25)) (w.heap.size + 1) (.slice (some ⟨w0.heap.size, 0, none⟩) 0 0) [] from ownX_empty w0 _ hs1)
  have Hbl := hide ((Below.refl (w.heap.size + 1) w0).alloc hs1 (.cells #[] 25))
  obtain ⟨E, hE⟩ : ∃ E, seqP (n + 1) [] (s.data.toList.drop k) = E := ⟨_, rfl⟩
  rw [hE]
  have HE := hide hE
  clear hE
  go_enter Tryz.func56, Tryz.ntmps56
  go_wp2_with fail
  go_loopw [1, 6] (fun x u wr => ∃ (m n' : Nat) (acc : List Rx), x = .int .i64 (m : Int) ∧ m ≤ s.size ∧ OwnX wr (w.heap.size + 1) u acc ∧ acc.length ≤ m ∧ Below (w.heap.size + 1) w0 wr ∧ seqP n' acc (s.data.toList.drop m) = E ∧ 4 * (s.size - m) + 3 ≤ n' ∧ n' ≤ n + 1) (fun x _ _ => s.size - (intOf x).toNat)
  case atStart => exact ⟨k, n + 1, [], rfl, hk, Hlit.out, Nat.zero_le _, Hbl.out, HE.out, hn, Nat.le_refl _⟩
  case round =>
    clear HE Hlit Hbl
    obtain ⟨m, n', acc, rfl, hm, hown, hal, hbe, hseq, hf1, hf2⟩ := hrel
    obtain ⟨w2, hw2⟩ : ∃ w2, w2 = wr := ⟨wr, rfl⟩
    subst hw2
    obtain ⟨u, huu⟩ : ∃ u, u = u6 := ⟨u6, rfl⟩
    subst huu
    obtain ⟨n', rfl⟩ : ∃ q, n' = q + 1 := ⟨n' - 1, by omega⟩
    have hsz2 := hbe.size
    have OE := hide hown
    have BE := hide hbe
    clear hown hbe
    by_cases hlt : m < s.size
    · have hd := drop_cons hlt
      have hlm : decide ((m : Int) < (s.size : Int)) = true := decide_eq_true (by omega)
      have hmi : (m : Int) < (s.size : Int) := by omega
      obtain ⟨c, hc⟩ : ∃ c, s[m] = c := ⟨_, rfl⟩
      rw [hc] at hd
      have Hd := hide hd
      have e124 : ((c.toNat : Int) != 124) = !decide (c = 124) := u8_ne rfl
      have e41 : ((c.toNat : Int) != 41) = !decide (c = 41) := u8_ne rfl
      rw [hd] at hseq
      unfold seqP at hseq
      clear hd
      by_cases h124 : c = 124
      · rw [if_pos (Or.inl h124), ← Hd.out] at hseq
        rw [decide_eq_true h124] at e124
        have HEq := hide hseq.symm
        clear hseq h124 Hd e41
        obtain ⟨XA, XM, XD, vs, rfl, hxm, hvs, hrx⟩ := OE.out.s
        have hxc := hvs.1
        by_cases hone : XM = 1
        · obtain ⟨xo, hxo⟩ : ∃ xq, acc = [xq] := one_of_len (by rw [← hxm, hone])
          have HEn := hide (show E = some (xo, s.data.toList.drop m) by rw [HEq.out, hxo]; rfl)
          have Ho := hide (offO_at s m hm xo)
          have hq1 : ((XM : Int) == 1) = true := by rw [hone]; rfl
          have kx : (0 : Int) < (XM : Int) := by omega
          obtain ⟨g, o, d0, d1, d2, d3, d4, rfl, hv0, a0, a1, a2, a3, a4⟩ := hvs.at_ (i := 0) (by omega)
          simp only [Nat.zero_mul, Nat.add_zero] at a0 a1 a2 a3 a4
          have hr0 := hrx 0 _ xo hv0 (by rw [hxo]; rfl)
          obtain ⟨q0, qA, qn, qc, q1, q2, qB, qm, qd, hag⟩ := hr0.agg9
          injection hag with hag
          injection hag with hag
          simp only [List.cons.injEq, and_true] at hag
          obtain ⟨rfl, rfl, rfl, rfl, rfl⟩ := hag
          have RE := hide hr0
          clear hvs hrx hv0 hr0 hxo hxm OE HEq
          have hfx := HF0.out.at_ BE.out (Nat.lt_succ_self _)
          have HFx := hide hfx
          obtain ⟨⟨-, f1, f2, f3, f4, f5⟩, f6, f7, f8, f9, f10⟩ := hfx
          have HBx := hide (HB0.out.trans ((BE.out).mono (Nat.le_succ _)))
          go_wp2
          exact bodyPost_ret (res_two rfl _ _ w.heap.size _ _ _ _ _ _ rfl rfl (put5_five HFx.out (.int .i64 q0) (.slice qA qn qc) (.int .i64 q1) (.int .i64 q2) (.slice qB qm qd))) rfl ⟨_, by rw [HEn.out, Ho.out]; rfl, by rw [HEn.out]; exact put5_rxv RE.out (Nat.lt_succ_self _) _ (Nat.le_succ _), put5_below HBx.out (Nat.le_refl _)⟩
        · have HEn := hide (show E = some (.mk 2 [] 0 0 acc, s.data.toList.drop m) by rw [HEq.out, wrapS_two 2 acc (by omega)])
          have Ho := hide (offO_at s m hm (Rx.mk 2 [] 0 0 acc))
          have hq1 : ((XM : Int) == 1) = false := beq_eq_false_iff_ne.2 (by omega)
          have RE := hide (OE.out.rx 2 (by omega))
          clear hvs hrx hxm OE HEq
          have hfx := HF0.out.at_ BE.out (Nat.lt_succ_self _)
          have HFx := hide hfx
          obtain ⟨⟨-, f1, f2, f3, f4, f5⟩, f6, f7, f8, f9, f10⟩ := hfx
          have HBx := hide (HB0.out.trans ((BE.out).mono (Nat.le_succ _)))
          go_wp2
          exact bodyPost_ret (res_two rfl _ _ w.heap.size _ _ _ _ _ _ rfl rfl (put5_five HFx.out (.int .i64 2) (.slice none 0 0) (.int .i64 0) (.int .i64 0) (.slice XA XM XD))) rfl ⟨_, by rw [HEn.out, Ho.out]; rfl, by rw [HEn.out]; exact put5_rxv RE.out (Nat.lt_succ_self _) _ (Nat.le_succ _), put5_below HBx.out (Nat.le_refl _)⟩
      by_cases h41 : c = 41
      · rw [if_pos (Or.inr h41), ← Hd.out] at hseq
        rw [decide_eq_false h124] at e124
        rw [decide_eq_true h41] at e41
        have HEq := hide hseq.symm
        clear hseq h124 h41 Hd
        obtain ⟨XA, XM, XD, vs, rfl, hxm, hvs, hrx⟩ := OE.out.s
        have hxc := hvs.1
        by_cases hone : XM = 1
        · obtain ⟨xo, hxo⟩ : ∃ xq, acc = [xq] := one_of_len (by rw [← hxm, hone])
          have HEn := hide (show E = some (xo, s.data.toList.drop m) by rw [HEq.out, hxo]; rfl)
          have Ho := hide (offO_at s m hm xo)
          have hq1 : ((XM : Int) == 1) = true := by rw [hone]; rfl
          have kx : (0 : Int) < (XM : Int) := by omega
          obtain ⟨g, o, d0, d1, d2, d3, d4, rfl, hv0, a0, a1, a2, a3, a4⟩ := hvs.at_ (i := 0) (by omega)
          simp only [Nat.zero_mul, Nat.add_zero] at a0 a1 a2 a3 a4
          have hr0 := hrx 0 _ xo hv0 (by rw [hxo]; rfl)
          obtain ⟨q0, qA, qn, qc, q1, q2, qB, qm, qd, hag⟩ := hr0.agg9
          injection hag with hag
          injection hag with hag
          simp only [List.cons.injEq, and_true] at hag
          obtain ⟨rfl, rfl, rfl, rfl, rfl⟩ := hag
          have RE := hide hr0
          clear hvs hrx hv0 hr0 hxo hxm OE HEq
          have hfx := HF0.out.at_ BE.out (Nat.lt_succ_self _)
          have HFx := hide hfx
          obtain ⟨⟨-, f1, f2, f3, f4, f5⟩, f6, f7, f8, f9, f10⟩ := hfx
          have HBx := hide (HB0.out.trans ((BE.out).mono (Nat.le_succ _)))
          go_wp2
          exact bodyPost_ret (res_two rfl _ _ w.heap.size _ _ _ _ _ _ rfl rfl (put5_five HFx.out (.int .i64 q0) (.slice qA qn qc) (.int .i64 q1) (.int .i64 q2) (.slice qB qm qd))) rfl ⟨_, by rw [HEn.out, Ho.out]; rfl, by rw [HEn.out]; exact put5_rxv RE.out (Nat.lt_succ_self _) _ (Nat.le_succ _), put5_below HBx.out (Nat.le_refl _)⟩
        · have HEn := hide (show E = some (.mk 2 [] 0 0 acc, s.data.toList.drop m) by rw [HEq.out, wrapS_two 2 acc (by omega)])
          have Ho := hide (offO_at s m hm (Rx.mk 2 [] 0 0 acc))
          have hq1 : ((XM : Int) == 1) = false := beq_eq_false_iff_ne.2 (by omega)
          have RE := hide (OE.out.rx 2 (by omega))
          clear hvs hrx hxm OE HEq
          have hfx := HF0.out.at_ BE.out (Nat.lt_succ_self _)
          have HFx := hide hfx
          obtain ⟨⟨-, f1, f2, f3, f4, f5⟩, f6, f7, f8, f9, f10⟩ := hfx
          have HBx := hide (HB0.out.trans ((BE.out).mono (Nat.le_succ _)))
          go_wp2
          exact bodyPost_ret (res_two rfl _ _ w.heap.size _ _ _ _ _ _ rfl rfl (put5_five HFx.out (.int .i64 2) (.slice none 0 0) (.int .i64 0) (.int .i64 0) (.slice XA XM XD))) rfl ⟨_, by rw [HEn.out, Ho.out]; rfl, by rw [HEn.out]; exact put5_rxv RE.out (Nat.lt_succ_self _) _ (Nat.le_succ _), put5_below HBx.out (Nat.le_refl _)⟩
      rw [if_neg (by simp [h124, h41]), ← Hd.out] at hseq
      rw [decide_eq_false h124] at e124
      rw [decide_eq_false h41] at e41
      have HIt := hide (HI.out n' (by omega) m w2 hlt (by omega))
      cases hit : itemP n' (s.data.toList.drop m) with
      | none =>
        rw [hit] at hseq HIt
        have HEn := hide hseq.symm
        have hm1 : decide ((-1 : Int) < 0) = true := rfl
        clear hseq hit Hd h124 h41
        go_wp2_with fail
        with_reducible refine HIt.out.mono ?_
        rintro e w3 ⟨v3, rfl, hr3, hb3⟩
        obtain ⟨q0, qA, qn, qc, q1, q2, qB, qm, qd, rfl⟩ := hr3.agg9
        have hsz3 := hb3.size
        have hbA : Below w3.heap.size w3 (w3.alloc (.cells #[.int .i64 q0, .slice qA qn qc, .int .i64 q1, .int .i64 q2, .slice qB qm qd] 25)) := bnew (Below.refl _ w3) _
        have B4 := hide (BE.out.trans ((hb3.mono (by omega)).trans (hbA.mono (by omega))))
        have hfv := five_new w3 (.int .i64 q0) (.slice qA qn qc) (.int .i64 q1) (.int .i64 q2) (.slice qB qm qd) 25
        obtain ⟨-, b0, b1, b2, b3, b4⟩ := hfv
        clear hr3 hb3 hbA
        have hfx := HF0.out.at_ B4.out (Nat.lt_succ_self _)
        have HFx := hide hfx
        obtain ⟨⟨-, f1, f2, f3, f4, f5⟩, f6, f7, f8, f9, f10⟩ := hfx
        have HBx := hide (HB0.out.trans ((B4.out).mono (Nat.le_succ _)))
        go_wp2
        exact bodyPost_ret (res_two rfl _ _ w.heap.size _ _ _ _ _ _ rfl rfl (put5_five HFx.out (.int .i64 0) (.slice none 0 0) (.int .i64 0) (.int .i64 0) (.slice none 0 0))) rfl ⟨_, by rw [HEn.out]; rfl, by rw [HEn.out]; exact rxv_zero, put5_below HBx.out (Nat.le_refl _)⟩
      | some p =>
        obtain ⟨x, r⟩ := p
        rw [hit] at hseq HIt
        dsimp only at hseq
        have hlen := (parse_len n').2.1 _ _ _ hit
        obtain ⟨m1, hm1, hm1s, rfl⟩ := off_of hm ((parse_end n').2.1 _ _ _ hit)
        rw [drop_len, drop_len] at hlen
        have HIt' := hide (HIt.out.mono fun _ _ h => gotP_some hm1s h)
        have Hseq := hide hseq
        have l0 : decide ((m1 : Int) < 0) = false := decide_eq_false (by omega)
        have l0' : ¬ (m1 : Int) < 0 := by omega
        clear hseq hit HIt Hd h124 h41
        go_wp2_with fail
        with_reducible refine HIt'.out.mono ?_
        rintro e w3 ⟨v3, rfl, hr3, hb3⟩
        obtain ⟨q0, qA, qn, qc, q1, q2, qB, qm, qd, rfl⟩ := hr3.agg9
        have hsz3 := hb3.size
        have hbA : Below w3.heap.size w3 (w3.alloc (.cells #[.int .i64 q0, .slice qA qn qc, .int .i64 q1, .int .i64 q2, .slice qB qm qd] 25)) := bnew (Below.refl _ w3) _
        have B4 := hide (BE.out.trans ((hb3.mono (by omega)).trans (hbA.mono (by omega))))
        have hfv := five_new w3 (.int .i64 q0) (.slice qA qn qc) (.int .i64 q1) (.int .i64 q2) (.slice qB qm qd) 25
        obtain ⟨-, b0, b1, b2, b3, b4⟩ := hfv
        have O4 := hide ((OE.out.below hb3).below hbA)
        have hul : ∀ g, u.ownBlock = some g → g < w2.heap.size := fun g hg => by
          obtain ⟨cs, vs, h1, _⟩ := OE.out
          exact (h1.lt g hg).2
        have R4 := hide ((hr3.kept hbA).map (fun _ _ _ => rfl) fun g hg _ => (⟨by omega, fun e => by have := hul g e; omega⟩ : w.heap.size + 1 ≤ g ∧ u.ownBlock ≠ some g))
        have hs4 : (w3.alloc (.cells #[.int .i64 q0, .slice qA qn qc, .int .i64 q1, .int .i64 q2, .slice qB qm qd] 25)).heap.size = w3.heap.size + 1 := by simp
        have hs4' : w.heap.size + 1 ≤ (w3.alloc (.cells #[.int .i64 q0, .slice qA qn qc, .int .i64 q1, .int .i64 q2, .slice qB qm qd] 25)).heap.size := by omega
        clear hr3 hb3 hbA hul
        go_wp2_with (first
          | (at_builtin; refine wp_push_rx rfl (.tmp 35) (.tmp 37) 23 rfl i0 _ 72 Tryz.underlying23 hi hz0 hz1 hz2 rfl (w.heap.size + 1) u acc rfl (w3.alloc (.cells #[.int .i64 q0, .slice qA qn qc, .int .i64 q1, .int .i64 q2, .slice qB qm qd] 25)) _ _ _ _ _ x O4.out hs4' _ hs4.symm rfl R4.out (by omega) (by unfold maxLen; omega) ?_; intro v7 w7 hown7 hb7; have O7 := hide hown7; have B7 := hide (B4.out.trans hb7); clear hown7 hb7)
          | fail)
        go_roundw
        case rel => exact ⟨m1, n', acc ++ [x], rfl, hm1s, O7.out, by rw [List.length_append]; simp; omega, B7.out, Hseq.out, by omega, by omega⟩
        case measure => simp [intOf]; omega
    · have hd := drop_end (s := s) (k := m) (by omega)
      have Hd := hide hd
      rw [hd] at hseq
      unfold seqP at hseq
      rw [← Hd.out] at hseq
      have HEq := hide hseq.symm
      have hlm : decide ((m : Int) < (s.size : Int)) = false := decide_eq_false (by omega)
      have hmi : ¬ (m : Int) < (s.size : Int) := by omega
      clear hseq hd Hd
      obtain ⟨XA, XM, XD, vs, rfl, hxm, hvs, hrx⟩ := OE.out.s
      have hxc := hvs.1
      by_cases hone : XM = 1
      · obtain ⟨xo, hxo⟩ : ∃ xq, acc = [xq] := one_of_len (by rw [← hxm, hone])
        have HEn := hide (show E = some (xo, s.data.toList.drop m) by rw [HEq.out, hxo]; rfl)
        have Ho := hide (offO_at s m hm xo)
        have hq1 : ((XM : Int) == 1) = true := by rw [hone]; rfl
        have kx : (0 : Int) < (XM : Int) := by omega
        obtain ⟨g, o, d0, d1, d2, d3, d4, rfl, hv0, a0, a1, a2, a3, a4⟩ := hvs.at_ (i := 0) (by omega)
        simp only [Nat.zero_mul, Nat.add_zero] at a0 a1 a2 a3 a4
        have hr0 := hrx 0 _ xo hv0 (by rw [hxo]; rfl)
        obtain ⟨q0, qA, qn, qc, q1, q2, qB, qm, qd, hag⟩ := hr0.agg9
        injection hag with hag
        injection hag with hag
        simp only [List.cons.injEq, and_true] at hag
        obtain ⟨rfl, rfl, rfl, rfl, rfl⟩ := hag
        have RE := hide hr0
        clear hvs hrx hv0 hr0 hxo hxm OE HEq
        have hfx := HF0.out.at_ BE.out (Nat.lt_succ_self _)
        have HFx := hide hfx
        obtain ⟨⟨-, f1, f2, f3, f4, f5⟩, f6, f7, f8, f9, f10⟩ := hfx
        have HBx := hide (HB0.out.trans ((BE.out).mono (Nat.le_succ _)))
        go_wp2
        exact bodyPost_ret (res_two rfl _ _ w.heap.size _ _ _ _ _ _ rfl rfl (put5_five HFx.out (.int .i64 q0) (.slice qA qn qc) (.int .i64 q1) (.int .i64 q2) (.slice qB qm qd))) rfl ⟨_, by rw [HEn.out, Ho.out]; rfl, by rw [HEn.out]; exact put5_rxv RE.out (Nat.lt_succ_self _) _ (Nat.le_succ _), put5_below HBx.out (Nat.le_refl _)⟩
      · have HEn := hide (show E = some (.mk 2 [] 0 0 acc, s.data.toList.drop m) by rw [HEq.out, wrapS_two 2 acc (by omega)])
        have Ho := hide (offO_at s m hm (Rx.mk 2 [] 0 0 acc))
        have hq1 : ((XM : Int) == 1) = false := beq_eq_false_iff_ne.2 (by omega)
        have RE := hide (OE.out.rx 2 (by omega))
        clear hvs hrx hxm OE HEq
        have hfx := HF0.out.at_ BE.out (Nat.lt_succ_self _)
        have HFx := hide hfx
        obtain ⟨⟨-, f1, f2, f3, f4, f5⟩, f6, f7, f8, f9, f10⟩ := hfx
        have HBx := hide (HB0.out.trans ((BE.out).mono (Nat.le_succ _)))
        go_wp2
        exact bodyPost_ret (res_two rfl _ _ w.heap.size _ _ _ _ _ _ rfl rfl (put5_five HFx.out (.int .i64 2) (.slice none 0 0) (.int .i64 0) (.int .i64 0) (.slice XA XM XD))) rfl ⟨_, by rw [HEn.out, Ho.out]; rfl, by rw [HEn.out]; exact put5_rxv RE.out (Nat.lt_succ_self _) _ (Nat.le_succ _), put5_below HBx.out (Nat.le_refl _)⟩

set_option maxRecDepth 100000 in
set_option maxHeartbeats 12800000 in
theorem alt40 (s : ByteArray) (hs : s.size ≤ 20000) (n : Nat) (hS : ∀ n', n' ≤ n → SeqC s n') : AltC s (n + 1) := by
  intro k w hk hn
  obtain ⟨i0, hi, hz0, hz1, hz2⟩ := info_parts infoX
  have HS := hide hS
  clear hS
  obtain ⟨w0, hw0⟩ : ∃ w0, w.alloc (.cells #[.int .i64 0, .slice none 0 0, .int .i64 0, .int .i64 0, .slice none 0 0] 25) = w0 := ⟨_, rfl⟩
  have HF0 := hide (show FiveF w0 w.heap.size (.int .i64 0) (.slice none 0 0) (.int .i64 0) (.int .i64 0) (.slice none 0 0) by rw [← hw0]; exact fiveF_new w _ _ _ _ _ 25)
  have HB0 := hide (show Below w.heap.size w w0 by rw [← hw0]; exact bnew (Below.refl _ w) _)
  have hs0 : w.heap.size + 1 ≤ w0.heap.size ∧ w0.heap.size ≤ w.heap.size + 1 := by rw [← hw0]; simp
  obtain ⟨hs1, hs2⟩ := hs0
  have Hlit := hide (show OwnX (w0.alloc (.cells #[] 25)) (w.heap.size + 1) (.slice (some ⟨w0.heap.size, 0, none⟩) 0 0) [] from ownX_empty w0 _ hs1)
  have Hbl := hide ((Below.refl (w.heap.size + 1) w0).alloc hs1 (.cells #[] 25))
  obtain ⟨E, hE⟩ : ∃ E, altP (n + 1) [] (s.data.toList.drop k) = E := ⟨_, rfl⟩
  rw [hE]
  have HE := hide hE
  clear hE
  go_enter Tryz.func40, Tryz.ntmps40
  go_wp2_with fail
  go_loopw [1, 6] (fun x u wr => ∃ (m n' : Nat) (acc : List Rx), x = .int .i64 (m : Int) ∧ m ≤ s.size ∧ OwnX wr (w.heap.size + 1) u acc ∧ acc.length ≤ m ∧ Below (w.heap.size + 1) w0 wr ∧ altP n' acc (s.data.toList.drop m) = E ∧ 4 * (s.size - m) + 4 ≤ n' ∧ n' ≤ n + 1) (fun x _ _ => s.size + 1 - (intOf x).toNat)
  case atStart => exact ⟨k, n + 1, [], rfl, hk, Hlit.out, Nat.zero_le _, Hbl.out, HE.out, hn, Nat.le_refl _⟩
  case round =>
    clear HE Hlit Hbl
    obtain ⟨m, n', acc, rfl, hm, hown, hal, hbe, hseq, hf1, hf2⟩ := hrel
    obtain ⟨w2, hw2⟩ : ∃ w2, w2 = wr := ⟨wr, rfl⟩
    subst hw2
    obtain ⟨u, huu⟩ : ∃ u, u = u6 := ⟨u6, rfl⟩
    subst huu
    obtain ⟨n', rfl⟩ : ∃ q, n' = q + 1 := ⟨n' - 1, by omega⟩
    have hsz2 := hbe.size
    have OE := hide hown
    have BE := hide hbe
    clear hown hbe
    unfold altP at hseq
    have HSq := hide (HS.out n' (by omega) m w2 hm (by omega))
    cases hit : seqP n' [] (s.data.toList.drop m) with
    | none =>
      rw [hit] at hseq HSq
      have HEn := hide hseq.symm
      have hm1 : decide ((-1 : Int) < 0) = true := rfl
      have HSq' := HSq
      clear hseq hit HSq
      go_wp2_with fail
      with_reducible refine HSq'.out.mono ?_
      rintro e w3 ⟨v3, rfl, hr3, hb3⟩
      obtain ⟨q0, qA, qn, qc, q1, q2, qB, qm, qd, rfl⟩ := hr3.agg9
      have hsz3 := hb3.size
      have hbA : Below w3.heap.size w3 (w3.alloc (.cells #[.int .i64 q0, .slice qA qn qc, .int .i64 q1, .int .i64 q2, .slice qB qm qd] 25)) := bnew (Below.refl _ w3) _
      have B4 := hide (BE.out.trans ((hb3.mono (by omega)).trans (hbA.mono (by omega))))
      have hfv := five_new w3 (.int .i64 q0) (.slice qA qn qc) (.int .i64 q1) (.int .i64 q2) (.slice qB qm qd) 25
      obtain ⟨-, b0, b1, b2, b3, b4⟩ := hfv
      have hfx := HF0.out.at_ B4.out (Nat.lt_succ_self _)
      have HFx := hide hfx
      obtain ⟨⟨-, f1, f2, f3, f4, f5⟩, f6, f7, f8, f9, f10⟩ := hfx
      have HBx := hide (HB0.out.trans ((B4.out).mono (Nat.le_succ _)))
      go_wp2
      exact bodyPost_ret (res_two rfl _ _ w.heap.size _ _ _ _ _ _ rfl rfl (put5_five HFx.out (.int .i64 0) (.slice none 0 0) (.int .i64 0) (.int .i64 0) (.slice none 0 0))) rfl ⟨_, by rw [HEn.out]; rfl, by rw [HEn.out]; exact rxv_zero, put5_below HBx.out (Nat.le_refl _)⟩
    | some p =>
      obtain ⟨x, r⟩ := p
      rw [hit] at hseq HSq
      dsimp only at hseq
      have hlen := (parse_len n').2.2.1 _ _ _ _ hit
      obtain ⟨m1, hm1, hm1s, rfl⟩ := off_of hm ((parse_end n').2.2.1 _ _ _ _ hit)
      have HSq' := hide (HSq.out.mono fun _ _ h => gotP_some hm1s h)
      have l0 : decide ((m1 : Int) < 0) = false := decide_eq_false (by omega)
      have l0' : ¬ (m1 : Int) < 0 := by omega
      clear hit HSq hlen
      by_cases hlt : m1 < s.size
      · have hd := drop_cons hlt
        have hlm : decide ((m1 : Int) ≥ (s.size : Int)) = false := decide_eq_false (by omega)
        have hlm' : decide (s.size ≤ m1) = false := decide_eq_false (by omega)
        have hmi : (m1 : Int) < (s.size : Int) := by omega
        obtain ⟨c, hc⟩ : ∃ c, s[m1] = c := ⟨_, rfl⟩
        rw [hc] at hd
        have Hd := hide hd
        have e124 : ((c.toNat : Int) != 124) = !decide (c = 124) := u8_ne rfl
        rw [hd] at hseq
        dsimp only at hseq
        clear hd
        by_cases h124 : c = 124
        · rw [if_pos h124] at hseq
          rw [decide_eq_true h124] at e124
          have Hseq := hide hseq
          clear hseq h124 Hd
          go_wp2_with fail
          with_reducible refine HSq'.out.mono ?_
          rintro e w3 ⟨v3, rfl, hr3, hb3⟩
          obtain ⟨q0, qA, qn, qc, q1, q2, qB, qm, qd, rfl⟩ := hr3.agg9
          have hsz3 := hb3.size
          have hbA : Below w3.heap.size w3 (w3.alloc (.cells #[.int .i64 q0, .slice qA qn qc, .int .i64 q1, .int .i64 q2, .slice qB qm qd] 25)) := bnew (Below.refl _ w3) _
          have B4 := hide (BE.out.trans ((hb3.mono (by omega)).trans (hbA.mono (by omega))))
          have hfv := five_new w3 (.int .i64 q0) (.slice qA qn qc) (.int .i64 q1) (.int .i64 q2) (.slice qB qm qd) 25
          obtain ⟨-, b0, b1, b2, b3, b4⟩ := hfv
          have O4 := hide ((OE.out.below hb3).below hbA)
          have hul : ∀ g, u.ownBlock = some g → g < w2.heap.size := fun g hg => by
            obtain ⟨cs, vs, h1, _⟩ := OE.out
            exact (h1.lt g hg).2
          have R4 := hide ((hr3.kept hbA).map (fun _ _ _ => rfl) fun g hg _ => (⟨by omega, fun e => by have := hul g e; omega⟩ : w.heap.size + 1 ≤ g ∧ u.ownBlock ≠ some g))
          have hs4 : (w3.alloc (.cells #[.int .i64 q0, .slice qA qn qc, .int .i64 q1, .int .i64 q2, .slice qB qm qd] 25)).heap.size = w3.heap.size + 1 := by simp
          have hs4' : w.heap.size + 1 ≤ (w3.alloc (.cells #[.int .i64 q0, .slice qA qn qc, .int .i64 q1, .int .i64 q2, .slice qB qm qd] 25)).heap.size := by omega
          clear hr3 hb3 hbA hul
          go_wp2_with (first
            | (at_builtin; refine wp_push_rx rfl (.tmp 19) (.tmp 21) 23 rfl i0 _ 72 Tryz.underlying23 hi hz0 hz1 hz2 rfl (w.heap.size + 1) u acc rfl (w3.alloc (.cells #[.int .i64 q0, .slice qA qn qc, .int .i64 q1, .int .i64 q2, .slice qB qm qd] 25)) _ _ _ _ _ x O4.out hs4' _ hs4.symm rfl R4.out (by omega) (by unfold maxLen; omega) ?_; intro v7 w7 hown7 hb7; have O7 := hide hown7; have B7 := hide (B4.out.trans hb7); obtain ⟨WA, WM, WD, _, hv7, -⟩ := hown7.s; subst hv7; clear hown7 hb7)
            | fail)
          go_roundw
          case rel => exact ⟨m1 + 1, n', acc ++ [x], by go_num, by omega, O7.out, by rw [List.length_append]; simp; omega, B7.out, Hseq.out, by omega, by omega⟩
          case measure => simp [intOf]; omega
        · rw [if_neg h124, ← Hd.out] at hseq
          rw [decide_eq_false h124] at e124
          have HEq := hide hseq.symm
          clear hseq h124 Hd
          go_wp2_with fail
          with_reducible refine HSq'.out.mono ?_
          rintro e w3 ⟨v3, rfl, hr3, hb3⟩
          obtain ⟨q0, qA, qn, qc, q1, q2, qB, qm, qd, rfl⟩ := hr3.agg9
          have hsz3 := hb3.size
          have hbA : Below w3.heap.size w3 (w3.alloc (.cells #[.int .i64 q0, .slice qA qn qc, .int .i64 q1, .int .i64 q2, .slice qB qm qd] 25)) := bnew (Below.refl _ w3) _
          have B4 := hide (BE.out.trans ((hb3.mono (by omega)).trans (hbA.mono (by omega))))
          have hfv := five_new w3 (.int .i64 q0) (.slice qA qn qc) (.int .i64 q1) (.int .i64 q2) (.slice qB qm qd) 25
          obtain ⟨-, b0, b1, b2, b3, b4⟩ := hfv
          have O4 := hide ((OE.out.below hb3).below hbA)
          have hul : ∀ g, u.ownBlock = some g → g < w2.heap.size := fun g hg => by
            obtain ⟨cs, vs, h1, _⟩ := OE.out
            exact (h1.lt g hg).2
          have R4 := hide ((hr3.kept hbA).map (fun _ _ _ => rfl) fun g hg _ => (⟨by omega, fun e => by have := hul g e; omega⟩ : w.heap.size + 1 ≤ g ∧ u.ownBlock ≠ some g))
          have hs4 : (w3.alloc (.cells #[.int .i64 q0, .slice qA qn qc, .int .i64 q1, .int .i64 q2, .slice qB qm qd] 25)).heap.size = w3.heap.size + 1 := by simp
          have hs4' : w.heap.size + 1 ≤ (w3.alloc (.cells #[.int .i64 q0, .slice qA qn qc, .int .i64 q1, .int .i64 q2, .slice qB qm qd] 25)).heap.size := by omega
          clear hr3 hb3 hbA hul
          go_wp2_with (first
            | (at_builtin; refine wp_push_rx rfl (.tmp 19) (.tmp 21) 23 rfl i0 _ 72 Tryz.underlying23 hi hz0 hz1 hz2 rfl (w.heap.size + 1) u acc rfl (w3.alloc (.cells #[.int .i64 q0, .slice qA qn qc, .int .i64 q1, .int .i64 q2, .slice qB qm qd] 25)) _ _ _ _ _ x O4.out hs4' _ hs4.symm rfl R4.out (by omega) (by unfold maxLen; omega) ?_; intro v7 w7 hown7 hb7; have O7 := hide hown7; have B7 := hide (B4.out.trans hb7); obtain ⟨WA, WM, WD, _, hv7, -⟩ := hown7.s; subst hv7; clear hown7 hb7; refine Hid.out ?_)
            | fail)
          refine hide ?_
          obtain ⟨XA, XM, XD, vs, hvx, hxm, hvs, hrx⟩ := O7.out.s
          obtain ⟨rfl, rfl, rfl⟩ : XA = WA ∧ XM = WM ∧ XD = WD := by cases hvx; exact ⟨rfl, rfl, rfl⟩
          have hxc := hvs.1
          by_cases hone : XM = 1
          · obtain ⟨xo, hxo⟩ : ∃ xq, (acc ++ [x]) = [xq] := one_of_len (by rw [← hxm, hone])
            have HEn := hide (show E = some (xo, s.data.toList.drop m1) by rw [HEq.out, hxo]; rfl)
            have Ho := hide (offO_at s m1 hm1s xo)
            have hq1 : ((XM : Int) == 1) = true := by rw [hone]; rfl
            have kx : (0 : Int) < (XM : Int) := by omega
            obtain ⟨g, o, d0, d1, d2, d3, d4, rfl, hv0, a0, a1, a2, a3, a4⟩ := hvs.at_ (i := 0) (by omega)
            simp only [Nat.zero_mul, Nat.add_zero] at a0 a1 a2 a3 a4
            have hr0 := hrx 0 _ xo hv0 (by rw [hxo]; rfl)
            obtain ⟨q0, qA, qn, qc, q1, q2, qB, qm, qd, hag⟩ := hr0.agg9
            injection hag with hag
            injection hag with hag
            simp only [List.cons.injEq, and_true] at hag
            obtain ⟨rfl, rfl, rfl, rfl, rfl⟩ := hag
            have RE := hide hr0
            clear hvs hrx hv0 hr0 hxo hxm O7 HEq
            have hfx := HF0.out.at_ B7.out (Nat.lt_succ_self _)
            have HFx := hide hfx
            obtain ⟨⟨-, f1, f2, f3, f4, f5⟩, f6, f7, f8, f9, f10⟩ := hfx
            have HBx := hide (HB0.out.trans ((B7.out).mono (Nat.le_succ _)))
            go_wp2
            exact bodyPost_ret (res_two rfl _ _ w.heap.size _ _ _ _ _ _ rfl rfl (put5_five HFx.out (.int .i64 q0) (.slice qA qn qc) (.int .i64 q1) (.int .i64 q2) (.slice qB qm qd))) rfl ⟨_, by rw [HEn.out, Ho.out]; rfl, by rw [HEn.out]; exact put5_rxv RE.out (Nat.lt_succ_self _) _ (Nat.le_succ _), put5_below HBx.out (Nat.le_refl _)⟩
          · have HEn := hide (show E = some (.mk 3 [] 0 0 (acc ++ [x]), s.data.toList.drop m1) by rw [HEq.out, wrapS_two 3 (acc ++ [x]) (by omega)])
            have Ho := hide (offO_at s m1 hm1s (Rx.mk 3 [] 0 0 (acc ++ [x])))
            have hq1 : ((XM : Int) == 1) = false := beq_eq_false_iff_ne.2 (by omega)
            have RE := hide (O7.out.rx 3 (by omega))
            clear hvs hrx hxm O7 HEq
            have hfx := HF0.out.at_ B7.out (Nat.lt_succ_self _)
            have HFx := hide hfx
            obtain ⟨⟨-, f1, f2, f3, f4, f5⟩, f6, f7, f8, f9, f10⟩ := hfx
            have HBx := hide (HB0.out.trans ((B7.out).mono (Nat.le_succ _)))
            go_wp2
            exact bodyPost_ret (res_two rfl _ _ w.heap.size _ _ _ _ _ _ rfl rfl (put5_five HFx.out (.int .i64 3) (.slice none 0 0) (.int .i64 0) (.int .i64 0) (.slice XA XM XD))) rfl ⟨_, by rw [HEn.out, Ho.out]; rfl, by rw [HEn.out]; exact put5_rxv RE.out (Nat.lt_succ_self _) _ (Nat.le_succ _), put5_below HBx.out (Nat.le_refl _)⟩
      · have hd := drop_end (s := s) (k := m1) (by omega)
        have Hd := hide hd
        rw [hd] at hseq
        dsimp only at hseq
        rw [← Hd.out] at hseq
        have HEq := hide hseq.symm
        have hlm : decide ((m1 : Int) ≥ (s.size : Int)) = true := decide_eq_true (by omega)
        have hlm' : decide (s.size ≤ m1) = true := decide_eq_true (by omega)
        have hmi : ¬ (m1 : Int) < (s.size : Int) := by omega
        clear hseq hd Hd
        go_wp2_with fail
        with_reducible refine HSq'.out.mono ?_
        rintro e w3 ⟨v3, rfl, hr3, hb3⟩
        obtain ⟨q0, qA, qn, qc, q1, q2, qB, qm, qd, rfl⟩ := hr3.agg9
        have hsz3 := hb3.size
        have hbA : Below w3.heap.size w3 (w3.alloc (.cells #[.int .i64 q0, .slice qA qn qc, .int .i64 q1, .int .i64 q2, .slice qB qm qd] 25)) := bnew (Below.refl _ w3) _
        have B4 := hide (BE.out.trans ((hb3.mono (by omega)).trans (hbA.mono (by omega))))
        have hfv := five_new w3 (.int .i64 q0) (.slice qA qn qc) (.int .i64 q1) (.int .i64 q2) (.slice qB qm qd) 25
        obtain ⟨-, b0, b1, b2, b3, b4⟩ := hfv
        have O4 := hide ((OE.out.below hb3).below hbA)
        have hul : ∀ g, u.ownBlock = some g → g < w2.heap.size := fun g hg => by
          obtain ⟨cs, vs, h1, _⟩ := OE.out
          exact (h1.lt g hg).2
        have R4 := hide ((hr3.kept hbA).map (fun _ _ _ => rfl) fun g hg _ => (⟨by omega, fun e => by have := hul g e; omega⟩ : w.heap.size + 1 ≤ g ∧ u.ownBlock ≠ some g))
        have hs4 : (w3.alloc (.cells #[.int .i64 q0, .slice qA qn qc, .int .i64 q1, .int .i64 q2, .slice qB qm qd] 25)).heap.size = w3.heap.size + 1 := by simp
        have hs4' : w.heap.size + 1 ≤ (w3.alloc (.cells #[.int .i64 q0, .slice qA qn qc, .int .i64 q1, .int .i64 q2, .slice qB qm qd] 25)).heap.size := by omega
        clear hr3 hb3 hbA hul
        go_wp2_with (first
          | (at_builtin; refine wp_push_rx rfl (.tmp 19) (.tmp 21) 23 rfl i0 _ 72 Tryz.underlying23 hi hz0 hz1 hz2 rfl (w.heap.size + 1) u acc rfl (w3.alloc (.cells #[.int .i64 q0, .slice qA qn qc, .int .i64 q1, .int .i64 q2, .slice qB qm qd] 25)) _ _ _ _ _ x O4.out hs4' _ hs4.symm rfl R4.out (by omega) (by unfold maxLen; omega) ?_; intro v7 w7 hown7 hb7; have O7 := hide hown7; have B7 := hide (B4.out.trans hb7); obtain ⟨WA, WM, WD, _, hv7, -⟩ := hown7.s; subst hv7; clear hown7 hb7; refine Hid.out ?_)
          | fail)
        refine hide ?_
        obtain ⟨XA, XM, XD, vs, hvx, hxm, hvs, hrx⟩ := O7.out.s
        obtain ⟨rfl, rfl, rfl⟩ : XA = WA ∧ XM = WM ∧ XD = WD := by cases hvx; exact ⟨rfl, rfl, rfl⟩
        have hxc := hvs.1
        by_cases hone : XM = 1
        · obtain ⟨xo, hxo⟩ : ∃ xq, (acc ++ [x]) = [xq] := one_of_len (by rw [← hxm, hone])
          have HEn := hide (show E = some (xo, s.data.toList.drop m1) by rw [HEq.out, hxo]; rfl)
          have Ho := hide (offO_at s m1 hm1s xo)
          have hq1 : ((XM : Int) == 1) = true := by rw [hone]; rfl
          have kx : (0 : Int) < (XM : Int) := by omega
          obtain ⟨g, o, d0, d1, d2, d3, d4, rfl, hv0, a0, a1, a2, a3, a4⟩ := hvs.at_ (i := 0) (by omega)
          simp only [Nat.zero_mul, Nat.add_zero] at a0 a1 a2 a3 a4
          have hr0 := hrx 0 _ xo hv0 (by rw [hxo]; rfl)
          obtain ⟨q0, qA, qn, qc, q1, q2, qB, qm, qd, hag⟩ := hr0.agg9
          injection hag with hag
          injection hag with hag
          simp only [List.cons.injEq, and_true] at hag
          obtain ⟨rfl, rfl, rfl, rfl, rfl⟩ := hag
          have RE := hide hr0
          clear hvs hrx hv0 hr0 hxo hxm O7 HEq
          have hfx := HF0.out.at_ B7.out (Nat.lt_succ_self _)
          have HFx := hide hfx
          obtain ⟨⟨-, f1, f2, f3, f4, f5⟩, f6, f7, f8, f9, f10⟩ := hfx
          have HBx := hide (HB0.out.trans ((B7.out).mono (Nat.le_succ _)))
          go_wp2
          exact bodyPost_ret (res_two rfl _ _ w.heap.size _ _ _ _ _ _ rfl rfl (put5_five HFx.out (.int .i64 q0) (.slice qA qn qc) (.int .i64 q1) (.int .i64 q2) (.slice qB qm qd))) rfl ⟨_, by rw [HEn.out, Ho.out]; rfl, by rw [HEn.out]; exact put5_rxv RE.out (Nat.lt_succ_self _) _ (Nat.le_succ _), put5_below HBx.out (Nat.le_refl _)⟩
        · have HEn := hide (show E = some (.mk 3 [] 0 0 (acc ++ [x]), s.data.toList.drop m1) by rw [HEq.out, wrapS_two 3 (acc ++ [x]) (by omega)])
          have Ho := hide (offO_at s m1 hm1s (Rx.mk 3 [] 0 0 (acc ++ [x])))
          have hq1 : ((XM : Int) == 1) = false := beq_eq_false_iff_ne.2 (by omega)
          have RE := hide (O7.out.rx 3 (by omega))
          clear hvs hrx hxm O7 HEq
          have hfx := HF0.out.at_ B7.out (Nat.lt_succ_self _)
          have HFx := hide hfx
          obtain ⟨⟨-, f1, f2, f3, f4, f5⟩, f6, f7, f8, f9, f10⟩ := hfx
          have HBx := hide (HB0.out.trans ((B7.out).mono (Nat.le_succ _)))
          go_wp2
          exact bodyPost_ret (res_two rfl _ _ w.heap.size _ _ _ _ _ _ rfl rfl (put5_five HFx.out (.int .i64 3) (.slice none 0 0) (.int .i64 0) (.int .i64 0) (.slice XA XM XD))) rfl ⟨_, by rw [HEn.out, Ho.out]; rfl, by rw [HEn.out]; exact put5_rxv RE.out (Nat.lt_succ_self _) _ (Nat.le_succ _), put5_below HBx.out (Nat.le_refl _)⟩

theorem parsers (s : ByteArray) (hs : s.size ≤ 20000) (n : Nat) : AtomC s n ∧ ItemC s n ∧ SeqC s n ∧ AltC s n := by
  induction n using Nat.strongRecOn with
  | ind n ih =>
    match n, ih with
    | 0, _ =>
      refine ⟨?_, ?_, ?_, ?_⟩
      · intro k W hk h
        exact absurd h (by omega)
      · intro k W hk h
        exact absurd h (by omega)
      · intro k W hk h
        exact absurd h (by omega)
      · intro k W hk h
        exact absurd h (by omega)
    | n + 1, ih => exact ⟨atom91 s hs n (ih n (by omega)).2.2.2, item73 s hs n (ih n (by omega)).1, seq56 s hs n fun n' h => (ih n' (by omega)).2.1, alt40 s hs n fun n' h => (ih n' (by omega)).2.2.1⟩

end Go.Proofs.YtmiegjefmebpdaaGreatDoor
