/- Walk of layer 8's reference: Parse. -/
import Derived.Test.YtmiegjefmebpdaaGreatDoorKP
namespace Go.Proofs.YtmiegjefmebpdaaGreatDoor
open Go.RowKit

theorem depth_size : ∀ r : Rx, depthR r ≤ sizeR r := by
  intro r
  induction r using Rx.ind with
  | h k s a b l ih =>
    have key : ∀ m : List Rx, (∀ x ∈ m, depthR x ≤ sizeR x) → depthL m ≤ sizeL m := by
      intro m
      induction m with
      | nil => intro _; exact Nat.le_refl _
      | cons x m ihm =>
        intro h
        have h1 := ihm fun y hy => h y (by simp [hy])
        have h2 := h x (by simp)
        unfold depthL sizeL
        omega
    have := key l ih
    unfold depthR sizeR
    omega
theorem setS_size {l : List UInt8} {x : Rx} {r : List UInt8} (h : setS l = some (x, r)) : sizeR x = 1 := by
  unfold setS at h
  repeat' split at h
  all_goals first | (cases h; done) | (cases h; simp [sizeR, sizeL])
theorem suffix_size {x y : Rx} {l r : List UInt8} (h : suffixP x l = some (y, r)) : sizeR y ≤ sizeR x + 1 ∧ (sizeR y ≤ sizeR x ∨ r.length < l.length) := by
  cases l with
  | nil => unfold suffixP at h; cases h; simp
  | cons c l =>
    simp only [suffixP] at h
    split at h
    · cases h; refine ⟨?_, Or.inr (by simp)⟩; simp [repS, sizeR, sizeL]; omega
    · split at h
      · cases h; refine ⟨?_, Or.inr (by simp)⟩; simp [repS, sizeR, sizeL]; omega
      · split at h
        · cases h; refine ⟨?_, Or.inr (by simp)⟩; simp [repS, sizeR, sizeL]; omega
        · split at h
          · split at h
            · rename_i hb
              cases h
              have := bounds_len hb
              refine ⟨?_, Or.inr (by simp; omega)⟩; simp [repS, sizeR, sizeL]; omega
            · cases h
          · cases h; simp
theorem wrap_size (k : Int) (acc : List Rx) : sizeR (wrapS k acc) ≤ sizeL acc + 1 := by
  unfold wrapS
  split
  · simp [sizeL]
  · simp only [sizeR]; omega
theorem wrap_one (k : Int) (x : Rx) : sizeR (wrapS k ([] ++ [x])) = sizeR x := rfl
theorem parse_size : ∀ n, (∀ l x r, atomP n l = some (x, r) → sizeR x + 2 * r.length ≤ 2 * l.length) ∧ (∀ l x r, itemP n l = some (x, r) → sizeR x + 2 * r.length ≤ 2 * l.length) ∧
    (∀ acc l x r, seqP n acc l = some (x, r) → sizeR x + 2 * r.length ≤ sizeL acc + 2 * l.length + 1) ∧
    (∀ acc l x r, altP n acc l = some (x, r) → sizeR x + 2 * r.length ≤ sizeL acc + 2 * l.length + (if acc = [] then 1 else 2))
  | 0 => ⟨fun l x r h => by simp [atomP] at h, fun l x r h => by simp [itemP] at h, fun acc l x r h => by simp [seqP] at h, fun acc l x r h => by simp [altP] at h⟩
  | n + 1 => by
    obtain ⟨h1, h2, h3, h4⟩ := parse_size n
    refine ⟨fun l x r h => ?_, fun l x r h => ?_, fun acc l x r h => ?_, fun acc l x r h => ?_⟩
    · cases l with
      | nil => simp [atomP] at h
      | cons c l =>
        unfold atomP at h
        split at h
        · split at h
          · rename_i y d l' hy
            split at h
            · cases h
              have := h4 _ _ _ _ hy
              simp [sizeL] at this ⊢
              omega
            · cases h
          · cases h
        · split at h
          · have := setS_len h; have := setS_size h; simp; omega
          · split at h
            · cases h; simp [sizeR, sizeL, setR]; omega
            · split at h
              · cases h; simp [sizeR, sizeL]; omega
              · split at h
                · cases h; simp [sizeR, sizeL]; omega
                · split at h
                  · cases l with
                    | nil => simp at h
                    | cons d l' =>
                      simp only at h
                      split at h
                      · cases h; simp [sizeR, sizeL]; omega
                      · split at h
                        · cases h; simp [sizeR, sizeL, setR]; omega
                        · cases h
                  · split at h
                    · cases h
                    · cases h; simp [sizeR, sizeL, setR]; omega
    · unfold itemP at h
      split at h
      · rename_i y l' hy
        have a := h1 _ _ _ hy
        obtain ⟨b1, b2⟩ := suffix_size h
        have b3 := suffix_len h
        omega
      · cases h
    · cases l with
      | nil => unfold seqP at h; cases h; have := wrap_size 2 acc; simp; omega
      | cons c l =>
        unfold seqP at h
        split at h
        · cases h; have := wrap_size 2 acc; simp; omega
        · split at h
          · rename_i y l' hy
            have a := h2 _ _ _ hy
            have b := h3 _ _ _ _ h
            rw [sizeL_app] at b
            omega
          · cases h
    · unfold altP at h
      split at h
      · cases h
      · rename_i y l' hy
        have a := h3 _ _ _ _ hy
        simp only [sizeL] at a
        have hw : sizeR (wrapS 3 (acc ++ [y])) ≤ sizeL acc + sizeR y + (if acc = [] then 0 else 1) := by
          by_cases ha : acc = []
          · subst ha
            rw [wrap_one]; simp [sizeL]
          · rw [if_neg ha]
            have := wrap_size 3 (acc ++ [y])
            rw [sizeL_app] at this
            omega
        have hif : (if acc = [] then 0 else 1) + 1 = (if acc = [] then 1 else 2) := by split <;> rfl
        split at h
        · cases h
          simp at a ⊢
          omega
        · rename_i c l''
          simp at a
          split at h
          · have b := h4 _ _ _ _ h
            rw [sizeL_app, if_neg (by simp)] at b
            have : 1 ≤ (if acc = [] then 1 else 2) := by split <;> omega
            omega
          · cases h
            simp at a ⊢
            omega
theorem alt_end {s : ByteArray} {x : Rx} {m : Nat} (hm : m ≤ s.size) (h : altP (4 * s.size + 4) [] s.data.toList = some (x, s.data.toList.drop m)) (hs : s.size ≤ 300) : parseS s.data.toList = (if m = s.size then (if rightR x = 0 then (x, 0) else (rx0, rightR x)) else (rx0, 3)) := by
  have hl : s.data.toList.length = s.size := by simp
  unfold parseS
  rw [if_neg (by rw [hl]; omega), hl, h]
  by_cases hm2 : m = s.size
  · rw [if_pos hm2, drop_end (by omega)]
  · rw [if_neg hm2, drop_cons (by omega)]
theorem right_range (r : Rx) : 0 ≤ rightR r ∧ rightR r ≤ 4 := by
  have h := node_range r
  unfold rightR
  split
  · split <;> omega
  · rcases h with h | h | h <;> omega

/-- What Parse gives. -/
def GotE2 (w : World) (p : Rx × Int) (e : Ending) (w' : World) : Prop :=
  ∃ v, e = .returned (.tuple #[v, .int .i64 p.2]) ∧ RxV w' (fun g => w.heap.size ≤ g) v p.1 ∧ Below w.heap.size w w'

set_option maxRecDepth 100000 in
set_option maxHeartbeats 6400000 in
theorem rparse17 (s : ByteArray) (hs : s.size ≤ 9223372036854775807) (w : World) : Calls Tryz.prog 17 #[.string s] w (GotE2 w (parseS s.data.toList)) := by
  obtain ⟨E, hE⟩ : ∃ E, parseS s.data.toList = E := ⟨_, rfl⟩
  rw [hE]
  obtain ⟨w0, hw0⟩ : ∃ w0, w.alloc (.cells #[.int .i64 0, .slice none 0 0, .int .i64 0, .int .i64 0, .slice none 0 0] 25) = w0 := ⟨_, rfl⟩
  have HF0 := hide (show FiveF w0 w.heap.size (.int .i64 0) (.slice none 0 0) (.int .i64 0) (.int .i64 0) (.slice none 0 0) by rw [← hw0]; exact fiveF_new w _ _ _ _ _ 25)
  have HB0 := hide (show Below w.heap.size w w0 by rw [← hw0]; exact bnew (Below.refl _ w) _)
  have hs0 : w.heap.size + 1 ≤ w0.heap.size ∧ w0.heap.size ≤ w.heap.size + 1 := by rw [← hw0]; simp
  obtain ⟨hs1, hs2⟩ := hs0
  have hsb : (s.size : Int) ≤ 9223372036854775807 := by omega
  by_cases h300 : 300 < s.size
  · have h3 : (300 : Int) < (s.size : Int) := by omega
    have HEn := hide (show E = (rx0, 4) by rw [← hE]; unfold parseS; rw [if_pos (by simpa using h300)])
    have BE := hide (Below.refl (w.heap.size + 1) w0)
    clear hE
    go_enter Tryz.func17, Tryz.ntmps17
    have hfx := HF0.out.at_ BE.out (Nat.lt_succ_self _)
    have HFx := hide hfx
    obtain ⟨⟨-, f1, f2, f3, f4, f5⟩, f6, f7, f8, f9, f10⟩ := hfx
    have HBx := hide (HB0.out.trans ((BE.out).mono (Nat.le_succ _)))
    go_wp2
    exact bodyPost_ret (res_two rfl _ _ w.heap.size _ _ _ _ _ _ rfl rfl (put5_five HFx.out (.int .i64 0) (.slice none 0 0) (.int .i64 0) (.int .i64 0) (.slice none 0 0))) rfl ⟨_, by (rw [HEn.out] <;> rfl), by rw [HEn.out]; exact rxv_zero, put5_below HBx.out (Nat.le_refl _)⟩
  have h3 : ¬ (300 : Int) < (s.size : Int) := by omega
  have HA := hide (show Calls Tryz.prog 40 #[.string s, .int .i64 0] w0 (GotP s w0 (altP (4 * s.size + 4) [] s.data.toList)) from (parsers s (by omega) (4 * s.size + 4)).2.2.2 0 w0 (Nat.zero_le _) (by omega))
  cases hit : altP (4 * s.size + 4) [] s.data.toList with
  | none =>
    have HEn := hide (show E = (rx0, 3) by rw [← hE]; unfold parseS; rw [if_neg (by simpa using h300), show s.data.toList.length = s.size by simp, hit])
    rw [hit] at HA
    have hne : ((-1 : Int) != (s.size : Int)) = true := bne_iff_ne.2 (by omega)
    clear hit hE
    go_enter Tryz.func17, Tryz.ntmps17
    go_wp2_with fail
    with_reducible refine HA.out.mono ?_
    rintro e w3 ⟨v3, rfl, hr3, hb3⟩
    obtain ⟨q0, qA, qn, qc, q1, q2, qB, qm, qd, rfl⟩ := hr3.agg9
    have hsz3 := hb3.size
    have hbA : Below w3.heap.size w3 (w3.alloc (.cells #[.int .i64 q0, .slice qA qn qc, .int .i64 q1, .int .i64 q2, .slice qB qm qd] 25)) := bnew (Below.refl _ w3) _
    have B4 := hide ((hb3.mono (Nat.le_refl _)).trans (hbA.mono hsz3))
    have B4' := hide (B4.out.mono hs1)
    have hfv := five_new w3 (.int .i64 q0) (.slice qA qn qc) (.int .i64 q1) (.int .i64 q2) (.slice qB qm qd) 25
    obtain ⟨-, b0, b1, b2, b3, b4⟩ := hfv
    clear hr3 hb3 hbA
    have hfx := HF0.out.at_ B4'.out (Nat.lt_succ_self _)
    have HFx := hide hfx
    obtain ⟨⟨-, f1, f2, f3, f4, f5⟩, f6, f7, f8, f9, f10⟩ := hfx
    have HBx := hide (HB0.out.trans ((B4'.out).mono (Nat.le_succ _)))
    go_wp2
    exact bodyPost_ret (res_two rfl _ _ w.heap.size _ _ _ _ _ _ rfl rfl (put5_five HFx.out (.int .i64 0) (.slice none 0 0) (.int .i64 0) (.int .i64 0) (.slice none 0 0))) rfl ⟨_, by (rw [HEn.out] <;> rfl), by rw [HEn.out]; exact rxv_zero, put5_below HBx.out (Nat.le_refl _)⟩
  | some p =>
    obtain ⟨x, r⟩ := p
    have hsz := (parse_size _).2.2.2 _ _ _ _ hit
    rw [if_pos rfl, show s.data.toList.length = s.size by simp] at hsz
    simp only [sizeL] at hsz
    have hsx : sizeR x ≤ 601 := by omega
    have hdx := depth_size x
    obtain ⟨m1, hm1, hm1s, rfl⟩ := off_of (s := s) (k := 0) (Nat.zero_le _) ((parse_end _).2.2.2 _ _ _ _ hit)
    have hEE := alt_end hm1s hit (by omega)
    rw [hE] at hEE
    rw [hit] at HA
    have HA' := hide (HA.out.mono fun _ _ h => gotP_some hm1s h)
    have HR := hide (fun (W : World) (ok : Nat → Prop) (v : Value) (h : RxV W ok v x) => rright13 h (by omega) (by omega))
    clear HA hit hE hdx hsz hm1
    by_cases hend : m1 = s.size
    · rw [if_pos hend] at hEE
      have hne : ((m1 : Int) != (s.size : Int)) = false := by rw [hend]; simp
      obtain ⟨R, hRR⟩ : ∃ R, rightR x = R := ⟨_, rfl⟩
      rw [hRR] at HR hEE
      by_cases h0 : R = 0
      · rw [if_pos h0] at hEE
        have HEn := hide hEE
        have hr0 : (R != 0) = false := by rw [h0]; rfl
        clear hEE hend h0 hRR
        go_enter Tryz.func17, Tryz.ntmps17
        go_wp2_with fail
        with_reducible refine HA'.out.mono ?_
        rintro e w3 ⟨v3, rfl, hr3, hb3⟩
        obtain ⟨q0, qA, qn, qc, q1, q2, qB, qm, qd, rfl⟩ := hr3.agg9
        have hsz3 := hb3.size
        have hbA : Below w3.heap.size w3 (w3.alloc (.cells #[.int .i64 q0, .slice qA qn qc, .int .i64 q1, .int .i64 q2, .slice qB qm qd] 25)) := bnew (Below.refl _ w3) _
        have B4 := hide ((hb3.mono (Nat.le_refl _)).trans (hbA.mono hsz3))
        have B4' := hide (B4.out.mono hs1)
        have hfv := five_new w3 (.int .i64 q0) (.slice qA qn qc) (.int .i64 q1) (.int .i64 q2) (.slice qB qm qd) 25
        have H5 := hide hfv
        obtain ⟨-, b0, b1, b2, b3, b4⟩ := hfv
        have R4 := hide ((hr3.kept hbA).map (ok' := fun g => w.heap.size + 1 ≤ g) (fun _ _ _ => rfl) fun g hg _ => Nat.le_trans hs1 hg)
        clear hr3 hb3 hbA
        go_wp2_with fail
        with_reducible refine (HR.out _ _ _ R4.out).mono ?_
        rintro e w5 ⟨rfl, hbR⟩
        have hszr := hbR.size
        have B5 := hide (B4'.out.trans (hbR.mono (by simp; omega)))
        have hfv := H5.out.keep hbR
        obtain ⟨-, b0, b1, b2, b3, b4⟩ := hfv
        have RE := hide (((R4.out.kept hbR).map (fun _ _ _ => rfl) fun g hg _ => hg : RxV w5 (fun g => w.heap.size + 1 ≤ g) (.agg #[.int .i64 q0, .slice qA qn qc, .int .i64 q1, .int .i64 q2, .slice qB qm qd]) x))
        clear hbR
        have hfx := HF0.out.at_ B5.out (Nat.lt_succ_self _)
        have HFx := hide hfx
        obtain ⟨⟨-, f1, f2, f3, f4, f5⟩, f6, f7, f8, f9, f10⟩ := hfx
        have HBx := hide (HB0.out.trans ((B5.out).mono (Nat.le_succ _)))
        go_wp2
        exact bodyPost_ret (res_two rfl _ _ w.heap.size _ _ _ _ _ _ rfl rfl (put5_five HFx.out (.int .i64 q0) (.slice qA qn qc) (.int .i64 q1) (.int .i64 q2) (.slice qB qm qd))) rfl ⟨_, by (rw [HEn.out] <;> rfl), by rw [HEn.out]; exact put5_rxv RE.out (Nat.lt_succ_self _) _ (Nat.le_succ _), put5_below HBx.out (Nat.le_refl _)⟩
      · rw [if_neg h0] at hEE
        have HEn := hide hEE
        have hr0 : (R != 0) = true := bne_iff_ne.2 h0
        clear hEE hend h0 hRR
        go_enter Tryz.func17, Tryz.ntmps17
        go_wp2_with fail
        with_reducible refine HA'.out.mono ?_
        rintro e w3 ⟨v3, rfl, hr3, hb3⟩
        obtain ⟨q0, qA, qn, qc, q1, q2, qB, qm, qd, rfl⟩ := hr3.agg9
        have hsz3 := hb3.size
        have hbA : Below w3.heap.size w3 (w3.alloc (.cells #[.int .i64 q0, .slice qA qn qc, .int .i64 q1, .int .i64 q2, .slice qB qm qd] 25)) := bnew (Below.refl _ w3) _
        have B4 := hide ((hb3.mono (Nat.le_refl _)).trans (hbA.mono hsz3))
        have B4' := hide (B4.out.mono hs1)
        have hfv := five_new w3 (.int .i64 q0) (.slice qA qn qc) (.int .i64 q1) (.int .i64 q2) (.slice qB qm qd) 25
        have H5 := hide hfv
        obtain ⟨-, b0, b1, b2, b3, b4⟩ := hfv
        have R4 := hide ((hr3.kept hbA).map (ok' := fun g => w.heap.size + 1 ≤ g) (fun _ _ _ => rfl) fun g hg _ => Nat.le_trans hs1 hg)
        clear hr3 hb3 hbA
        go_wp2_with fail
        with_reducible refine (HR.out _ _ _ R4.out).mono ?_
        rintro e w5 ⟨rfl, hbR⟩
        have hszr := hbR.size
        have B5 := hide (B4'.out.trans (hbR.mono (by simp; omega)))
        have hfv := H5.out.keep hbR
        obtain ⟨-, b0, b1, b2, b3, b4⟩ := hfv
        clear hbR
        have hfx := HF0.out.at_ B5.out (Nat.lt_succ_self _)
        have HFx := hide hfx
        obtain ⟨⟨-, f1, f2, f3, f4, f5⟩, f6, f7, f8, f9, f10⟩ := hfx
        have HBx := hide (HB0.out.trans ((B5.out).mono (Nat.le_succ _)))
        go_wp2
        exact bodyPost_ret (res_two rfl _ _ w.heap.size _ _ _ _ _ _ rfl rfl (put5_five HFx.out (.int .i64 0) (.slice none 0 0) (.int .i64 0) (.int .i64 0) (.slice none 0 0))) rfl ⟨_, by (rw [HEn.out] <;> rfl), by rw [HEn.out]; exact rxv_zero, put5_below HBx.out (Nat.le_refl _)⟩
    · rw [if_neg hend] at hEE
      have hne : ((m1 : Int) != (s.size : Int)) = true := bne_iff_ne.2 (by omega)
      have HEn := hide hEE
      clear hEE hend
      go_enter Tryz.func17, Tryz.ntmps17
      go_wp2_with fail
      with_reducible refine HA'.out.mono ?_
      rintro e w3 ⟨v3, rfl, hr3, hb3⟩
      obtain ⟨q0, qA, qn, qc, q1, q2, qB, qm, qd, rfl⟩ := hr3.agg9
      have hsz3 := hb3.size
      have hbA : Below w3.heap.size w3 (w3.alloc (.cells #[.int .i64 q0, .slice qA qn qc, .int .i64 q1, .int .i64 q2, .slice qB qm qd] 25)) := bnew (Below.refl _ w3) _
      have B4 := hide ((hb3.mono (Nat.le_refl _)).trans (hbA.mono hsz3))
      have B4' := hide (B4.out.mono hs1)
      have hfv := five_new w3 (.int .i64 q0) (.slice qA qn qc) (.int .i64 q1) (.int .i64 q2) (.slice qB qm qd) 25
      have H5 := hide hfv
      obtain ⟨-, b0, b1, b2, b3, b4⟩ := hfv
      have R4 := hide ((hr3.kept hbA).map (ok' := fun g => w.heap.size + 1 ≤ g) (fun _ _ _ => rfl) fun g hg _ => Nat.le_trans hs1 hg)
      clear hr3 hb3 hbA
      have hfx := HF0.out.at_ B4'.out (Nat.lt_succ_self _)
      have HFx := hide hfx
      obtain ⟨⟨-, f1, f2, f3, f4, f5⟩, f6, f7, f8, f9, f10⟩ := hfx
      have HBx := hide (HB0.out.trans ((B4'.out).mono (Nat.le_succ _)))
      go_wp2
      exact bodyPost_ret (res_two rfl _ _ w.heap.size _ _ _ _ _ _ rfl rfl (put5_five HFx.out (.int .i64 0) (.slice none 0 0) (.int .i64 0) (.int .i64 0) (.slice none 0 0))) rfl ⟨_, by (rw [HEn.out] <;> rfl), by rw [HEn.out]; exact rxv_zero, put5_below HBx.out (Nat.le_refl _)⟩

end Go.Proofs.YtmiegjefmebpdaaGreatDoor
