/- The reference: Match; the walk of the law on matches. -/
import Derived.Test.YtlabdaomgogflaaDoorX8
namespace Go.Proofs.YtlabdaomgogflaaDoor
open Go.RowKit

/-- One round of the reference: an element at the row of the truths. -/
theorem step41 (es : List (List UInt8)) (p : ByteArray) (k : Nat) (hk : k < es.length) (hsr : Stars es[k]) (hset : (setOf es[k]).length ≤ 100000) (hp : p.size ≤ 100000) (w : World) (ao ao2 : Option Addr) (m cap cap2 N : Nat) (hN : N = p.size + 1) (hm : m = (setOf es[k]).length)
    (hrd : RdS w ao m cap 2 (rCells (setOf es[k]))) (hf : BRead w ao2 (p.size + 1) (T es p.data.toList k)) (kd : Int) (hkd : kindOf es[k] = kd) (ch : UInt8) (hch : charOf es[k] = ch) (ng : Bool) (hng : negOf es[k] = ng) :
    Calls Tryd.prog 41 #[.agg #[.int .i64 kd, .int .u8 (ch.toNat : Int), .bool ng, .slice ao m cap], .string p, .slice ao2 N cap2] w fun e w' =>
      (∃ bk, e = .returned (.slice (some ⟨bk, 0, none⟩) (p.size + 1) (p.size + 1)) ∧ BRow w' bk (p.size + 1) (T es p.data.toList (k + 1))) ∧ Below w.heap.size w w' := by
  have hst : st es k = isStar es[k] := by unfold st; rw [getD_at es k hk]
  have htk : ∀ c, tk es k c = takes es[k] c := fun c => by unfold tk; rw [getD_at es k hk]
  have hpl : p.data.toList.length = p.size := size_list p
  subst hkd hch hng
  by_cases hs : isStar es[k] = true
  · refine (step41_star (kindOf es[k]) (charOf es[k]) (negOf es[k]) ao ao2 m cap cap2 p (takes es[k]) (T es p.data.toList k) (star_kind _ hsr hs) w hp hf N hN).mono ?_
    rintro e w' ⟨⟨bk, rfl, hb⟩, hbel⟩
    refine ⟨⟨bk, rfl, hb.ext fun j hj => ?_⟩, hbel⟩
    rw [T_starR es _ k hk (hst.trans hs) j (by omega)]
    congr 1
    funext i
    exact (htk _).symm
  · have hs' : isStar es[k] = false := by simpa using hs
    obtain ⟨hk3, hk4⟩ := one_kind es[k] hs'
    refine (step41_one (kindOf es[k]) (charOf es[k]) (negOf es[k]) ao ao2 m cap cap2 p (takes es[k]) (T es p.data.toList k) hk3 hk4 w (fun c w' hb => one57 es[k] c hs' m cap ao hm.symm (by omega) _ rfl w' (hrd.below hb)) hp hf N hN).mono ?_
    rintro e w' ⟨⟨bk, rfl, hb⟩, hbel⟩
    refine ⟨⟨bk, rfl, hb.ext fun j hj => ?_⟩, hbel⟩
    rw [T_oneR es _ k hk (hst.trans hs') (p.size + 1) j (by omega) (by omega)]
    congr 1
    funext i
    exact (htk _).symm

theorem rangesF_len : ∀ (f : Nat) (l : List UInt8), (rangesF f l).length ≤ f
  | 0, _ => by simp [rangesF]
  | f + 1, [] => by simp [rangesF]
  | f + 1, a :: l => by
    have := rangesF_len f (firstR (a :: l)).2
    simp only [rangesF, List.length_cons]
    omega
theorem setOf_len (e : List UInt8) : (setOf e).length ≤ e.length := by
  unfold setOf
  split
  · have h1 := rangesF_len (Lib.trimPrefix (inOf e) [33]).length (Lib.trimPrefix (inOf e) [33])
    have h2 : (Lib.trimPrefix (inOf e) [33]).length ≤ (inOf e).length := by
      unfold Lib.trimPrefix
      split
      · simp
      · exact Nat.le_refl _
    have h3 : (inOf e).length ≤ e.length := by unfold inOf; simp; omega
    unfold ranges
    omega
  · simp

set_option maxHeartbeats 3200000 in
theorem match27 (g p : ByteArray) (w : World) (hgs : g.size ≤ 100000) (hps : p.size ≤ 100000) : Calls Tryd.prog 27 #[.string g, .string p] w fun e w' => e = .returned (.bool (matchL g.data.toList p.data.toList)) ∧ Below w.heap.size w w' := by
  by_cases hr : right g.data.toList = 0
  · obtain ⟨es, hel, hpt⟩ := right_some _ hr
    obtain ⟨hlen, hlens⟩ := elems_len _ _ hel
    rw [size_list] at hlen hlens
    have hres : T es p.data.toList es.length p.size = matchL g.data.toList p.data.toList := by
      rw [← size_list p, T_all]
      unfold matchL
      rw [decide_eq_true hr, hpt]; rfl
    have hstars : ∀ k (h : k < es.length), Stars es[k] := fun k h => elemsF_stars _ _ _ hel _ (List.getElem_mem h)
    have hsets : ∀ k (h : k < es.length), (setOf es[k]).length ≤ 100000 := fun k h => by
      have h1 := setOf_len es[k]
      have h2 := hlens _ (List.getElem_mem h)
      omega
    obtain ⟨n, hn⟩ : ∃ n, es.length = n := ⟨_, rfl⟩
    have hall : T es p.data.toList n p.size = matchL g.data.toList p.data.toList := by rw [← hn]; exact hres
    rw [hn] at hlen
    have Hr := hide hr
    have Hel := hide hel
    have Hn := hide hn
    have Hres := hide hall
    have Hst := hide hstars
    have Hset := hide hsets
    clear hr hel hn hres hall hstars hsets hpt hlens
    go_enter Tryd.func27, Tryd.ntmps27
    go_wp2_with fail
    refine (r23 g 0 Hr.out _ hgs).mono ?_
    rintro e w1 ⟨rfl, hb1⟩
    have Hb1 := hide hb1
    clear hb1
    go_wp2_with fail
    refine (el37_yes g es n Hn.out _ hgs Hel.out).mono ?_
    rintro e w2 ⟨⟨ao, cap, vs, rfl, hrd, hat⟩, hb2⟩
    obtain ⟨w3, hmk, hbr3, hb3⟩ := mk_bools p.size (by omega) w2
    obtain ⟨hc0, hf0⟩ := hbr3.2 0 (by omega)
    have hbw4 : Below w2.heap.size w3 (w3.setCell ⟨w2.heap.size, 0, none⟩ (.bool true)) := (Below.refl w2.heap.size w3).setCell (by exact Nat.le_refl _) _
    have hb4 := hb3.trans hbw4
    have hbr4 : BRow (w3.setCell ⟨w2.heap.size, 0, none⟩ (.bool true)) w2.heap.size (p.size + 1) (T es p.data.toList 0) := (hbr3.set 0 (by omega) true).ext fun j hj => by
      rw [T_zero _ _ _ (by rw [size_list]; omega)]
      unfold upd
      by_cases h : j = 0
      · rw [if_pos h, decide_eq_true h]
      · rw [if_neg h, decide_eq_false h]
    have Hbr4 := hide hbr4
    have Hb4 := hide hb4
    have Hb2 := hide (bgo Hb1.out hb2)
    have Hrd := hide hrd
    have Hat := hide hat
    clear hbr3 hb3 hbr4 hbw4 hb4 hb2 hrd hat
    go_wp2_with fail
    go_loopw [7, 8] (fun dv iv wr => ∃ (k bk : Nat), k ≤ n ∧ dv = .slice (some ⟨bk, 0, none⟩) (p.size + 1) (p.size + 1) ∧ iv = .int .i64 k ∧ BRow wr bk (p.size + 1) (T es p.data.toList k) ∧ Below w2.heap.size w2 wr) (fun _ iv _ => n - (intOf iv).toNat)
    case atStart => exact ⟨0, _, Nat.zero_le _, rfl, rfl, Hbr4.out, Hb4.out⟩
    case round =>
      obtain ⟨k, bk, hk, rfl, rfl, hbr, hbw⟩ := hrel
      have Hbr := hide hbr
      have Hbw := hide hbw
      clear hbr hbw
      by_cases hlt : k < n
      · have hke : k < es.length := by rw [Hn.out]; exact hlt
        have hrd' := Hrd.out.below Hbw.out
        obtain ⟨sao, sm, scap, hsm, hsown, v0, v1, v2, v3⟩ := (Hat.out.below Hbw.out).get k hke
        obtain ⟨_, _, hsv, hsrd⟩ := (Rd.of_owns hsown).s
        cases hsv
        obtain ⟨gb, rfl, hgb, hcl⟩ := hrd'.2.2 (by omega)
        have c0 := (hcl (k * 4) (by omega)).trans v0
        have c1 := (hcl (k * 4 + 1) (by omega)).trans v1
        have c2 := (hcl (k * 4 + 2) (by omega)).trans v2
        have c3 := (hcl (k * 4 + 3) (by omega)).trans v3
        have hstep := fun w ao2 cap2 N hN => step41 es p k hke (Hst.out k hke) (Hset.out k hke) hps w sao ao2 sm scap cap2 N hN hsm
        obtain ⟨kd, hkd⟩ : ∃ kd, kindOf es[k] = kd := ⟨_, rfl⟩
        obtain ⟨ch, hch⟩ : ∃ ch, charOf es[k] = ch := ⟨_, rfl⟩
        obtain ⟨ng, hng⟩ : ∃ ng, negOf es[k] = ng := ⟨_, rfl⟩
        rw [hkd] at c0
        rw [hch] at c1
        rw [hng] at c2
        have Hstep := hide hstep
        have Hkd := hide hkd
        have Hch := hide hch
        have Hng := hide hng
        have Hsrd := hide hsrd
        have hlt' : (k : Int) < (n : Int) := by omega
        clear hstep hkd hch hng hsrd hsown hcl v0 v1 v2 v3 hrd' hsm
        go_wp2_with fail
        refine (Hstep.out _ _ _ _ rfl Hsrd.out Hbr.out.read kd Hkd.out ch Hch.out ng Hng.out).mono ?_
        rintro e w6 ⟨⟨bk', rfl, hbr6⟩, hb6⟩
        have Hbr6 := hide hbr6
        have Hb6 := hide (bgo Hbw.out hb6)
        clear hbr6 hb6
        go_wp2
        go_roundw
        case rel => exact ⟨k + 1, bk', by omega, rfl, by go_num, Hbr6.out, Hb6.out⟩
        case measure => simp [intOf]; omega
      · obtain rfl : k = n := by omega
        obtain ⟨hcn, _⟩ := Hbr.out.2 p.size (by omega)
        rw [Hres.out] at hcn
        have Hbf := hide (bgo Hb2.out Hbw.out)
        go_wp2
        go_ret
        exact ⟨rfl, Hbf.out⟩
  · have hrr := right_range g.data.toList
    obtain ⟨r, hre⟩ : ∃ r, right g.data.toList = r := ⟨_, rfl⟩
    have hno := match_no _ p.data.toList hr
    have Hno := hide hno
    have Hre := hide hre
    rw [hre] at hr hrr
    obtain ⟨hr0, hr4⟩ := hrr
    have hb0 : (r == 0) = false := beq_eq_false_iff_ne.2 hr
    clear hno hre hr
    go_enter Tryd.func27, Tryd.ntmps27
    go_wp2_with fail
    refine (r23 g r Hre.out _ hgs).mono ?_
    rintro e w1 ⟨rfl, hb1⟩
    go_wp2
    go_ret
    exact ⟨ret_bool Hno.out, hb1⟩
theorem m27 (g p : ByteArray) (b : Bool) (hb : matchL g.data.toList p.data.toList = b) (w : World) (hg : g.size ≤ 100000) (hp : p.size ≤ 100000) : Calls Tryd.prog 27 #[.string g, .string p] w fun e w' => e = .returned (.bool b) ∧ Below w.heap.size w w' := by
  subst hb; exact match27 g p w hg hp

set_option maxHeartbeats 1600000 in
theorem law5 (g p : ByteArray) (w : World) (hm : HasM w) (hg : g.size ≤ 9223372036854775807) (hp : p.size ≤ 9223372036854775807) : Calls Tryd.prog 5 #[.string g, .string p] w fun e w' => e = .returned (.bool true) ∧ Below w.heap.size w w' := by
  by_cases h1 : g.size ≤ 200
  · by_cases h2 : p.size ≤ 200
    · obtain ⟨b, hb⟩ : ∃ b, matchL g.data.toList p.data.toList = b := ⟨_, rfl⟩
      have Hb := hide hb
      clear hb
      cases b
      all_goals
        go_enter Tryd.func5, Tryd.ntmps5
        go_wp2_with fail
        refine (alive10 _ hm).mono ?_
        rintro e w1 ⟨rfl, hb1⟩
        have H1 := hide hb1
        clear hb1
        go_wp2_with fail
        refine (short_t g h1 _).mono ?_
        rintro e w' ⟨rfl, rfl⟩
        go_wp2_with fail
        refine (short_t p h2 _).mono ?_
        rintro e w' ⟨rfl, rfl⟩
        go_wp2_with fail
        refine (m26 g p _ Hb.out _ (by omega) (by omega)).mono ?_
        rintro e w2 ⟨rfl, hb2⟩
        have H2 := hide (bgo H1.out hb2)
        clear hb2 H1
        go_wp2_with fail
        refine (m27 g p _ Hb.out _ (by omega) (by omega)).mono ?_
        rintro e w3 ⟨rfl, hb3⟩
        have H3 := hide (bgo H2.out hb3)
        clear hb3 H2
        go_wp2
        go_ret
        exact ⟨rfl, H3.out⟩
    · go_enter Tryd.func5, Tryd.ntmps5
      go_wp2_with fail
      refine (alive10 _ hm).mono ?_
      rintro e w1 ⟨rfl, hb1⟩
      go_wp2_with fail
      refine (short_t g h1 _).mono ?_
      rintro e w' ⟨rfl, rfl⟩
      go_wp2_with fail
      refine (short_f p h2 _ hp).mono ?_
      rintro e w' ⟨rfl, rfl⟩
      go_wp2
      go_ret
      exact ⟨rfl, hb1⟩
  · go_enter Tryd.func5, Tryd.ntmps5
    go_wp2_with fail
    refine (alive10 _ hm).mono ?_
    rintro e w1 ⟨rfl, hb1⟩
    go_wp2_with fail
    refine (short_f g h1 _ hg).mono ?_
    rintro e w' ⟨rfl, rfl⟩
    go_wp2
    go_ret
    exact ⟨rfl, hb1⟩

end Go.Proofs.YtlabdaomgogflaaDoor
