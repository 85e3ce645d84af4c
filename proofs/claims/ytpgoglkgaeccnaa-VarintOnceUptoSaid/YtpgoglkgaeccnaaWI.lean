/- Walk of the law that each number, string and list has one encoding. -/
import Derived.Test.YtpgoglkgaeccnaaWG
import Derived.Deep.RegionHeld
namespace Go.Proofs.Ytpgoglkgaeccnaa
open Go.RowKit
open Go.Lib (byteCells strCells)

theorem Below.drew1 (w : World) : Below w.heap.size w w.drew := ⟨rfl, rfl, rfl, Nat.le_refl _, fun _ _ => rfl⟩

/-- Put of a number onto nothing. -/
theorem put12d (x : Nat) (hx : x ≤ 4611686018427387904) (w : World) :
    Calls Try.prog 12 #[.slice none 0 0, .int .i64 (x : Int)] w fun e w' => ∃ A m c, e = .returned (.slice A m c) ∧ (convert 22 9 (.slice A m c)).run Try.prog w' = .ok (.string ⟨(enc x).toArray⟩) w' ∧ Below w.heap.size w w' := by
  refine (put12 none 0 0 [] (x : Int) w (Sl.nil w) (by omega) (by decide)).mono ?_
  intro e w' h
  obtain ⟨A, m, c, rfl, hs, hb⟩ := sl_of h
  rw [List.nil_append, Int.toNat_natCast] at hs
  exact ⟨A, m, c, rfl, hs.conv, hb⟩

theorem puts14d (s : List UInt8) (hs : s.length ≤ 1048576) (w : World) :
    Calls Try.prog 14 #[.slice none 0 0, .string ⟨s.toArray⟩] w fun e w' => ∃ A m c, e = .returned (.slice A m c) ∧ (convert 22 9 (.slice A m c)).run Try.prog w' = .ok (.string ⟨(enc s.length ++ s).toArray⟩) w' ∧ Below w.heap.size w w' := by
  have hz : (⟨s.toArray⟩ : ByteArray).size = s.length := by rw [← size_list]
  refine (puts14 none 0 0 [] ⟨s.toArray⟩ w (Sl.nil w) (by omega) (by decide)).mono ?_
  intro e w' h
  obtain ⟨A, m, c, rfl, hsl, hb⟩ := sl_of h
  rw [List.nil_append, hz] at hsl
  exact ⟨A, m, c, rfl, hsl.conv, hb⟩
theorem dif_ge : ∀ (xs : List Int) (p : Int), xs.length ≤ (dif p xs).length
  | [], _ => Nat.le_refl _
  | x :: r, p => by
    have := dif_ge r x
    have := enc_pos (x - p).toNat
    rw [dif_cons, List.length_append, List.length_cons]
    omega

set_option maxRecDepth 20000 in
set_option maxHeartbeats 3200000 in
theorem law8 (A : Option Addr) (n c : Nat) (l : List UInt8) (i most : Int) (w : World) (h : Sl w A n c (byteCells l)) (hn : n ≤ 1048576) :
    Calls Try.prog 8 #[.slice A n c, .int .i64 i, .int .i64 most] w fun e w' => e = .returned (.bool true) ∧ Below w.heap.size w w' := by
  have hlen := h.len
  have Hlen := hide hlen
  have hnc := h.1
  have hc := h.2.1
  have H := hide h
  clear h hlen
  obtain ⟨⟨x, nx, er⟩, hg⟩ : ∃ g, getP l i = g := ⟨_, rfl⟩
  have Hg := hide hg
  clear hg
  go_enter Try.func8, Try.ntmps8
  go_wp2_with fail
  refine (alive10 w).mono ?_
  rintro e w1 ⟨rfl, hb1⟩
  have B1 := hide hb1
  have H1 := hide (H.out.below hb1)
  clear hb1
  go_wp2_with fail
  with_reducible refine (get16' _ A n c l _ (Sl.reads H1.out) hnc hc i x nx er Hg.out).mono ?_
  rintro e w2 ⟨rfl, rfl⟩
  go_upto_region 4 with fail
  go_cut [50] (fun s wx => s = .bool false ∧ Below w.heap.size w wx)
  case first =>
    by_cases her : er = 0
    · subst her
      obtain ⟨k, rfl, hk, hnx, ht, hx⟩ := getP_once l i x nx Hg.out
      rw [Hlen.out] at hnx
      have Ht := hide ht
      have hd1 : decide ((k : Int) < 0) = false := decide_eq_false (by omega)
      have hd2 : decide (nx ≤ k) = false := decide_eq_false (by omega)
      have hd3 : decide (n < nx) = false := decide_eq_false (by omega)
      clear ht
      have HD := hide (H1.out.below (Below.drew1 _))
      have hcvD := HD.out.window k nx hk hnx _ Ht.out
      have hq1 : (k : Int) ≤ (nx : Int) := by omega
      have hq2 : (nx : Int) ≤ (c : Int) := by omega
      have hq3 : k ≤ nx := by omega
      have hq4 : nx ≤ c := by omega
      have hq5 : c ≠ k := by omega
      go_region_held (fun w' => (convert 22 9 (.slice (A.map fun x => x.add k) (nx - k) (c - k))).run Try.prog w' = .ok (.string ⟨(enc x).toArray⟩) w') (first | assumption | go_keep)
        (first | (go_at_call 12; refine (put12d x hx _).mono ?_; rintro e w2 ⟨A2, m2, c2, rfl, hcA, hb2⟩; have hcvC := (HD.out.below hb2).window k nx hk hnx _ Ht.out))
      all_goals go_wp2
      all_goals go_meet
      all_goals exact ⟨by simp, (bdr B1.out 1).trans (hb2.mono (by have := B1.out.size; exact this))⟩
    · have hyi : ((er : Int) == 0) = false := beq_eq_false_iff_ne.2 (by omega)
      go_quiet (fail)
      go_wp2
      go_meet
      exact ⟨rfl, bdr B1.out _⟩
  case rest =>
    obtain ⟨rfl, hbx⟩ := hcut
    have Bx := hide hbx
    have Hx := hide (H.out.below hbx)
    obtain ⟨⟨s, nx2, er2⟩, hg2⟩ : ∃ g, getS l i most = g := ⟨_, rfl⟩
    have Hg2 := hide hg2
    clear hbx hg2 H1 B1
    go_wp2_with fail
    refine (gets18 A n c l _ Hx.out i most).mono ?_
    rintro e w3 ⟨rfl, rfl⟩
    rw [Hg2.out]
    unfold getSV
    go_upto_region 7 with fail
    go_cut [86] (fun s wx => s = .bool false ∧ Below w.heap.size w wx)
    case first =>
      by_cases her : er2 = 0
      · subst her
        obtain ⟨k, rfl, hk, hnx, ht, hsl⟩ := getS_once l i most s nx2 Hg2.out
        rw [Hlen.out] at hnx hsl
        have Ht := hide ht
        have hd1 : decide ((k : Int) < 0) = false := decide_eq_false (by omega)
        have hd2 : decide (nx2 ≤ k) = false := decide_eq_false (by omega)
        have hd3 : decide (n < nx2) = false := decide_eq_false (by omega)
        have HD := hide (Hx.out.below (Below.drew1 _))
        have hcvD := HD.out.window k nx2 hk hnx _ Ht.out
        have hq1 : (k : Int) ≤ (nx2 : Int) := by omega
        have hq2 : (nx2 : Int) ≤ (c : Int) := by omega
        have hq3 : k ≤ nx2 := by omega
        have hq4 : nx2 ≤ c := by omega
        have hq5 : c ≠ k := by omega
        clear ht
        go_region_held (fun w' => (convert 22 9 (.slice (A.map fun x => x.add k) (nx2 - k) (c - k))).run Try.prog w' = .ok (.string ⟨(enc s.length ++ s).toArray⟩) w') (first | assumption | go_keep)
          (first | (go_at_call 14; refine (puts14d s (by omega) _).mono ?_; rintro e w4 ⟨A2, m2, c2, rfl, hcA, hb2⟩; have hcvC := (HD.out.below hb2).window k nx2 hk hnx _ Ht.out))
        all_goals go_wp2
        all_goals go_meet
        all_goals exact ⟨by simp, (bdr Bx.out 1).trans (hb2.mono (by have := Bx.out.size; exact this))⟩
      · have hyi : ((er2 : Int) == 0) = false := beq_eq_false_iff_ne.2 (by omega)
        go_quiet (fail)
        go_wp2
        go_meet
        exact ⟨rfl, bdr Bx.out _⟩
    case rest =>
      obtain ⟨rfl, hby⟩ := hcut
      have By := hide hby
      have Hy := hide (H.out.below hby)
      obtain ⟨⟨xs, nx3, er3⟩, hg3⟩ : ∃ g, getL l i most = g := ⟨_, rfl⟩
      have Hg3 := hide hg3
      clear hby hg3 Hx Bx
      go_wp2_with fail
      refine (getl20 A n c l _ Hy.out (by omega) i most).mono ?_
      intro e w5 hgr
      rw [Hg3.out] at hgr
      obtain ⟨A5, m5, c5, rfl, hs5, hb5⟩ := got_sl hgr
      have S5 := hide hs5
      have B5 := hide (bgo By.out hb5)
      have H5 := hide (Hy.out.below hb5)
      clear hgr hs5 hb5 By Hy
      by_cases her : er3 = 0
      · subst her
        obtain ⟨k, rfl, hk, hnx, ht, hinc, hyb⟩ := getL_once l i most xs nx3 Hg3.out
        have htl := congrArg List.length ht
        rw [List.length_take, List.length_drop, encL, List.length_append] at htl
        have hge := dif_ge xs 0
        rw [Hlen.out] at hnx htl
        have hm5 : m5 ≤ 1048576 := by
          have : xs.length = m5 := S5.out.nlen
          omega
        have hp := putL_yes [] xs hinc
        rw [List.nil_append] at hp
        have Hp := hide hp
        have Ht := hide ht
        have Hyb := hide hyb
        clear hp ht hyb htl hge hinc
        go_wp2_with fail
        refine (putl23 none A5 0 0 m5 c5 [] xs _ (Sl.nil _) S5.out (by decide) (by omega) (fun z hz => by have := Hyb.out z hz; omega)).mono ?_
        intro e w6 hgr
        rw [Hp.out] at hgr
        obtain ⟨A6, m6, c6, rfl, hs6, hb6⟩ := put_sl hgr
        have hcv := fun j => (hs6.drewN j).conv
        have hcv2 := fun j => ((H5.out.below hb6).drewN j).window k nx3 hk hnx _ Ht.out
        have B6 := hide (bgo B5.out hb6)
        have hd2 : decide (k < nx3) = true := decide_eq_true (by omega)
        have hd3 : decide (nx3 ≤ n) = true := decide_eq_true (by omega)
        have hq1 : (k : Int) ≤ (nx3 : Int) := by omega
        have hq2 : (nx3 : Int) ≤ (c : Int) := by omega
        have hq3 : k ≤ nx3 := by omega
        have hq4 : nx3 ≤ c := by omega
        have hq5 : c ≠ k := by omega
        clear hgr hs6 hb6
        go_wp2
        go_quiet (fail)
        go_wp2
        go_ret
        exact ⟨ret_bool (by simp [encL]), bdr B6.out _⟩
      · have hyi : ((er3 : Int) == 0) = false := beq_eq_false_iff_ne.2 (by omega)
        have hyn : ((er3 : Int) != 0) = true := by rw [bne, hyi]; rfl
        go_wp2
        go_ret
        exact ⟨rfl, B5.out⟩

end Go.Proofs.Ytpgoglkgaeccnaa
