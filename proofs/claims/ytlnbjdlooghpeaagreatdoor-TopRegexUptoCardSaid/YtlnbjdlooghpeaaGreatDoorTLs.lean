/- TopRegex: Ls. -/
import Derived.Test.YtlnbjdlooghpeaaGreatDoorTLp
import Derived.Test.YtlnbjdlooghpeaaGreatDoorTLr
import Derived.Test.YtlnbjdlooghpeaaGreatDoorTTm
import Derived.Test.YtlnbjdlooghpeaaGreatDoorTYc
import Derived.Deep.RegionHeld3
import Derived.Test.YtlnbjdlooghpeaaGreatDoorTLy
namespace Go.Proofs.YtlnbjdlooghpeaaGreatDoor
open Go.RowKit
theorem ownsY_shape {w : World} {B : Nat} {v : Value} {l : List (Nat × Nat)} (h : OwnSY w B v l) : ∃ A c, v = .slice A l.length c := by
  rcases h.2 with ⟨rfl, h0⟩ | ⟨g, cap, cur, rfl, -⟩
  · exact ⟨none, 0, by rw [h0]⟩
  · exact ⟨_, _, rfl⟩
theorem parseP (s : ByteArray) (hs : s.size ≤ 9223372036854775807) (r : Rx) (e : Int) (h : parseS s.data.toList = (r, e)) (w : World) :
    Calls Tryz.prog 14 #[.string s] w fun x w' => ∃ v, x = .returned (.tuple #[v, .int .i64 e]) ∧ RxV w' (fun g => w.heap.size ≤ g) v r ∧ Below w.heap.size w w' :=
  (pparse16 s hs w).mono fun x w' hg => by
    obtain ⟨v, h1, h2, h3⟩ := hg
    rw [h] at h1 h2
    exact ⟨v, h1, h2, h3⟩
theorem ex_size : sizeR ex0 ≤ 1000000 := by decide +kernel
theorem ex_depth : depthR ex0 ≤ 1000000 := by decide +kernel
theorem exM1 (w : World) {ok : Nat → Prop} {v : Value} (h : RxV w ok v ex0) (hT : HasT w) : Calls Tryz.prog 8 #[v, .string ⟨#[120, 97, 98, 98, 99]⟩] w fun e w' => e = .returned (.bool true) ∧ Below w.heap.size w w' :=
  (match16 ⟨#[120, 97, 98, 98, 99]⟩ (by decide) ex0 ex_size ex_depth w ok v h hT).mono fun e w' hg => ⟨by rw [hg.1, show matchA ex0 (⟨#[120, 97, 98, 98, 99]⟩ : ByteArray).data.toList = true from ex_yes], hg.2⟩
theorem exM2 (w : World) {ok : Nat → Prop} {v : Value} (h : RxV w ok v ex0) (hT : HasT w) : Calls Tryz.prog 8 #[v, .string ⟨#[97, 99]⟩] w fun e w' => e = .returned (.bool false) ∧ Below w.heap.size w w' :=
  (match16 ⟨#[97, 99]⟩ (by decide) ex0 ex_size ex_depth w ok v h hT).mono fun e w' hg => ⟨by rw [hg.1, show matchA ex0 (⟨#[97, 99]⟩ : ByteArray).data.toList = false from ex_no], hg.2⟩
theorem exA (w : World) {ok : Nat → Prop} {v : Value} (h : RxV w ok v ex0) (hT : HasT w) : Calls Tryz.prog 15 #[v, .string ⟨#[120, 97, 98, 98, 99, 32, 97, 98, 99]⟩] w fun e w' => ∃ A c, e = .returned (.slice A 2 c) ∧ Below w.heap.size w w' :=
  (all21 all_mirror ⟨#[120, 97, 98, 98, 99, 32, 97, 98, 99]⟩ (by decide) ex0 ex_size ex_depth w ok v h hT).mono fun e w' hg => by
    obtain ⟨u, rfl, h1, h2⟩ := hg
    obtain ⟨A, c, rfl⟩ := ownsY_shape h1
    rw [show (allP ex0 (⟨#[120, 97, 98, 98, 99, 32, 97, 98, 99]⟩ : ByteArray).data.toList).length = 2 from ex_all]
    exact ⟨A, c, rfl, h2⟩
theorem lit_size {l : List UInt8} (h : l.length ≤ 30) : sizeR (litE l) ≤ 1000000 ∧ depthR (litE l) ≤ 1000000 := by
  have := right_node (lit_right h)
  omega
theorem int_cell0 {W : World} {A : Option Addr} {n c : Nat} {x : Int} {xs : List Int} (h : Sl W A n c (numCells (x :: xs))) : ∃ g o, A = some ⟨g, o, none⟩ ∧ W.cell? ⟨g, o, none⟩ = some (.int .i64 x) := by
  have hlen := h.nlen
  obtain ⟨ad, z, e, hz, hc⟩ := num_cell h.reads (show 0 < n by rw [← hlen]; simp)
  cases hz
  obtain ⟨g, o, rfl⟩ := addr_plainW hc
  rw [add_atW] at hc
  exact ⟨g, o, e, hc⟩
set_option maxRecDepth 100000 in
set_option maxHeartbeats 12800000 in
theorem lawT (C : Cs) (expr s lit : ByteArray) (he : expr.size ≤ 9223372036854775807) (hs : s.size ≤ 9223372036854775807) (hl : lit.size ≤ 9223372036854775807) (w : World) (hT : HasT w) :
    Calls Tryz.prog 5 #[.string expr, .string s, .string lit] w fun e w' => e = .returned (.bool true) ∧ Below w.heap.size w w' := by
  have HC := hide C
  have HT := hide hT
  have H1 := hide (parseP ⟨#[97, 98, 43, 99]⟩ (by decide) ex0 0 ex_parse w)
  have heb : (expr.size : Int) ≤ 9223372036854775807 := by omega
  have hsb : (s.size : Int) ≤ 9223372036854775807 := by omega
  have hlb : (lit.size : Int) ≤ 9223372036854775807 := by omega
  clear C hT
  go_enter Tryz.func5, Tryz.ntmps5
  go_wp2_with fail
  with_reducible refine H1.out.mono ?_
  rintro e w1 ⟨v1, rfl, hv1, hb1⟩
  obtain ⟨k, a, b, A', B, n, c, m, d, rfl⟩ := rxv_shape hv1
  have hbx := bel_alloc w1 (.cells #[.int .i64 k, .slice A' n c, .int .i64 a, .int .i64 b, .slice B m d] 25)
  have FF := five_new w1 (.int .i64 k) (.slice A' n c) (.int .i64 a) (.int .i64 b) (.slice B m d) 25
  have F2 := hide FF
  have V2 := hide (hv1.kept hbx)
  have B2 := hide (bgo hb1 hbx)
  have M1 := hide (exM1 _ V2.out (HT.out.below B2.out))
  obtain ⟨-, t0, t1, t2, t3, t4⟩ := FF
  clear hv1 hb1 hbx H1
  go_wp2_with fail
  with_reducible refine M1.out.mono ?_
  rintro e w3 ⟨rfl, hb⟩
  have F3 := hide (F2.out.keep hb)
  have V3 := hide (V2.out.kept hb)
  have B3 := hide (bgo B2.out hb)
  have M2 := hide (exM2 _ V3.out (HT.out.below B3.out))
  obtain ⟨-, t0, t1, t2, t3, t4⟩ := F3.out
  clear hb M1 F2 V2 B2
  go_wp2_with fail
  with_reducible refine M2.out.mono ?_
  rintro e w4 ⟨rfl, hb⟩
  have F4 := hide (F3.out.keep hb)
  have V4 := hide (V3.out.kept hb)
  have B4 := hide (bgo B3.out hb)
  have M3 := hide (exA _ V4.out (HT.out.below B4.out))
  obtain ⟨-, t0, t1, t2, t3, t4⟩ := F4.out
  clear hb M2 F3 V3 B3
  go_wp2_with fail
  with_reducible refine M3.out.mono ?_
  rintro e w5 ⟨UA, uc, rfl, hb⟩
  have B5 := hide (bgo B4.out hb)
  clear hb M3 F4 V4 B4 t0 t1 t2 t3 t4
  by_cases h30 : 30 < expr.size
  · have h30' : (30 : Int) < (expr.size : Int) := by omega
    go_wp2
    go_ret
    exact ⟨rfl, B5.out⟩
  have h30' : ¬ (30 : Int) < (expr.size : Int) := by omega
  by_cases h60 : 60 < s.size
  · have h60' : (60 : Int) < (s.size : Int) := by omega
    go_wp2
    go_ret
    exact ⟨rfl, B5.out⟩
  have h60' : ¬ (60 : Int) < (s.size : Int) := by omega
  by_cases h10 : 10 < lit.size
  · have h10' : (10 : Int) < (lit.size : Int) := by omega
    go_wp2
    go_ret
    exact ⟨rfl, B5.out⟩
  have h10' : ¬ (10 : Int) < (lit.size : Int) := by omega
  obtain ⟨r, pe, hpr⟩ : ∃ r pe, parseS expr.data.toList = (r, pe) := ⟨_, _, rfl⟩
  have H2 := hide (parseP expr he r pe hpr w5)
  have Hpr := hide hpr
  clear hpr
  go_wp2_with fail
  with_reducible refine H2.out.mono ?_
  rintro e w6 ⟨v6, rfl, hv6, hb6⟩
  obtain ⟨k2, a2, b2, A2, B2', n2, c2, m2, d2, rfl⟩ := rxv_shape hv6
  have hbx := bel_alloc w6 (.cells #[.int .i64 k2, .slice A2 n2 c2, .int .i64 a2, .int .i64 b2, .slice B2' m2 d2] 25)
  have FF := fiveF_new w6 (.int .i64 k2) (.slice A2 n2 c2) (.int .i64 a2) (.int .i64 b2) (.slice B2' m2 d2) 25
  have F7 := hide FF
  have V7 := hide (hv6.kept hbx)
  have B7 := hide (bgo B5.out (bgo hb6 hbx))
  have B6 := hide (bgo B5.out hb6)
  obtain ⟨⟨-, t0, t1, t2, t3, t4⟩, -⟩ := FF
  clear hv6 hb6 hbx H2 B5
  rcases Classical.em (pe = 0) with hpe | hpe
  case' inl =>
    have q1 : (pe == 0) = true := ibeq' hpe
    have Hr := hide (parse_right expr.data.toList r (by rw [Hpr.out, hpe]))
    have S1 := hide (sound16 HC.out Hr.out s (by omega) _ (HT.out.below B7.out) V7.out)
    clear hpe
    go_wp2_with fail
    with_reducible refine S1.out.mono ?_
    rintro e w8 ⟨rfl, hb⟩
    have F8 := hide (F7.out.at_ hb (by simp))
    have V8 := hide (V7.out.kept hb)
    have B8 := hide (bgo B7.out hb)
    have S2 := hide (HC.out.fold V8.out Hr.out)
    obtain ⟨⟨-, t0, t1, t2, t3, t4⟩, -⟩ := F8.out
    clear hb S1
    go_wp2_with fail
    with_reducible refine S2.out.mono ?_
    rintro e w8' ⟨v8', rfl, hv8, hb⟩
    have F8' := hide (F8.out.at_ hb F8.out.1.1)
    have B8' := hide (bgo B8.out hb)
    have S3 := hide (sound16 HC.out (right_fold r Hr.out) s (by omega) _ (HT.out.below B8'.out) hv8)
    clear hb S2 hv8
    go_wp2_with fail
    with_reducible refine S3.out.mono ?_
    rintro e w9 ⟨rfl, hb⟩
    have F9 := hide (F8'.out.at_ hb F8'.out.1.1)
    have B9 := hide (bgo B8'.out hb)
    clear hb S3
    go_upto_region 9 with (fail)
  case' inr =>
    have q1 : (pe == 0) = false := ibne' hpe
    obtain ⟨w9, hw9⟩ : ∃ w9, w6.alloc (.cells #[.int .i64 k2, .slice A2 n2 c2, .int .i64 a2, .int .i64 b2, .slice B2' m2 d2] 25) = w9 := ⟨_, rfl⟩
    have F9 := hide (show FiveF w9 w6.heap.size (.int .i64 k2) (.slice A2 n2 c2) (.int .i64 a2) (.int .i64 b2) (.slice B2' m2 d2) by rw [← hw9]; exact F7.out)
    have B9 := hide (show Below w.heap.size w w9 by rw [← hw9]; exact B7.out)
    clear hpe
    go_upto_region 9 with (fail)
    clear hw9
  all_goals
    have hp9 : w.heap.size ≤ w6.heap.size := B6.out.size
    obtain ⟨p9, hp9e⟩ : ∃ p9, w6.heap.size = p9 := ⟨_, rfl⟩
    rw [hp9e] at F9 hp9 ⊢
    clear t0 t1 t2 t3 t4
    by_cases hl0 : lit = ⟨#[]⟩
    · subst hl0
      go_wp2
      go_ret
      exact ⟨rfl, B9.out⟩
    have hem : lit.toList.isEmpty = false := by
      rw [ByteArray.toList_eq]
      cases hq : lit.data.toList with
      | nil => exact absurd (ba_ext (by rw [hq])) hl0
      | cons x xs => rfl
    have hne : lit.data.toList ≠ [] := fun e => hl0 (ba_ext (by rw [e]))
    have hll : lit.data.toList.length = lit.size := size_list lit
    have Hne := hide hne
    have Hll := hide hll
    obtain ⟨q, hq⟩ : ∃ q, lit.data.toList.all plainC = q := ⟨_, rfl⟩
    have HP := hide (show Calls Tryz.prog 18 #[.string lit] w9 fun e w' => e = .returned (.bool q) ∧ w' = w9 from by rw [← hq]; exact plain18 lit (by omega) w9)
    have Hq := hide hq
    clear hq hne hll
    go_wp2_with fail
    with_reducible refine HP.out.mono ?_
    rintro e w10 ⟨rfl, rfl⟩
    cases q with
    | false =>
      go_wp2
      go_ret
      exact ⟨rfl, B9.out⟩
    | true =>
      have hlp : ∀ c ∈ lit.data.toList, plainC c = true := List.all_eq_true.1 Hq.out
      have hlr : lit.data.toList.length ≤ 30 := by rw [Hll.out]; omega
      have H3 := hide (parseP lit hl (litE lit.data.toList) 0 (lit_parse Hne.out hlr hlp) w10)
      have hsz := lit_size hlr
      have Hsz := hide hsz
      have Hlr := hide hlr
      clear hlp HP hsz hlr
      obtain ⟨⟨h9lt, -⟩, -⟩ := F9.out
      go_wp2_with fail
      with_reducible refine H3.out.mono ?_
      rintro e w11 ⟨v11, rfl, hv11, hb⟩
      obtain ⟨k3, a3, b3, A3, B3, n3, c3, m3, d3, rfl⟩ := rxv_shape hv11
      have F11 := hide (F9.out.at_ hb h9lt)
      have B11 := hide (bgo B9.out hb)
      have hz11 := hb.size
      have F12 := hide (put5_five F11.out (.int .i64 k3) (.slice A3 n3 c3) (.int .i64 a3) (.int .i64 b3) (.slice B3 m3 d3))
      have V12 := hide (put5_rxv (B' := p9 + 1) (u0 := .int .i64 k3) (u1 := .slice A3 n3 c3) (u2 := .int .i64 a3) (u3 := .int .i64 b3) (u4 := .slice B3 m3 d3) hv11 h9lt (by omega))
      have B12 := hide (put5_below (u0 := .int .i64 k3) (u1 := .slice A3 n3 c3) (u2 := .int .i64 a3) (u3 := .int .i64 b3) (u4 := .slice B3 m3 d3) B11.out hp9)
      have H4 := hide (find12 s lit false (put5 w11 p9 (.int .i64 k3) (.slice A3 n3 c3) (.int .i64 a3) (.int .i64 b3) (.slice B3 m3 d3)) (by omega) (by omega))
      obtain ⟨⟨-, t0, t1, t2, t3, t4⟩, f0, f1, f2, f3, f4⟩ := F11.out
      clear hv11 hb H3
      go_wp2_with fail
      refine H4.out.mono ?_
      rintro e w13 ⟨A, n, c, rfl, hs13, hb⟩
      have F13 := hide (F12.out.keep hb)
      have V13 := hide (V12.out.kept hb)
      have B13 := hide (bgo B12.out hb)
      obtain ⟨-, t0, t1, t2, t3, t4⟩ := F13.out
      have hn13 := hs13.nlen
      have hnc13 := hs13.1
      have hcc13 := hs13.2.1
      clear hb H4 F11 B11 F12 V12 B12 f0 f1 f2 f3 f4
      cases hF : findS false s.data.toList lit.data.toList with
      | nil =>
        rw [hF] at hn13
        have hn0 : n = 0 := hn13.symm
        have HM := hide (show Calls Tryz.prog 8 #[.agg #[.int .i64 k3, .slice A3 n3 c3, .int .i64 a3, .int .i64 b3, .slice B3 m3 d3], .string s] w13 fun e w' => e = .returned (.bool false) ∧ Below w13.heap.size w13 w' from (match16 s (by omega) (litE lit.data.toList) Hsz.out.1 Hsz.out.2 _ _ _ V13.out (HT.out.below B13.out)).mono fun e w' hg => ⟨by rw [hg.1, lit_none Hne.out hF], hg.2⟩)
        subst hn0
        clear hF hn13 hs13
        go_wp2_with fail
        with_reducible refine HM.out.mono ?_
        rintro e w14 ⟨rfl, hb⟩
        have B14 := hide (bgo B13.out hb)
        clear hb
        go_wp2
        go_ret
        exact ⟨rfl, B14.out⟩
      | cons x0 xs =>
        rw [hF] at hn13 hs13
        obtain ⟨at_, rfl, hat, hfp, hmt⟩ := lit_some_at Hne.out Hlr.out hF
        obtain ⟨g, o, rfl, c0⟩ := int_cell0 hs13
        have hn0 : 0 < n := by rw [← hn13]; simp
        have hn0' : (0 : Int) < (n : Int) := by omega
        have hn1 : ((n : Int) == 0) = false := ibne' (by omega)
        have hn2 : ¬ ((n : Int) ≤ 0) := by omega
        have hs60 : s.data.toList.length = s.size := size_list s
        have ha60 : (at_ : Int) + (lit.size : Int) ≤ 100 := by rw [← Hll.out]; omega
        have hwr : IntKind.i64.wrap ((at_ : Int) + (lit.size : Int)) = (at_ : Int) + (lit.size : Int) := by simp [IntKind.wrap, IntKind.signed, IntKind.bits]; omega
        have ee1 : ((at_ : Int) == (at_ : Int)) = true := by simp
        have ee2 : (((at_ : Int) + (lit.size : Int)) == ((at_ : Int) + (lit.size : Int))) = true := by simp
        have HPo := hide (lit_poss Hne.out hmt)
        have HF := hide (show Calls Tryz.prog 20 #[.agg #[.int .i64 k3, .slice A3 n3 c3, .int .i64 a3, .int .i64 b3, .slice B3 m3 d3], .string s, .int .i64 0] w13 fun e w' => e = .returned (.tuple #[.agg #[.int .i64 (at_ : Int), .int .i64 ((at_ : Int) + (lit.size : Int))], .bool true]) ∧ Below w13.heap.size w13 w' from (find14 all_mirror s (by omega) (litE lit.data.toList) Hsz.out.1 Hsz.out.2 0 _ _ _ V13.out (HT.out.below B13.out)).mono fun e w' hg => ⟨by
          rw [hg.1, hfp]
          show Ending.returned (.tuple #[.agg #[.int .i64 (at_ : Int), .int .i64 ((at_ + lit.data.toList.length : Nat) : Int)], .bool true]) = _
          rw [Hll.out, Int.natCast_add], hg.2⟩)
        have C0 := hide c0
        clear hF hn13 hs13 hfp hmt hat
        go_wp2_with fail
        with_reducible refine HF.out.mono ?_
        rintro e w14 ⟨rfl, hb⟩
        have hbx := bel_alloc w14 (.cells #[.int .i64 (at_ : Int), .int .i64 ((at_ : Int) + (lit.size : Int))] 48)
        have c14 := (bgo hb hbx).cell (p := ⟨g, o, none⟩) (World.block_lt_of_cell? _ _ C0.out)
        rw [C0.out] at c14
        have s0 := pair_at w14 (.int .i64 (at_ : Int)) (.int .i64 ((at_ : Int) + (lit.size : Int))) 48 0 _ rfl
        have s1 := pair_at w14 (.int .i64 (at_ : Int)) (.int .i64 ((at_ : Int) + (lit.size : Int))) 48 1 _ rfl
        rw [add_atW] at s0 s1
        have B14 := hide (bgo B13.out (bgo hb hbx))
        clear hb hbx HF t0 t1 t2 t3 t4 c0
        go_upto_region 18 with (fail)
        obtain ⟨w15, hw15⟩ : ∃ w15, w14.alloc (.cells #[.int .i64 (at_ : Int), .int .i64 ((at_ : Int) + (lit.size : Int))] 48) = w15 := ⟨_, rfl⟩
        obtain ⟨p12, hp12⟩ : ∃ p12, w14.heap.size = p12 := ⟨_, rfl⟩
        rw [hw15] at c14 s0 s1 B14 ⊢
        rw [hp12] at s0 s1 ⊢
        obtain ⟨x, hx⟩ : ∃ x, x = w15 := ⟨_, rfl⟩
        subst hx
        have S0 := hide s0
        have S1 := hide s1
        have S2 := hide c14
        have HOf := hide (fun (W : World) => of25 s W (by omega))
        have HPs := hide (fun (W : World) (A : Option Addr) (n c : Nat) (h : Sl W A n c (numCells (ofS s.data.toList))) => (show Calls Tryz.prog 21 #[.slice A n c, .string lit] W fun e w' => e = .returned (.bool true) ∧ Below W.heap.size W w' from (poss18 A n c _ lit W h (fun z hz => by
            obtain ⟨i, -, rfl⟩ := (mem_of s.data.toList z).1 hz
            have := tri_lt s.data.toList i
            omega) (by have h1 := of_len s.data.toList; have h2 := h.nlen; omega) (by omega)).mono fun e w' hg => ⟨by rw [hg.1, HPo.out], hg.2⟩))
        clear hw15 hp12 s0 s1 c14
        have HK := hide (show ∀ X : World, Below x.heap.size x X → (X.cell? ⟨p12, 0, none⟩ = some (.int .i64 (at_ : Int)) ∧ X.cell? ⟨p12, 1, none⟩ = some (.int .i64 ((at_ : Int) + (lit.size : Int))) ∧ X.cell? ⟨g, o, none⟩ = some (.int .i64 (at_ : Int))) ∧ Below x.heap.size x X from fun X hb => 
          ⟨⟨(hb.cell (p := ⟨p12, 0, none⟩) (World.block_lt_of_cell? _ _ S0.out)).trans S0.out, (hb.cell (p := ⟨p12, 1, none⟩) (World.block_lt_of_cell? _ _ S1.out)).trans S1.out, (hb.cell (p := ⟨g, o, none⟩) (World.block_lt_of_cell? _ _ S2.out)).trans S2.out⟩, hb⟩)
        have HS0 := hide (bel_drew x)
        have HKs := hide (show ∀ X Y : World, (X.cell? ⟨p12, 0, none⟩ = some (.int .i64 (at_ : Int)) ∧ X.cell? ⟨p12, 1, none⟩ = some (.int .i64 ((at_ : Int) + (lit.size : Int))) ∧ X.cell? ⟨g, o, none⟩ = some (.int .i64 (at_ : Int))) ∧ Below x.heap.size x X → Below X.heap.size X Y → (Y.cell? ⟨p12, 0, none⟩ = some (.int .i64 (at_ : Int)) ∧ Y.cell? ⟨p12, 1, none⟩ = some (.int .i64 ((at_ : Int) + (lit.size : Int))) ∧ Y.cell? ⟨g, o, none⟩ = some (.int .i64 (at_ : Int))) ∧ Below x.heap.size x Y from fun X Y h hb => HK.out Y (bgo h.2 hb))
        have HKb := hide (show ∀ X : World, (X.cell? ⟨p12, 0, none⟩ = some (.int .i64 (at_ : Int)) ∧ X.cell? ⟨p12, 1, none⟩ = some (.int .i64 ((at_ : Int) + (lit.size : Int))) ∧ X.cell? ⟨g, o, none⟩ = some (.int .i64 (at_ : Int))) ∧ Below x.heap.size x X → Below x.heap.size x X from fun X h => h.2)
        go_region_held3 (fun w' => (w'.cell? ⟨p12, 0, none⟩ = some (.int .i64 (at_ : Int)) ∧ w'.cell? ⟨p12, 1, none⟩ = some (.int .i64 ((at_ : Int) + (lit.size : Int))) ∧ w'.cell? ⟨g, o, none⟩ = some (.int .i64 (at_ : Int))) ∧ Below x.heap.size x w')
          (first | exact HK.out _ HS0.out | exact HKs.out _ _ (by assumption) hb4 | assumption)
          (first
            | (go_at_call 11; (with_reducible refine (HOf.out _).mono ?_); rintro e w16 ⟨Ao, no, co, rfl, hso, hb4⟩)
            | (go_at_call 21; (with_reducible refine (HPs.out _ _ _ _ hso).mono ?_); rintro e w16 ⟨rfl, hb4⟩))
        have B16 := hide (bgo B14.out (HKb.out _ (by assumption)))
        go_wp2
        go_ret
        exact ⟨rfl, B16.out⟩
end Go.Proofs.YtlnbjdlooghpeaaGreatDoor
