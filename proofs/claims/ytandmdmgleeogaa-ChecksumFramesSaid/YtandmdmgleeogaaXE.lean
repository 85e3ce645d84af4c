/- Walk of the law on frames where the content is changed. -/
import Derived.Test.YtandmdmgleeogaaXs
import Derived.Test.YtandmdmgleeogaaXC
import Derived.Test.YtandmdmgleeogaaXA
import Derived.StillTailTactics
namespace Go.Proofs.Ytandmdmgleeogaa
open Go.RowKit
open Go.Lib (byteCells)

theorem zbF (z : UInt8) : ((z.toNat : Int) == 0) = (z == 0) := by
  by_cases h : z = 0
  · subst h; rfl
  · rw [beq_eq_false_iff_ne.2 h, beq_eq_false_iff_ne.2 fun e => h (UInt8.toNat_inj.1 (by show z.toNat = 0; omega))]

set_option maxRecDepth 100000 in
set_option maxHeartbeats 12800000 in
theorem law7F (A0 A1 A2 A4 : Option Addr) (n0 c0 n1 c1 n2 c2 n4 c4 : Nat) (at_ : Int) (p l a q : List UInt8) (w : World) (h0 : Sl w A0 n0 c0 (byteCells p)) (h1 : Sl w A1 n1 c1 (byteCells l)) (h2 : Sl w A2 n2 c2 (byteCells a)) (h4 : Sl w A4 n4 c4 (byteCells q)) (hb1 : ¬ 600 < n0) (hb2 : ¬ 600 < n1) (hb3 : ¬ 600 < n2) (hb4 : ¬ 4 < n4) :
    Calls Try.prog 7 #[.agg #[.slice A0 n0 c0, .slice A1 n1 c1, .slice A2 n2 c2, .int .i64 at_, .slice A4 n4 c4, .bool false]] w fun e w' => e = .returned (.bool true) ∧ Below w.heap.size w w' := by
  obtain ⟨i0, hi, hz0, hz1, hz2⟩ := info_parts info5
  have Lp := hide h0.len
  have Ll := hide h1.len
  have La := hide h2.len
  have Lq := hide h4.len
  have H0 := hide h0
  have H1 := hide h1
  have H2 := hide h2
  have H4 := hide h4
  clear h0 h1 h2 h4
  have hhd := enc_len9 n1 (by omega)
  obtain ⟨HD, hHD⟩ : ∃ x, (enc n1).length = x := ⟨_, rfl⟩
  rw [hHD] at hhd
  obtain ⟨F, hF⟩ : ∃ x, HD + n1 + 4 = x := ⟨_, rfl⟩
  have hFl : (sealP l).length = F := by rw [seal_len, Ll.out, hHD]; exact hF
  have HHD := hide hHD
  have HFl := hide hFl
  have hFi : (HD : Int) + (n1 : Int) + 4 = (F : Int) := by omega
  have hF1 : F ≤ 613 := by omega
  have hF0 : 0 < F := by omega
  go_enter Try.func7, Try.ntmps7
  go_wp2_with fail
  refine (alive10 _).mono ?_
  rintro e w2 ⟨rfl, hb2⟩
  obtain ⟨g0, q0, q1, q2, q3, q4, q5⟩ := (six_new w (.slice A0 n0 c0) (.slice A1 n1 c1) (.slice A2 n2 c2) (.int .i64 at_) (.slice A4 n4 c4) (.bool false) 40).keep hb2
  have hB2 := (bnew (Below.refl _ w) (.cells #[.slice A0 n0 c0, .slice A1 n1 c1, .slice A2 n2 c2, .int .i64 at_, .slice A4 n4 c4, .bool false] 40)).trans (hb2.mono (by simp))
  have Hsix := hide (show Six w2 w.heap.size _ _ _ _ _ _ from ⟨g0, q0, q1, q2, q3, q4, q5⟩)
  have B2 := hide hB2
  have K0 := hide (H0.out.below hB2)
  have K1 := hide (H1.out.below hB2)
  have K2 := hide (H2.out.below hB2)
  have K4 := hide (H4.out.below hB2)
  clear hb2 hB2 hF hHD hFl
  go_wp2_with fail
  refine (seal16 A1 n1 c1 l _ K1.out (by omega)).mono ?_
  intro e w3 hg
  obtain ⟨A3, m3, c3, rfl, hm3, hs3, hb3⟩ := sl_of hg
  obtain rfl : m3 = F := by rw [hm3]; exact HFl.out
  have S3 := hide hs3
  have B3 := hide hb3
  obtain ⟨g0', q0', q1', q2', q3', q4', q5'⟩ := Hsix.out.keep hb3
  clear hg hm3 hs3 hb3 g0 q0 q1 q2 q3 q4 q5
  go_wp2_with fail
  refine (rput22 none 0 0 [] n1 _ (Sl.nil _) (by omega) (by decide)).mono ?_
  intro e w4 hg
  obtain ⟨Ah, mh, ch, rfl, hmh, -, hb4⟩ := sl_of hg
  rw [List.nil_append, Int.toNat_natCast, HHD.out] at hmh
  subst hmh
  have L4 := hide (show Lies w4 (.slice none 0 0) A3 m3 c3 (byteCells (sealP l)) from ⟨S3.out.below hb4, fun _ ad _ => by simp [Value.ownBlock]⟩)
  have hC4 := B3.out.trans (hb4.mono B3.out.size)
  have C4 := hide hC4
  have hsz4 := hC4.size
  obtain ⟨g0, q0, q1, q2, q3, q4, q5⟩ := Hsix.out.keep hC4
  have K0' := hide (K0.out.below hC4)
  clear hg hb4 hC4 g0' q0' q1' q2' q3' q4' q5' S3 B3
  go_wp2_with (at_builtin; refine wp_join_far rfl (.tmp 58) (.tmp 60) 23 rfl 5 i0 (.int .u8 0) 1 Try.underlying23 hi hz0 hz1 hz2 rfl w2.heap.size _ (byteCells []) rfl _ (World.ownsRow_nil _ _ _ _) hsz4 A0 n0 c0 (byteCells p) rfl K0'.out (bytes_one _) (by rw [bytes_size, List.length_nil]; omega) (by rw [bytes_size, List.length_nil]; unfold maxLen; omega) ?_)
  intro v5 w5 ho5 hb5 hf5
  rw [← Go.Lib.byteCells_append, List.nil_append] at ho5
  have Ho5 := hide ho5
  have L5 := hide (L4.out.far hf5)
  have hC5 := C4.out.trans hb5
  have C5 := hide hC5
  have hsz5 := hC5.size
  have hpl : (byteCells p).length = n0 := by rw [bytes_size]; exact Lp.out
  have Hpl := hide hpl
  clear ho5 hb5 hf5 hC5 C4 L4 K0' g0 q0 q1 q2 q3 q4 q5 hpl
  go_wp2_with (at_builtin; refine wp_join rfl (.tmp 62) (.tmp 63) 23 rfl 5 i0 (.int .u8 0) 1 Try.underlying23 hi hz0 hz1 hz2 rfl w2.heap.size _ (byteCells p) rfl _ Ho5.out hsz5 A3 m3 c3 (byteCells (sealP l)) rfl L5.out.1 (bytes_one _) (by rw [Hpl.out]; omega) (by rw [Hpl.out]; unfold maxLen; omega) ?_)
  intro v6 w6 ho6 hb6
  rw [← Go.Lib.byteCells_append] at ho6
  have Ho6 := hide ho6
  have hC6 := C5.out.trans hb6
  have C6 := hide hC6
  have hsz6 := hC6.size
  have K2' := hide (K2.out.below hC6)
  obtain ⟨g0, q0, q1, q2, q3, q4, q5⟩ := Hsix.out.keep hC6
  have hpl6 : (byteCells (p ++ sealP l)).length = n0 + m3 := by rw [bytes_size, List.length_append, Lp.out, HFl.out]
  have Hpl6 := hide hpl6
  clear ho6 hb6 hC6 C5 Ho5 L5 hpl6
  go_wp2_with (at_builtin; refine wp_join rfl (.tmp 65) (.tmp 67) 23 rfl 5 i0 (.int .u8 0) 1 Try.underlying23 hi hz0 hz1 hz2 rfl w2.heap.size _ (byteCells (p ++ sealP l)) rfl _ Ho6.out hsz6 A2 n2 c2 (byteCells a) rfl K2'.out (bytes_one _) (by rw [Hpl6.out]; omega) (by rw [Hpl6.out]; unfold maxLen; omega) ?_)
  intro v7 w7 ho7 hb7
  rw [← Go.Lib.byteCells_append, List.append_assoc] at ho7
  obtain ⟨M, hM⟩ : ∃ x, n0 + m3 + n2 = x := ⟨_, rfl⟩
  have hDM : (p ++ (sealP l ++ a)).length = M := by rw [List.length_append, List.length_append, Lp.out, HFl.out, La.out, ← hM, Nat.add_assoc]
  obtain ⟨g, cap, rfl, hob, hgB, hgs⟩ := ho7.b hDM (by omega)
  have hMb : M ≤ 2000 := by omega
  have hC7 := C6.out.trans hb7
  have C7 := hide hC7
  have Hob := hide hob
  obtain ⟨NX, hNX⟩ : ∃ x, n0 + m3 = x := ⟨_, rfl⟩
  have hNXi : (n0 : Int) + (m3 : Int) = (NX : Int) := by omega
  have hop : openP (p ++ (sealP l ++ a)) (n0 : Int) (n1 : Int) = (l, NX, 0) := by
    have h := open_back p l a (n1 : Int) (by rw [Ll.out]; unfold big; omega) (by rw [Ll.out]; exact Int.le_refl _)
    rw [Lp.out, HFl.out, hNX] at h
    exact h
  have Hop := hide hop
  have hmc := hob.sl.1
  have hcap := hob.sl.2.1
  have HM := hide hM
  obtain ⟨g0', q0', q1', q2', q3', q4', q5'⟩ := Hsix.out.keep hC7
  clear ho7 hb7 hC7 C6 Ho6 K2' hM hDM hob hop hNX g0 q0 q1 q2 q3 q4 q5
  go_wp2_with fail
  refine (open18 _ M cap _ _ Hob.out.sl (by omega) (n0 : Int) (n1 : Int)).mono ?_
  rw [Hop.out]
  rintro e w8 ⟨v8, rfl, ho8, hb8⟩
  have ho8' : Own w8 w7.heap.size 5 v8 (byteCells l) := ho8
  obtain ⟨A8, m8, c8, rfl, -, hs8⟩ := ho8'.sl5
  have S8 := hide hs8
  have hC8 := C7.out.trans (hb8.mono C7.out.size)
  have C8 := hide hC8
  have Hob8 := hide (Hob.out.below hb8)
  have K1' := hide (K1.out.below hC8)
  obtain ⟨g0, q0, q1, q2, q3, q4, q5⟩ := Hsix.out.keep hC8
  clear ho8 ho8' hs8 hb8 hC8 C7 Hob g0' q0' q1' q2' q3' q4' q5'
  go_wp2_with fail
  refine (same15 A8 A1 m8 c8 n1 c1 l _ S8.out K1'.out).mono ?_
  rintro e w9 ⟨rfl, hd9⟩
  have hC9 := C8.out.trans (hd9.below _)
  have C9 := hide hC9
  have Hob9 := hide (Hob8.out.below (hd9.below _))
  obtain ⟨g0', q0', q1', q2', q3', q4', q5'⟩ := Hsix.out.keep hC9
  have hgs9 := Hob9.out.sl
  have HgB := hide hgB
  clear hd9 hC9 C8 Hob8 S8 K1' g0 q0 q1 q2 q3 q4 q5 hgs9 hgs
  obtain ⟨fi, hfi⟩ : ∃ y, n0 + mh = y := ⟨_, rfl⟩
  obtain ⟨en, hen⟩ : ∃ y, fi + n1 = y := ⟨_, rfl⟩
  have hfii : (n0 : Int) + (mh : Int) = (fi : Int) := by omega
  have heni : (fi : Int) + (n1 : Int) = (en : Int) := by omega
  have hse : (en : Int) - (fi : Int) = (n1 : Int) := by omega
  have Hrel2 := hide (show fi = n0 + mh from hfi.symm)
  clear hfi hen
  by_cases hat1 : at_ < 0
  · go_wp2
    go_ret
    exact ⟨rfl, B2.out.trans (C9.out.mono B2.out.size)⟩
  by_cases hat2 : (en : Int) - (fi : Int) < at_
  · go_wp2
    go_ret
    exact ⟨rfl, B2.out.trans (C9.out.mono B2.out.size)⟩
  by_cases hat3 : (en : Int) - (fi : Int) - at_ < (n4 : Int)
  · go_wp2
    go_ret
    exact ⟨rfl, B2.out.trans (C9.out.mono B2.out.size)⟩
  obtain ⟨k, rfl⟩ : ∃ k : Nat, at_ = (k : Int) := ⟨at_.toNat, by omega⟩
  obtain ⟨U, x, V, hD, hxq, hUl, hres⟩ := content_changed p l a q k (by rw [Ll.out, Lq.out]; omega) (by rw [Lq.out]; omega) (by rw [Ll.out]; unfold big; omega)
  obtain ⟨S, hS⟩ : ∃ y, fi + k = y := ⟨_, rfl⟩
  have hUS : U.length = S := by have := Hrel2.out; rw [hUl, Lp.out, Ll.out, HHD.out]; omega
  have hSi : (fi : Int) + (k : Int) = (S : Int) := by omega
  have hSM : S + n4 ≤ M := by have := HM.out; have := Hrel2.out; omega
  have hob9 := Hob9.out
  rw [hD] at hob9
  have Hob10 := hide hob9
  have Hxq := hide hxq
  have HUS := hide hUS
  have Hres := hide hres
  clear hob9 hD hxq hUl hres hUS hS Hob9
  go_wp2
  go_loopw [12, 13] (fun u y wr => ∃ j : Nat, j ≤ n4 ∧ y = .int .i64 j ∧ u = .bool (stillP q j) ∧ OwnB wr w2.heap.size g M cap (U ++ (mixP x q j ++ V)) ∧ Below w2.heap.size w2 wr) (fun _ y _ => n4 - (intOf y).toNat)
  case atStart => exact ⟨0, Nat.zero_le _, rfl, rfl, by rw [mix_zero]; exact Hob10.out, C9.out⟩
  case round =>
    clear C9 Hob10 g0' q0' q1' q2' q3' q4' q5'
    obtain ⟨j, hj, rfl, rfl, hob, hC⟩ := hrel
    obtain ⟨g0, q0, q1, q2, q3, q4, q5⟩ := Hsix.out.keep hC
    have Hob := hide hob
    have C := hide hC
    by_cases hlt : j < n4
    · obtain ⟨ad, z, rfl, hz, hcell2⟩ := K4.out.reads.byte hlt
      have hlt2 := World.block_lt_of_cell? _ _ hcell2
      have hcell := (hC.cell hlt2).trans hcell2
      have hjq : j < q.length := by rw [Lq.out]; exact hlt
      have hjx : j < x.length := by rw [Hxq.out]; exact hjq
      have hxj : x[j]? = some x[j] := List.getElem?_eq_getElem hjx
      obtain ⟨y, hy⟩ : ∃ y, x[j] = y := ⟨_, rfl⟩
      rw [hy] at hxj
      have hml := mix_len x q j Hxq.out (by omega)
      have hbj : (U ++ (mixP x q j ++ V))[S + j]? = some y := by
        rw [← HUS.out, mid_at U _ V j (by omega), mix_at x q j Hxq.out hjq]
        exact hxj
      have hset : (U ++ (mixP x q j ++ V)).set (S + j) (y ^^^ z) = U ++ (mixP x q (j + 1) ++ V) := by
        rw [← HUS.out, mid_set U _ V j _ (by omega), mix_set x q j y z Hxq.out hxj hz]
      obtain ⟨T, hT⟩ : ∃ T, S + j = T := ⟨_, rfl⟩
      rw [hT] at hbj hset
      have hTi : (S : Int) + (j : Int) = (T : Int) := by omega
      have hTM : (T : Int) < (M : Int) := by omega
      have hwS : IntKind.i64.wrap (S : Int) = (S : Int) := IntWalk.i64_in _ (by omega)
      have hwT : IntKind.i64.wrap (T : Int) = (T : Int) := IntWalk.i64_in _ (by omega)
      have hw1 : IntKind.i64.wrap ((fi : Int) + (k : Int)) = (S : Int) := by rw [hSi]; exact hwS
      have hw2 : IntKind.i64.wrap ((S : Int) + (j : Int)) = (T : Int) := by rw [hTi]; exact hwT
      have hjn : (j : Int) < (n4 : Int) := by omega
      have hc1 := hob.cell hbj
      have hfz := World.ownsRow.frozenAt hob T
      have hxor := u8x y z
      have hst := still_next q j z hz
      obtain ⟨t, ht⟩ : ∃ t, y ^^^ z = t := ⟨_, rfl⟩
      rw [ht] at hxor hset
      have hob2 : OwnB (wr.setCell ⟨g, T, none⟩ (.int .u8 (t.toNat : Int))) w2.heap.size g M cap (U ++ (mixP x q (j + 1) ++ V)) := by
        have h1 := own_set hob T (.int .u8 (t.toNat : Int))
        rw [bytes_set, hset] at h1
        exact h1
      have hC2 : Below w2.heap.size w2 (wr.setCell ⟨g, T, none⟩ (.int .u8 (t.toNat : Int))) := hC.setCell (by exact HgB.out) _
      obtain ⟨-, -, -, -, -, r4, -⟩ := Hsix.out.keep hC2
      have hcell3 := (hC2.cell hlt2).trans hcell2
      have Hob2 := hide hob2
      have C2 := hide hC2
      have Hst := hide hst
      have hsz9 := hC.size
      clear hset hbj hml hxj hy ht hT hob hC hob2 hC2 hst hz hcell2
      by_cases hs : stillP q j = true
      · go_wp2
        go_still_tail 22, (by kernel_rfl)
        change wpList _ _ _ _ _ wr.drew
        go_wp2
        go_roundw
        case rel =>
          have hd : decide (n1 < k) = false := decide_eq_false (by omega)
          refine ⟨_, _, _, _, _, _, _, _, _, _, _, _, _, _, _, _, _, _, _, _, _, _, _, _, _, _, _, _, _, _, _, _, _, _, _, _, _, _, _, _, _, ⟨j + 1, ?_, ?_, ?_, ?_, ?_⟩, by simp only [hd, Bool.or_false]; rfl⟩
          · omega
          · go_num
          · exact congrArg Value.bool (by rw [Hst.out, hs, Bool.true_and]; exact zbF z)
          · first | exact Hob2.out | exact World.ownsRow.drew Hob2.out
          · first | exact C2.out | exact C2.out.drew
        case measure => simp [intOf]; omega
      · have hs' : stillP q j = false := by simpa using hs
        clear hs
        go_wp2
        go_still_tail 22, (by kernel_rfl)
        change wpList _ _ _ _ _ wr.drew
        go_wp2
        go_roundw
        case rel =>
          have hd : decide (n1 < k) = false := decide_eq_false (by omega)
          refine ⟨_, _, _, _, _, _, _, _, _, _, _, _, _, _, _, _, _, _, _, _, _, _, _, _, _, _, _, _, _, _, _, _, _, _, _, _, _, _, _, _, _, ⟨j + 1, ?_, ?_, ?_, ?_, ?_⟩, by simp only [hd, Bool.or_false]; rfl⟩
          · omega
          · go_num
          · exact congrArg Value.bool (by rw [Hst.out, hs', Bool.false_and])
          · first | exact Hob2.out | exact World.ownsRow.drew Hob2.out
          · first | exact C2.out | exact C2.out.drew
        case measure => simp [intOf]; omega
    · obtain rfl : j = n4 := by omega
      have hmix := mix_all x q Hxq.out
      rw [Lq.out] at hmix
      have hob3 := Hob.out
      rw [hmix] at hob3
      have Hob3 := hide hob3
      have hsc := hob3.sl.1
      clear hmix hob3 hob hC Hob
      by_cases hs : stillP q j = true
      · obtain ⟨⟨r, nx, er⟩, hr⟩ : ∃ o, openP (U ++ (xors x q ++ V)) (n0 : Int) (n1 : Int) = o := ⟨_, rfl⟩
        have Hr := hide hr
        clear hr
        go_wp2_with fail
        refine (open18 _ M cap _ _ Hob3.out.sl (by omega) (n0 : Int) (n1 : Int)).mono ?_
        rw [Hr.out]
        intro e w10 hg
        obtain ⟨A10, m10, c10, rfl, -, -, hb10⟩ := opened_sl hg
        have C10 := hide (C.out.trans (hb10.mono C.out.size))
        clear hg hb10 C
        go_wp2
        go_ret
        exact ⟨rfl, B2.out.trans (C10.out.mono B2.out.size)⟩
      · have hs' : stillP q j = false := by simpa using hs
        have hr := Hres.out (by rw [Lq.out]; exact hs')
        rw [Lp.out, Ll.out] at hr
        have Hr := hide hr
        clear hs hr
        go_wp2_with fail
        refine (open18 _ M cap _ _ Hob3.out.sl (by omega) (n0 : Int) (n1 : Int)).mono ?_
        rw [Hr.out]
        intro e w10 hg
        obtain ⟨A10, m10, c10, rfl, hm10, -, hb10⟩ := opened_sl hg
        have hm0 : m10 = 0 := hm10
        subst hm0
        have C10 := hide (C.out.trans (hb10.mono C.out.size))
        clear hg hb10 C hm10
        go_wp2
        go_ret
        exact ⟨rfl, B2.out.trans (C10.out.mono B2.out.size)⟩

end Go.Proofs.Ytandmdmgleeogaa
