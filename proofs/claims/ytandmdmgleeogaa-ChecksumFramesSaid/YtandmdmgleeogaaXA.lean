/- Walk of the law on sums of bytes one after the other, and of exclusive ors. -/
import Derived.Test.YtandmdmgleeogaaX9
import Derived.Deep.RegionHeld3
import Derived.Deep.AppendLies
namespace Go.Proofs.Ytandmdmgleeogaa
open Go.RowKit
open Go.Lib (byteCells)

theorem u8x (a b : UInt8) : bits .xor .u8 (a.toNat : Int) (b.toNat : Int) = ((a ^^^ b).toNat : Int) := by
  rw [u8_xor_nat _ _ (UInt8.toNat_lt a) (UInt8.toNat_lt b), UInt8.toNat_xor]
theorem xors_at (a b : List UInt8) (k : Nat) (x y : UInt8) (hx : a[k]? = some x) (hy : b[k]? = some y) : (xors a b)[k]? = some (x ^^^ y) := by
  unfold xors
  rw [List.getElem?_zipWith, hx, hy]
theorem xors_len (a b : List UInt8) (h : a.length = b.length) : (xors a b).length = a.length := by unfold xors; rw [List.length_zipWith]; omega

set_option maxRecDepth 20000 in
set_option maxHeartbeats 3200000 in
theorem law8 (A A' A'' : Option Addr) (n c n' c' n'' c'' : Nat) (a b d : List UInt8) (w : World) (h : Sl w A n c (byteCells a)) (h' : Sl w A' n' c' (byteCells b)) (h'' : Sl w A'' n'' c'' (byteCells d)) :
    Calls Try.prog 8 #[.slice A n c, .slice A' n' c', .slice A'' n'' c''] w fun e w' => e = .returned (.bool true) ∧ Below w.heap.size w w' := by
  obtain ⟨i0, hi, hz0, hz1, hz2⟩ := info_parts info5
  have La := hide h.len
  have Lb := hide h'.len
  have Ld := hide h''.len
  have H := hide h
  have H' := hide h'
  have H'' := hide h''
  clear h h' h''
  by_cases hb1 : 600 < n
  · go_enter Try.func8, Try.ntmps8
    go_wp2_with fail
    refine (alive10 w).mono ?_
    rintro e w1 ⟨rfl, hb1⟩
    have B1 := hide hb1
    clear hb1
    go_wp2
    go_ret
    exact ⟨rfl, B1.out⟩
  by_cases hb2 : 600 < n'
  · go_enter Try.func8, Try.ntmps8
    go_wp2_with fail
    refine (alive10 w).mono ?_
    rintro e w1 ⟨rfl, hb1⟩
    have B1 := hide hb1
    clear hb1
    go_wp2
    go_ret
    exact ⟨rfl, B1.out⟩
  by_cases hb3 : 600 < n''
  · go_enter Try.func8, Try.ntmps8
    go_wp2_with fail
    refine (alive10 w).mono ?_
    rintro e w1 ⟨rfl, hb1⟩
    have B1 := hide hb1
    clear hb1
    go_wp2
    go_ret
    exact ⟨rfl, B1.out⟩
  have hsa : sumP a < 4294967296 := sum_lt a
  have hsb : sumP b < 4294967296 := sum_lt b
  have hsd : sumP d < 4294967296 := sum_lt d
  obtain ⟨sa, hea⟩ : ∃ s, sumP a = s := ⟨_, rfl⟩
  obtain ⟨sb, heb⟩ : ∃ s, sumP b = s := ⟨_, rfl⟩
  obtain ⟨sd, hed⟩ : ∃ s, sumP d = s := ⟨_, rfl⟩
  obtain ⟨t, het⟩ : ∃ s, extP sa b = s := ⟨_, rfl⟩
  have hall : ((sumP (a ++ b) : Nat) : Int) = (t : Int) := by
    rw [← het, ← hea]
    show ((extP 0 (a ++ b) : Nat) : Int) = _
    rw [ext_app]
    rfl
  rw [hea] at hsa
  rw [heb] at hsb
  rw [hed] at hsd
  have Hea := hide hea
  have Heb := hide heb
  have Hed := hide hed
  have Het := hide het
  have Hall := hide hall
  clear hea heb hed het hall
  go_enter Try.func8, Try.ntmps8
  go_wp2_with fail
  refine (alive10 w).mono ?_
  rintro e w1 ⟨rfl, hb1⟩
  have B1 := hide hb1
  have hsz1 := hb1.size
  have H1 := hide (H.out.below hb1)
  clear hb1
  go_wp2_with (at_builtin; refine wp_join rfl (.tmp 25) (.tmp 26) 23 rfl 5 i0 (.int .u8 0) 1 Try.underlying23 hi hz0 hz1 hz2 rfl w.heap.size _ (byteCells []) rfl _ (World.ownsRow_nil _ _ _ _) hsz1 A n c (byteCells a) rfl H1.out (bytes_one _) (by rw [bytes_size, List.length_nil]; omega) (by rw [bytes_size, List.length_nil]; unfold maxLen; omega) ?_)
  intro v2 w2 ho2 hb2
  rw [← Go.Lib.byteCells_append, List.nil_append] at ho2
  have Ho2 := hide ho2
  have B2 := hide (B1.out.trans hb2)
  have hsz2 := B2.out.size
  have H2 := hide (H'.out.below B2.out)
  have hal : (byteCells a).length = n := by rw [bytes_size]; exact La.out
  have Hal := hide hal
  clear ho2 hb2 H1 B1 hsz1 hal
  go_wp2_with (at_builtin; refine wp_join rfl (.tmp 28) (.tmp 29) 23 rfl 5 i0 (.int .u8 0) 1 Try.underlying23 hi hz0 hz1 hz2 rfl w.heap.size _ (byteCells a) rfl _ Ho2.out hsz2 A' n' c' (byteCells b) rfl H2.out (bytes_one _) (by rw [Hal.out]; omega) (by rw [Hal.out]; unfold maxLen; omega) ?_)
  intro v3 w3 ho3 hb3
  rw [← Go.Lib.byteCells_append] at ho3
  obtain ⟨A3, m3, c3, rfl, -, hs3⟩ := ho3.sl5
  have S3 := hide hs3
  have B3 := hide (B2.out.trans hb3)
  have H3 := hide (H.out.below B3.out)
  have H3' := hide (H'.out.below B3.out)
  have H3'' := hide (H''.out.below B3.out)
  clear ho3 hb3 hs3 B2 Ho2 H2 hsz2
  go_wp2_with fail
  refine (sum11c A n c a sa (by rw [Hea.out]) _ H3.out).mono ?_
  rintro e w4 ⟨rfl, rfl⟩
  go_wp2_with fail
  refine (extend13 sa hsa _ A' n' c' b _ H3'.out.reads (by omega)).mono ?_
  rintro e w4 ⟨rfl, rfl⟩
  rw [Het.out]
  go_wp2_with fail
  refine (sum11c A3 m3 c3 (a ++ b) t Hall.out _ S3.out).mono ?_
  rintro e w4 ⟨rfl, rfl⟩
  by_cases hn1 : n ≠ n'
  · have q1 : ((n : Int) == (n' : Int)) = false := beq_eq_false_iff_ne.2 (by omega)
    have q2 : ((n : Int) != (n' : Int)) = true := by rw [bne, q1]; rfl
    go_wp2
    go_ret
    exact ⟨rfl, B3.out⟩
  by_cases hn2 : n ≠ n''
  · have q1 : ((n : Int) == (n'' : Int)) = false := beq_eq_false_iff_ne.2 (by omega)
    have q2 : ((n : Int) != (n'' : Int)) = true := by rw [bne, q1]; rfl
    go_wp2
    go_ret
    exact ⟨rfl, B3.out⟩
  obtain rfl : n = n' := by omega
  obtain rfl : n = n'' := by omega
  obtain ⟨x, hx⟩ : ∃ x, xors (xors a b) d = x := ⟨_, rfl⟩
  have hab : a.length = b.length := by rw [La.out, Lb.out]
  have had : a.length = d.length := by rw [La.out, Ld.out]
  have hxl : x.length = n := by rw [← hx, xors_len _ _ (by rw [xors_len _ _ hab, had]), xors_len _ _ hab, La.out]
  have hsx : ((sumP x : Nat) : Int) = ((sa ^^^ sb ^^^ sd : Nat) : Int) := by rw [← hx, sum_xor3 a b d hab had, Hea.out, Heb.out, Hed.out]
  have hx1 := u32x sa sb hsa hsb
  have hx2 := u32x (sa ^^^ sb) sd (xor_lt32 _ _ hsa hsb) hsd
  have Hx := hide hx
  have Hxl := hide hxl
  have Hsx := hide hsx
  clear hx hab had hxl hsx hn1 hn2 S3
  go_wp2
  go_loopw [8, 9] (fun u y wr => ∃ k : Nat, k ≤ n ∧ y = .int .i64 k ∧ Own wr w.heap.size 5 u (byteCells (x.take k)) ∧ Below w.heap.size w wr) (fun _ y _ => n - (intOf y).toNat)
  case atStart => exact ⟨0, Nat.zero_le _, rfl, World.ownsRow_nil _ _ _ _, B3.out⟩
  case round =>
    clear B3 H3 H3' H3''
    obtain ⟨k, hk, rfl, hown, hbel⟩ := hrel
    have hsz := hbel.size
    have Hown := hide hown
    have Hb := hide hbel
    clear hown hbel
    by_cases hlt : k < n
    · obtain ⟨ad, y1, rfl, hy1, hc1⟩ := (H.out.below Hb.out).reads.byte hlt
      obtain ⟨ad', y2, rfl, hy2, hc2⟩ := (H'.out.below Hb.out).reads.byte hlt
      obtain ⟨ad'', y3, rfl, hy3, hc3⟩ := (H''.out.below Hb.out).reads.byte hlt
      have hz1' := u8x y1 y2
      have hz2' := u8x (y1 ^^^ y2) y3
      have hxk := xors_at _ _ k _ _ (xors_at _ _ k _ _ hy1 hy2) hy3
      rw [Hx.out] at hxk
      obtain ⟨z1, hz1e⟩ : ∃ z, y1 ^^^ y2 = z := ⟨_, rfl⟩
      rw [hz1e] at hz1' hz2' hxk
      obtain ⟨z2, hz2e⟩ : ∃ z, z1 ^^^ y3 = z := ⟨_, rfl⟩
      rw [hz2e] at hz2' hxk
      have hpc := push_cell [] x k z2 hxk
      rw [List.nil_append, List.nil_append] at hpc
      have Hpc := hide hpc
      have hbl : (byteCells (x.take k)).length ≤ 600 := by rw [bytes_size, List.length_take, Hxl.out]; omega
      have hownA := (Hown.out.alloc (.cells #[.int .u8 (z2.toNat : Int)] 5)).drew
      have hkn : (k : Int) < (n : Int) := by omega
      have hl1 := World.block_lt_of_cell? _ _ hc1
      have hl2 := World.block_lt_of_cell? _ _ hc2
      have hl3 := World.block_lt_of_cell? _ _ hc3
      have hg1 : (ad.add k).block < w.heap.size := by obtain ⟨_, _, e, hlt', _, _⟩ := H.out.reads.at_ hlt; cases e; rw [Go.ChangeShapes.block_add]; exact hlt'
      have hg2 : (ad'.add k).block < w.heap.size := by obtain ⟨_, _, e, hlt', _, _⟩ := H'.out.reads.at_ hlt; cases e; rw [Go.ChangeShapes.block_add]; exact hlt'
      have hg3 : (ad''.add k).block < w.heap.size := by obtain ⟨_, _, e, hlt', _, _⟩ := H''.out.reads.at_ hlt; cases e; rw [Go.ChangeShapes.block_add]; exact hlt'
      have HownA := hide hownA
      clear hpc hxk hz1e hz2e hy1 hy2 hy3 hownA
      go_wp2
      go_region_held3 (fun w' => w'.cell? (ad.add k) = some (.int .u8 (y1.toNat : Int)) ∧ w'.cell? (ad'.add k) = some (.int .u8 (y2.toNat : Int)) ∧ w'.cell? (ad''.add k) = some (.int .u8 (y3.toNat : Int)))
        (first
          | go_keep
          | exact ⟨(World.cell?_alloc_lt wr _ _ hl1).trans hc1, (World.cell?_alloc_lt wr _ _ hl2).trans hc2, (World.cell?_alloc_lt wr _ _ hl3).trans hc3⟩
          | exact ⟨(hb'.cell hg1).trans hc1, (hb'.cell hg2).trans hc2, (hb'.cell hg3).trans hc3⟩)
        (first
          | (refine step_append_lies _ (by rfl) (.tmp 56) (.tmp 71) 23 (by rfl) w.heap.size 5 i0 _ 1 1 Try.underlying23 hi hz0 hz1 hz2 rfl (by omega) _ _ (byteCells (x.take k)) (by rfl) HownA.out ⟨wr.heap.size, 0, none⟩ 1 1 [.int .u8 (z2.toNat : Int)] (by rfl) (by rfl) (c1_one _ _ _) (c2_one _ _) (by omega) (by unfold maxLen; omega) (by omega) (by simp; omega) (wr.heap.size + 1) (by simp) ?_
             intro gg cap w1 hown1 hgrow hat hlt5
             have hb' : Below w.heap.size wr w1 := ((Below.refl w.heap.size wr).alloc hsz _).drew.grown hgrow (by simp; omega) fun q hq => (Hown.out.lt q hq).1))
      have ho6 : Own w1 w.heap.size 5 (.slice (some ⟨gg, 0, none⟩) ((byteCells (x.take k)).length + 1) cap) (byteCells (x.take (k + 1))) := by
        unfold Own
        rw [← Hpc.out, List.length_append]
        exact hown1
      have Ho6 := hide ho6
      have B6 := hide (Hb.out.trans hb')
      clear ho6 hown1 hgrow hat hlt5 hb' HownA
      go_wp2
      go_roundw
      case rel => exact ⟨k + 1, by omega, by go_num, Ho6.out, B6.out⟩
      case measure => simp [intOf]; omega
    · have ho7 := Hown.out
      rw [List.take_of_length_le (by rw [Hxl.out]; omega)] at ho7
      obtain ⟨A7, m7, c7, rfl, -, hs7⟩ := ho7.sl5
      have S7 := hide hs7
      have H7 := hide (H.out.below Hb.out)
      have H7' := hide (H'.out.below Hb.out)
      have H7'' := hide (H''.out.below Hb.out)
      clear ho7 hs7 Hown
      go_wp2_with fail
      refine (sum11c A7 m7 c7 x _ Hsx.out _ S7.out).mono ?_
      rintro e w8 ⟨rfl, rfl⟩
      go_wp2_with fail
      refine (sum11c A n c a sa (by rw [Hea.out]) _ H7.out).mono ?_
      rintro e w8 ⟨rfl, rfl⟩
      go_wp2_with fail
      refine (sum11c A' n c' b sb (by rw [Heb.out]) _ H7'.out).mono ?_
      rintro e w8 ⟨rfl, rfl⟩
      go_wp2_with fail
      refine (sum11c A'' n c'' d sd (by rw [Hed.out]) _ H7''.out).mono ?_
      rintro e w8 ⟨rfl, rfl⟩
      go_wp2
      go_ret
      exact ⟨ret_bool (by simp), Hb.out⟩

end Go.Proofs.Ytandmdmgleeogaa
