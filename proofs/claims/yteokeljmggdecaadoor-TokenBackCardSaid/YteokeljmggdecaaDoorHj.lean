/- Walks of layer 11's program: fault, written, quoted, printed. -/
import Derived.Test.YteokeljmggdecaaDoorHi
import Derived.Test.YteokeljmggdecaaDoorShelf
namespace Go.Proofs.YteokeljmggdecaaDoor
open Go.RowKit

set_option maxRecDepth 20000 in
set_option maxHeartbeats 3200000 in
theorem pfault (k a e : Int) (s : ByteArray) (hs : s.size ≤ 1000000) (b : Nat) (w : World) (hkw : KwD w b) (q : Int) (hq : faultS k s.data.toList = q) :
    Calls Tryd.prog 29 #[.agg #[.int .i64 k, .string s, .int .i64 a, .int .i64 e], .map (some b)] w fun en w' => en = .returned (.int .i64 q) ∧ Below w.heap.size w w' := by
  have HB := hide (bnew (Below.refl w.heap.size w) (.cells #[.int .i64 k, .string s, .int .i64 a, .int .i64 e] 33))
  have hkw1 := hkw.below (bnew (Below.refl w.heap.size w) (.cells #[.int .i64 k, .string s, .int .i64 a, .int .i64 e] 33))
  have hF := four_new w (.int .i64 k) (.string s) (.int .i64 a) (.int .i64 e) 33
  obtain ⟨f, hf⟩ : ∃ f, formS k s.data.toList = f := ⟨_, rfl⟩
  have HC := hide (pformed k a e s hs b _ hkw1 f hf)
  have HF := hide hF
  have Hq := hide hq
  have Hf := hide hf
  have HL := hide (fun W => plongest k W)
  obtain ⟨L, hL⟩ : ∃ L, longS k = L := ⟨_, rfl⟩
  have hL60 : L ≤ 60 := by rw [← hL]; unfold longS; split <;> (try split) <;> omega
  rw [hL] at HL
  have HLL := hide hL
  clear hkw hkw1 hF hf hq hL
  cases f with
  | false =>
    have Hy := hide (show (11 : Int) = q by rw [← Hq.out]; unfold faultS; rw [if_pos Hf.out])
    go_enter Tryd.func29, Tryd.ntmps29
    go_wp2_with fail
    with_reducible refine HC.out.mono ?_
    rintro en w2 ⟨rfl, hb2⟩
    have HB2 := hide (bgo HB.out hb2)
    clear hb2
    go_wp2
    go_ret
    exact ⟨ret_int Hy.out, HB2.out⟩
  | true =>
    have Hy := hide (show (if L < s.size then (4 : Int) else 0) = q by
      rw [← Hq.out]; unfold faultS; rw [Hf.out, if_neg (show ¬ true = false by decide), HLL.out, size_list])
    go_enter Tryd.func29, Tryd.ntmps29
    go_wp2_with fail
    with_reducible refine HC.out.mono ?_
    rintro en w2 ⟨rfl, hb2⟩
    obtain ⟨h0, c0, c1, c2, c3⟩ := HF.out.keep hb2
    have HB2 := hide (bgo HB.out hb2)
    clear hb2 h0 c2 c3
    by_cases hlt : L < s.size
    · have Hz := hide (show (4 : Int) = q by rw [← Hy.out, if_pos hlt])
      have hd : decide ((s.size : Int) > (L : Int)) = true := decide_eq_true (by omega)
      have hd' : decide ((L : Int) < (s.size : Int)) = true := decide_eq_true (by omega)
      go_wp2
      go_quiet ((go_at_call 48; exact quiet_left (HL.out _)))
      go_wp2
      go_ret
      exact ⟨ret_int Hz.out, bdr HB2.out _⟩
    · have Hz := hide (show (0 : Int) = q by rw [← Hy.out, if_neg hlt])
      have hd : decide ((s.size : Int) > (L : Int)) = false := decide_eq_false (by omega)
      have hd' : decide ((L : Int) < (s.size : Int)) = false := decide_eq_false (by omega)
      go_wp2
      go_quiet ((go_at_call 48; exact quiet_left (HL.out _)))
      go_wp2
      go_ret
      exact ⟨ret_int Hz.out, bdr HB2.out _⟩

theorem encode_low (c : UInt8) (h : c.toNat < 128) : Utf8.encode (c.toNat : Int) = bs [c] := by
  have hv : Utf8.valid (c.toNat : Int) = true := by unfold Utf8.valid; simp; omega
  unfold Utf8.encode
  simp only [hv, if_true, Int.toNat_natCast, if_pos h]
  simp [bs]
theorem con_low {c : UInt8} (h : conB c = true) : c.toNat < 128 := by
  unfold conB visB at h
  simp only [Bool.or_eq_true, Bool.and_eq_true, decide_eq_true_eq, beq_iff_eq] at h
  rcases h with h | h
  · subst h; decide
  · omega
theorem pwritten (c : UInt8) (hc : conB c = true) (w : World) : Calls Tryd.prog 71 #[.int .u8 (c.toNat : Int)] w fun e w' => e = .returned (.string (bs (writeS c))) ∧ w = w' := by
  have h34 : ((c.toNat : Int) == 34) = decide (c = 34) := u8_eq (n := 34) (by decide)
  have h92 : ((c.toNat : Int) == 92) = decide (c = 92) := u8_eq (n := 92) (by decide)
  have h10 : ((c.toNat : Int) == 10) = decide (c = 10) := u8_eq (n := 10) (by decide)
  have Hc := encode_low c (con_low hc)
  clear hc
  by_cases e34 : c = 34
  · rw [decide_eq_true e34] at h34
    have Hn := hide (show bs [92, 34] = bs (writeS c) by rw [e34]; rfl)
    clear h92 h10 Hc e34
    go_enter Tryd.func71, Tryd.ntmps71
    go_wp2
    go_ret
    exact ⟨ret_str (by rw [← Hn.out]; rfl), rfl⟩
  · rw [decide_eq_false e34] at h34
    by_cases e92 : c = 92
    · rw [decide_eq_true e92] at h92
      have Hn := hide (show bs [92, 92] = bs (writeS c) by rw [e92]; rfl)
      clear h10 Hc e34 e92
      go_enter Tryd.func71, Tryd.ntmps71
      go_wp2
      go_ret
      exact ⟨ret_str (by rw [← Hn.out]; rfl), rfl⟩
    · rw [decide_eq_false e92] at h92
      by_cases e10 : c = 10
      · rw [decide_eq_true e10] at h10
        have Hn := hide (show bs [92, 110] = bs (writeS c) by rw [e10]; rfl)
        clear Hc e34 e92 e10
        go_enter Tryd.func71, Tryd.ntmps71
        go_wp2
        go_ret
        exact ⟨ret_str (by rw [← Hn.out]; rfl), rfl⟩
      · rw [decide_eq_false e10] at h10
        have Hn := hide (show bs [c] = bs (writeS c) by unfold writeS; rw [if_neg e34, if_neg e92, if_neg e10])
        clear e34 e92 e10
        go_enter Tryd.func71, Tryd.ntmps71
        go_wp2
        go_ret
        exact ⟨ret_str (by rw [← Hn.out, ← Hc]), rfl⟩

theorem write_len (c : UInt8) : (writeS c).length ≤ 2 := by
  unfold writeS
  split
  · simp
  · split
    · simp
    · split <;> simp
theorem body_len (t : List UInt8) : (bodyS t).length ≤ 2 * t.length := by
  induction t with
  | nil => exact Nat.le_refl _
  | cons c t ih =>
    show (writeS c ++ bodyS t).length ≤ _
    have := write_len c
    rw [List.length_append, List.length_cons]
    omega
theorem body_app (a b : List UInt8) : bodyS (a ++ b) = bodyS a ++ bodyS b := by unfold bodyS; rw [List.flatMap_append]
theorem bs_strCells (l : List UInt8) : Lib.strCells (bs l) = Lib.byteCells l := by
  unfold Lib.strCells
  rw [bs_list]
  rfl
theorem byteC_len (l : List UInt8) : (Lib.byteCells l).length = l.length := by simp [Lib.byteCells]

set_option maxRecDepth 20000 in
set_option maxHeartbeats 3200000 in
theorem pquoted (s : ByteArray) (hs : s.size ≤ 1000000) (hc : s.data.toList.all conB = true) (w : World) : Calls Tryd.prog 49 #[.string s] w fun e w' => e = .returned (.string (bs (quoteS s.data.toList))) ∧ Below w.heap.size w w' := by
  obtain ⟨w0, hw0⟩ : ∃ w0, w.alloc (.cells #[.pointer none, .slice none 0 0] 61) = w0 := ⟨_, rfl⟩
  have hI : Lib.IsBuilder 61 5 w.heap.size w.heap.size (Lib.byteCells []) w0 := by rw [← hw0]; exact Lib.fresh_isBuilder 61 5 w
  have hb0 : Below w.heap.size w w0 := by rw [← hw0]; exact bnew (Below.refl _ w) _
  have hsz0 : w.heap.size ≤ w0.heap.size := hb0.size
  have HI := hide hI
  have HB0 := hide hb0
  have HW0 := hide hw0
  clear hI hb0 hw0
  have hcon : ∀ k (h : k < s.size), conB s[k] = true := by
    intro k h
    have hm : s[k] ∈ s.data.toList := List.mem_of_mem_drop (by rw [drop_cons h]; exact List.mem_cons_self ..)
    exact List.all_eq_true.1 hc _ hm
  have HCon := hide hcon
  clear hcon hc
  go_enter Tryd.func49, Tryd.ntmps49
  go_wp2_with fail
  rw [HW0.out]
  clear HW0
  refine (Tryd.Builder_WriteByte _ _ _ 34 _ HI.out (by simp [Lib.byteCells]) hsz0).mono ?_
  rintro e w1 ⟨rfl, hI1, hb1⟩
  have HI1 := hide (show Lib.IsBuilder 61 5 w.heap.size w.heap.size (Lib.byteCells (34 :: bodyS (s.data.toList.take 0))) w1 from Or.inr hI1)
  have HB1 := hide (HB0.out.trans hb1)
  clear hI1 hb1 HI HB0 hsz0
  go_wp2_with fail
  go_loopw [8] (fun y wr => ∃ k : Nat, k ≤ s.size ∧ y = .int .i64 (k : Int) ∧ Lib.IsBuilder 61 5 w.heap.size w.heap.size (Lib.byteCells (34 :: bodyS (s.data.toList.take k))) wr ∧ Below w.heap.size w wr) (fun y _ => s.size - (intOf y).toNat)
  case atStart => exact ⟨0, Nat.zero_le _, rfl, HI1.out, HB1.out⟩
  case round =>
    obtain ⟨k, hk, rfl, hI2, hb2⟩ := hrel
    obtain ⟨w2, hw2⟩ : ∃ w2, w2 = wr := ⟨wr, rfl⟩
    subst hw2
    have hsz2 := hb2.size
    have HI2 := hide hI2
    have HB2 := hide hb2
    have hlen : (34 :: bodyS (s.data.toList.take k)).length ≤ 2000001 := by
      have := body_len (s.data.toList.take k)
      rw [List.length_take, size_list] at this
      simp only [List.length_cons]
      omega
    have Hlen := hide (show (Lib.byteCells (34 :: bodyS (s.data.toList.take k))).length ≤ 2000001 by rw [byteC_len]; exact hlen)
    by_cases hlt : k < s.size
    · have HC := hide (pwritten s[k] (HCon.out k hlt) w2)
      have hstep : 34 :: bodyS (s.data.toList.take (k + 1)) = 34 :: bodyS (s.data.toList.take k) ++ writeS s[k] := by
        rw [List.take_succ_eq_append_getElem (by simpa using hlt), body_app, ← List.cons_append]
        congr 1
        show bodyS [s.data.toList[k]] = _
        show writeS (s.data.toList[k]) ++ [] = _
        rw [List.append_nil]
        rfl
      obtain ⟨t, ht⟩ : ∃ t, writeS s[k] = t := ⟨_, rfl⟩
      have htl : t.length ≤ 2 := by rw [← ht]; exact write_len _
      rw [ht] at HC hstep
      have Hstep := hide hstep
      have Htl := hide htl
      clear hI2 hb2 hlen hstep ht htl
      go_wp2_with fail
      with_reducible refine HC.out.mono ?_
      rintro e w3 ⟨rfl, rfl⟩
      go_wp2_with fail
      refine (Tryd.Builder_WriteString _ _ _ (bs t) _ HI2.out (by have := Hlen.out; have := Htl.out; rw [bs_size]; omega) hsz2).mono ?_
      rintro e w4 ⟨rfl, hI4, hb4⟩
      have HI4 := hide (show Lib.IsBuilder 61 5 w.heap.size w.heap.size (Lib.byteCells (34 :: bodyS (s.data.toList.take (k + 1)))) w4 by
        rw [Hstep.out, Go.Lib.byteCells_append, ← bs_strCells t]
        exact Or.inr hI4)
      have HB4 := hide (HB2.out.trans hb4)
      clear hI4 hb4
      go_wp2
      go_roundw
      case rel => exact ⟨k + 1, by omega, by go_num, HI4.out, HB4.out⟩
      case measure => simp [intOf]; omega
    · have hk' : s.data.toList.take k = s.data.toList := List.take_of_length_le (by rw [size_list]; omega)
      rw [hk'] at HI2 Hlen
      clear hI2 hb2 hlen hk'
      go_wp2_with fail
      refine (Tryd.Builder_WriteByte _ _ _ 34 _ HI2.out (by have := Hlen.out; omega) hsz2).mono ?_
      rintro e w3 ⟨rfl, hI3, hb3⟩
      have hsz3 : w.heap.size ≤ w3.heap.size := by have := hb3.size; omega
      have HI3 := hide (show Lib.IsBuilder 61 5 w.heap.size w.heap.size (Lib.byteCells (quoteS s.data.toList)) w3 by
        unfold quoteS
        rw [← List.cons_append, Go.Lib.byteCells_append]
        exact Or.inr hI3)
      have HB3 := hide (HB2.out.trans hb3)
      clear hI3 hb3
      go_wp2_with fail
      refine (Tryd.Builder_String_any _ _ _ _ HI3.out hsz3).mono ?_
      rintro e w4 ⟨rfl, hb4⟩
      have HB4 := hide (HB3.out.trans hb4)
      clear hb4
      go_wp2
      go_ret
      exact ⟨rfl, HB4.out⟩

/-- Behind a box. -/
theorem box_cells (w : World) (k a e : Int) (s : ByteArray) : (w.alloc (.cells #[.int .i64 k, .string s, .int .i64 a, .int .i64 e] 33)).cell? ⟨w.heap.size, 1, none⟩ = some (.string s) := (four_new w (.int .i64 k) (.string s) (.int .i64 a) (.int .i64 e) 33).2.2.1
set_option maxRecDepth 20000 in
set_option maxHeartbeats 1600000 in
theorem pprinted (k a e : Int) (s : ByteArray) (hs : s.size ≤ 1000000) (hc : k = 4 → s.data.toList.all conB = true) (w : World) :
    Calls Tryd.prog 30 #[.agg #[.int .i64 k, .string s, .int .i64 a, .int .i64 e]] w fun en w' => en = .returned (.string (bs (tokP k s.data.toList))) ∧ Below w.heap.size w w' := by
  have HB := hide (bnew (Below.refl w.heap.size w) (.cells #[.int .i64 k, .string s, .int .i64 a, .int .i64 e] 33))
  by_cases h4 : k = 4
  · subst h4
    have HC := hide (pquoted s hs (hc rfl) (w.alloc (.cells #[.int .i64 4, .string s, .int .i64 a, .int .i64 e] 33)))
    clear hc
    go_enter Tryd.func30, Tryd.ntmps30
    go_wp2_with fail
    with_reducible refine HC.out.mono ?_
    rintro en w2 ⟨rfl, hb2⟩
    have HB2 := hide (bgo HB.out hb2)
    clear hb2
    go_wp2
    go_ret
    exact ⟨rfl, HB2.out⟩
  · have e4 : (k == 4) = false := beq_eq_false_iff_ne.2 h4
    clear hc
    by_cases h6 : k = 6
    · subst h6
      have Hn := hide (show bs [36] ++ s = bs (tokP 6 s.data.toList) by
        have := bs_app [36] s.data.toList
        rw [bs_self] at this
        rw [this]; rfl)
      clear e4 h4
      go_enter Tryd.func30, Tryd.ntmps30
      go_wp2
      go_ret
      exact ⟨ret_str (by rw [← Hn.out]; rfl), HB.out⟩
    · have e6 : (k == 6) = false := beq_eq_false_iff_ne.2 h6
      by_cases h7 : k = 7
      · subst h7
        have Hn := hide (show bs [36, 36] ++ s = bs (tokP 7 s.data.toList) by
          have := bs_app [36, 36] s.data.toList
          rw [bs_self] at this
          rw [this]; rfl)
        clear e4 h4 e6 h6
        go_enter Tryd.func30, Tryd.ntmps30
        go_wp2
        go_ret
        exact ⟨ret_str (by rw [← Hn.out]; rfl), HB.out⟩
      · have e7 : (k == 7) = false := beq_eq_false_iff_ne.2 h7
        have Hn := hide (show s = bs (tokP k s.data.toList) by
          unfold tokP
          rw [if_neg h4, if_neg h6, if_neg h7, bs_self])
        clear h4 h6 h7
        go_enter Tryd.func30, Tryd.ntmps30
        go_wp2
        go_ret
        exact ⟨ret_str Hn.out, HB.out⟩
end Go.Proofs.YteokeljmggdecaaDoor
