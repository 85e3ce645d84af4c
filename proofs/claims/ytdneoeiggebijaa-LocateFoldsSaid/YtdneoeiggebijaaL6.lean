/- Layer 7: the laws on Find and Count, Codes and Possible, Candidates, folding first, over the contracts. -/
import Derived.Test.YtdneoeiggebijaaL5
import Derived.Test.YtdneoeiggebijaaU1
namespace Go.Proofs.Ytdneoeiggebijaa
open Go.RowKit
open Go.Lib (byteCells)

set_option maxRecDepth 20000 in
set_option maxHeartbeats 1600000 in
theorem law3 (C : Cs) (s t : ByteArray) (f : Bool) (w : World) (hs : s.size ≤ 9223372036854775807) (ht : t.size ≤ 9223372036854775807) :
    Calls Try.prog 3 #[.string s, .string t, .bool f] w fun e w' => e = .returned (.bool true) ∧ Below w.heap.size w w' := by
  have CC := hide C
  clear C
  go_enter Try.func3, Try.ntmps3
  go_wp2_with fail
  refine (alive10 CC.out _).mono ?_
  rintro e w1 ⟨rfl, h1⟩
  have B1 := hide h1
  clear h1
  by_cases h1 : 400 < s.size
  · go_wp2
    go_ret
    exact ⟨rfl, B1.out⟩
  · by_cases h2 : 400 < t.size
    · go_wp2
      go_ret
      exact ⟨rfl, B1.out⟩
    · obtain ⟨L, hL⟩ : ∃ L, findS f s.data.toList t.data.toList = L := ⟨_, rfl⟩
      obtain ⟨x, hx⟩ : ∃ x, countS f s.data.toList t.data.toList = x := ⟨_, rfl⟩
      have HL := hide hL
      have HX := hide hx
      clear hL hx
      go_wp2_with fail
      with_reducible refine (CC.out.find s t f _ (by omega) (by omega)).mono ?_
      rw [HL.out]
      rintro e w2 ⟨A1, n1, c1, rfl, h2, h1⟩
      have B2 := hide (bgo B1.out h1)
      have S2 := hide h2
      clear h1 h2 B1
      go_wp2_with fail
      with_reducible refine (rfind13 s t f _ (by omega) (by omega)).mono ?_
      rw [HL.out]
      rintro e w3 ⟨A2, n2, c2, rfl, h2, h1⟩
      have B3 := hide (bgo B2.out h1)
      have S3 := hide (S2.out.below h1)
      have T3 := hide h2
      clear h1 h2 B2 S2
      go_wp2_with fail
      with_reducible refine (rsame11 A1 A2 n1 c1 n2 c2 L _ S3.out T3.out).mono ?_
      rintro e w4 ⟨rfl, h1⟩
      have B4 := hide (B3.out.trans (h1.below _))
      clear h1 B3 S3 T3
      go_wp2_with fail
      with_reducible refine (CC.out.count s t f _ (by omega) (by omega)).mono ?_
      rw [HX.out]
      rintro e w5 ⟨rfl, h1⟩
      have B5 := hide (bgo B4.out h1)
      clear h1 B4
      go_wp2_with fail
      with_reducible refine (rcount15 s t f _ (by omega) (by omega)).mono ?_
      rw [HX.out]
      rintro e w6 ⟨rfl, rfl⟩
      go_wp2
      go_ret
      exact ⟨ret_bool (by simp), B5.out⟩

set_option maxRecDepth 20000 in
set_option maxHeartbeats 1600000 in
theorem law4 (C : Cs) (A : Option Addr) (n c : Nat) (cs : List Int) (t : ByteArray) (w : World) (h : Sl w A n c (numCells cs)) (hw : In64 cs) (ht : t.size ≤ 9223372036854775807) :
    Calls Try.prog 4 #[.slice A n c, .string t] w fun e w' => e = .returned (.bool true) ∧ Below w.heap.size w w' := by
  have CC := hide C
  have hnc := h.1
  have hcc := h.2.1
  have H := hide h
  have Hw := hide hw
  clear C h hw
  go_enter Try.func4, Try.ntmps4
  go_wp2_with fail
  refine (alive10 CC.out _).mono ?_
  rintro e w1 ⟨rfl, h1⟩
  have B1 := hide h1
  have H1 := hide (H.out.below h1)
  clear h1
  by_cases h1 : 40 < n
  · go_wp2
    go_ret
    exact ⟨rfl, B1.out⟩
  · by_cases h2 : 400 < t.size
    · go_wp2
      go_ret
      exact ⟨rfl, B1.out⟩
    · obtain ⟨L, hL⟩ : ∃ L, ofS t.data.toList = L := ⟨_, rfl⟩
      obtain ⟨x, hx⟩ : ∃ x, possS cs t.data.toList = x := ⟨_, rfl⟩
      have HL := hide hL
      have HX := hide hx
      clear hL hx
      go_wp2_with fail
      with_reducible refine (CC.out.codes t _ (by omega)).mono ?_
      rw [HL.out]
      rintro e w2 ⟨A1, n1, c1, rfl, h2, h1⟩
      have B2 := hide (bgo B1.out h1)
      have H2 := hide (H1.out.below h1)
      have S2 := hide h2
      clear h1 h2 B1 H1
      go_wp2_with fail
      with_reducible refine (rcodes17 t _ (by omega)).mono ?_
      rw [HL.out]
      rintro e w3 ⟨A2, n2, c2, rfl, h2, h1⟩
      have B3 := hide (bgo B2.out h1)
      have H3 := hide (H2.out.below h1)
      have S3 := hide (S2.out.below h1)
      have T3 := hide h2
      clear h1 h2 B2 S2 H2
      go_wp2_with fail
      with_reducible refine (rsame11 A1 A2 n1 c1 n2 c2 L _ S3.out T3.out).mono ?_
      rintro e w4 ⟨rfl, h1⟩
      have B4 := hide (B3.out.trans (h1.below _))
      have H4 := hide (H3.out.below (h1.below _))
      clear h1 B3 S3 T3 H3
      go_wp2_with fail
      with_reducible refine (CC.out.poss A n c cs t _ H4.out Hw.out (by omega) (by omega)).mono ?_
      rw [HX.out]
      rintro e w5 ⟨rfl, h1⟩
      have B5 := hide (bgo B4.out h1)
      have H5 := hide (H4.out.below h1)
      clear h1 B4 H4
      go_wp2_with fail
      with_reducible refine (rposs19 A n c cs t _ H5.out (by omega)).mono ?_
      rw [HX.out]
      rintro e w6 ⟨rfl, h1⟩
      have B6 := hide (bgo B5.out h1)
      clear h1 B5
      go_wp2
      go_ret
      exact ⟨ret_bool (by simp), B6.out⟩

set_option maxRecDepth 20000 in
set_option maxHeartbeats 1600000 in
theorem law5 (C : Cs) (A : Option Addr) (n c : Nat) (gs : List (Int × List Int)) (t : ByteArray) (w : World) (h : GrS w A n c gs) (hw : ∀ g ∈ gs, In64 g.2) (ht : t.size ≤ 9223372036854775807) :
    Calls Try.prog 5 #[.slice A n c, .string t] w fun e w' => e = .returned (.bool true) ∧ Below w.heap.size w w' := by
  have CC := hide C
  have hnc := h.1
  have hcc := h.2.1
  have Hlen := hide h.2.2.1
  have H := hide h
  have Hw := hide hw
  clear C h hw
  go_enter Try.func5, Try.ntmps5
  go_wp2_with fail
  refine (alive10 CC.out _).mono ?_
  rintro e w1 ⟨rfl, h1⟩
  have B1 := hide h1
  have H1 := hide (H.out.below h1)
  clear h1 H
  by_cases h1 : 40 < n
  · go_wp2
    go_ret
    exact ⟨rfl, B1.out⟩
  · by_cases h2 : 40 < t.size
    · go_wp2
      go_ret
      exact ⟨rfl, B1.out⟩
    · go_wp2
      go_loop [5] (fun x => ∃ k : Nat, k ≤ n ∧ x = .int .i64 (k : Int) ∧ ∀ g ∈ gs.take k, g.2.length ≤ 1000) (fun x => n - (intOf x).toNat)
      case atStart => exact ⟨0, Nat.zero_le _, rfl, fun g hg => by simp at hg⟩
      case round =>
        obtain ⟨k, hk, rfl, hm⟩ := hrel
        by_cases hlt : k < n
        · obtain ⟨g, o, z, l, A', n', c', rfl, hz, g0, g1, hs⟩ := H1.out.at_ hlt
          have hln := hs.nlen
          have hnc' := hs.1
          have hcc' := hs.2.1
          by_cases h3 : 40 < n'
          · clear hm hz hs hln
            go_wp2
            go_ret
            exact ⟨rfl, B1.out⟩
          · have Hm := hide (show ∀ g ∈ gs.take (k + 1), g.2.length ≤ 1000 from fun y hy => by
              obtain ⟨hk', e'⟩ := List.getElem?_eq_some_iff.1 hz
              rw [List.take_succ_eq_append_getElem hk', List.mem_append, List.mem_singleton, e'] at hy
              rcases hy with hy | rfl
              · exact hm y hy
              · show l.length ≤ 1000
                omega)
            clear hm hz hs hln
            go_wp2
            go_round
            case rel => exact ⟨k + 1, by omega, by go_num, Hm.out⟩
            case measure => simp [intOf]; omega
        · rw [List.take_of_length_le (by rw [Hlen.out]; omega)] at hm
          have Hm := hide hm
          obtain ⟨L, hL⟩ : ∃ L, candS gs t.data.toList = L := ⟨_, rfl⟩
          obtain ⟨b, hb⟩ : ∃ b, decide (3 ≤ t.size) = b := ⟨_, rfl⟩
          have HL := hide hL
          have HB := hide hb
          clear hm hL hb
          go_wp2_with fail
          with_reducible refine (CC.out.cand A n c gs t _ H1.out (by omega) Hm.out Hw.out (by omega)).mono ?_
          rw [HL.out, HB.out]
          rintro e w2 ⟨A1, n1, c1, rfl, h2, h1⟩
          have B2 := hide (bgo B1.out h1)
          have H2 := hide (H1.out.below h1)
          have S2 := hide h2
          clear h1 h2 B1 H1
          go_wp2_with fail
          with_reducible refine (rcand21 A n c gs t _ H2.out (fun g hg => Nat.le_trans (Hm.out g hg) (by decide)) Hw.out (by omega)).mono ?_
          rw [HL.out, HB.out]
          rintro e w3 ⟨A2, n2, c2, rfl, h2, h1⟩
          have B3 := hide (bgo B2.out h1)
          have S3 := hide (S2.out.below h1)
          have T3 := hide h2
          clear h1 h2 B2 S2 H2
          go_wp2_with fail
          with_reducible refine (rsame11 A1 A2 n1 c1 n2 c2 L _ S3.out T3.out).mono ?_
          rintro e w4 ⟨rfl, h1⟩
          have B4 := hide (B3.out.trans (h1.below _))
          clear h1 B3 S3 T3
          go_wp2
          go_ret
          exact ⟨ret_bool (by simp), B4.out⟩

/-! ### the reference's Fold -/
theorem infoB : (Try.prog.info? 5).map (fun i => (i.zero, i.size, i.bytes)) = some (some (.int .u8 0), 1, 1) := by kernel_rfl
theorem fold_snoc (s : ByteArray) (k : Nat) (h : k < s.size) (x : Nat) (hx : (fld s[k]).toNat = x) : byteCells ((s.data.toList.map fld).take k) ++ [.int .u8 (x : Int)] = byteCells ((s.data.toList.map fld).take (k + 1)) := by
  have e : s.data.toList.take (k + 1) = s.data.toList.take k ++ [s[k]] := by
    rw [List.take_succ_eq_append_getElem (by simpa using h)]; rfl
  rw [← List.map_take, ← List.map_take, e, List.map_append, Go.Lib.byteCells_append, ← hx]
  rfl

set_option maxRecDepth 20000 in
set_option maxHeartbeats 800000 in
theorem rfold24 (s : ByteArray) (w : World) (hs : s.size ≤ 100000) : Calls Try.prog 24 #[.string s] w fun e w' => e = .returned (.string (foldS s)) ∧ Below w.heap.size w w' := by
  obtain ⟨i0, hi, hz0, hz1, hz2⟩ := info_parts infoB
  go_enter Try.func24, Try.ntmps24
  go_wp2
  go_loopw [3, 4] (fun v x wr => ∃ k : Nat, k ≤ s.size ∧ x = .int .i64 (k : Int) ∧ Own wr w.heap.size 5 v (byteCells ((s.data.toList.map fld).take k)) ∧ Below w.heap.size w wr) (fun _ x _ => s.size - (intOf x).toNat)
  case atStart => exact ⟨0, Nat.zero_le _, rfl, World.ownsRow_nil _ _ _ _, Below.refl _ _⟩
  case round =>
    obtain ⟨k, hk, rfl, ho, hb⟩ := hrel
    obtain ⟨v, hvv⟩ : ∃ v, v = u3 := ⟨u3, rfl⟩
    subst hvv
    have O := hide ho
    have B := hide hb
    have hsz := hb.size
    have hl : (byteCells ((s.data.toList.map fld).take k)).length ≤ 100000 := by rw [bytes_size, List.length_take]; omega
    clear ho hb
    by_cases hlt : k < s.size
    · obtain ⟨x, hx⟩ : ∃ x, (fld s[k]).toNat = x := ⟨_, rfl⟩
      have E := hide (fold_snoc s k hlt x hx)
      have Hx := hide hx
      clear hx
      go_wp2_with fail
      with_reducible refine (fold23 s[k] x Hx.out _).mono ?_
      rintro e w' ⟨rfl, rfl⟩
      go_wp2_with (at_builtin; refine wp_push rfl (.tmp 11) (.tmp 16) 56 rfl 5 i0 (.int .u8 0) 1 Try.underlying56 hi hz0 hz1 hz2 rfl w.heap.size _ (byteCells ((s.data.toList.map fld).take k)) rfl _ _ rfl O.out.src hsz _ rfl rfl (by omega) (by unfold maxLen; omega) ?_)
      intro v' w5 ho5 hb5
      rw [E.out] at ho5
      have O5 := hide ho5
      have B5 := hide (B.out.trans hb5)
      clear ho5 hb5
      go_wp2
      go_roundw
      case rel => exact ⟨k + 1, by omega, by go_num, O5.out, B5.out⟩
      case measure => simp [intOf]; omega
    · have hall : (s.data.toList.map fld).take k = s.data.toList.map fld := List.take_of_length_le (by rw [List.length_map, size_list]; omega)
      have ho := O.out
      rw [hall] at ho
      obtain ⟨A, c', rfl, hsl⟩ := ho.sl
      have kc := conv_run hsl.reads 56 9 5 (c := c') Try.underlying56 Try.underlying5 Try.underlying9 (fun e => by
        have h1 := hsl.2.2.1 e
        have h2 := hsl.1
        omega)
      clear ho hsl hall
      go_wp2
      go_ret
      exact ⟨rfl, B.out⟩

end Go.Proofs.Ytdneoeiggebijaa
