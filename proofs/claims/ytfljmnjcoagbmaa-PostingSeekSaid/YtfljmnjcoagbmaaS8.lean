/- Walk of layer 5's program: AtLeast. -/
import Derived.Test.YtfljmnjcoagbmaaSk
import Derived.Test.YtfljmnjcoagbmaaSm
namespace Go.Proofs.Ytfljmnjcoagbmaa
open Go.RowKit Go.Maps

theorem keyed3 : Keyed Try.prog 3 := int_keyed Try.underlying3
theorem zero3 (w : World) : (zeroValue 3).run Try.prog w = .ok (.int .i64 0) w := by kernel_rfl

set_option maxRecDepth 100000 in
set_option maxHeartbeats 6400000 in
theorem least20 (A : Option Addr) (n c : Nat) (ls : List (List Int)) (k : Int) (w : World) (h : RowsI w A n c ls) (hn : n ≤ 1000) (hls : ∀ l ∈ ls, l.length ≤ 1000) (hwf : ∀ l ∈ ls, ∀ z ∈ l, (Lit.int .i64 z).wf = true) :
    Calls Try.prog 20 #[.int .i64 k, .slice A n c] w (GrewI w (leastS k ls)) := by
  obtain ⟨i0, hi, hz0, hz1, hz2⟩ := info_parts info3
  have hmm := @run_makeMap Try.prog
  have Hlen := hide h.2.2.1
  have hnc := h.1
  have hcc := h.2.1
  have H := hide h
  have Hls := hide hls
  have Hwf := hide hwf
  clear h hls hwf
  go_enter Try.func20, Try.ntmps20
  go_wp2
  go_loopw [16] (fun x wr => ∃ j : Nat, j ≤ n ∧ x = .int .i64 (j : Int) ∧ (∃ D : DataW Unit, wr.ownsMap Try.prog 3 (plainElem Try.prog 3) w.heap.size (1000 * j) D ∧ Counts D (inP (ls.take j))) ∧ Below w.heap.size w wr) (fun x _ => n - (intOf x).toNat)
  case atStart => exact ⟨0, Nat.zero_le _, rfl, ⟨.map [], World.ownsMap_made _ _ _ _, Counts.start.same fun y => by simp [inP]⟩, (Below.refl _ _).alloc (Nat.le_refl _) _⟩
  case round =>
    obtain ⟨j, hj, rfl, ⟨D, hown, hct⟩, hbel⟩ := hrel
    obtain ⟨w1, hw1⟩ : ∃ w1, w1 = wr := ⟨wr, rfl⟩
    subst hw1
    have hsz := hbel.size
    have Ho := hide hown
    have Hc := hide hct
    have B := hide hbel
    by_cases hlt : j < n
    · obtain ⟨ad, A1, n1, c1, l, rfl, hl, hcell, hs1⟩ := (H.out.below hbel).at_ hlt
      have hjn : (j : Int) < (n : Int) := by omega
      have hll := Hls.out l (List.mem_of_getElem? hl)
      have hwl := Hwf.out l (List.mem_of_getElem? hl)
      have hl1 := hs1.nlen
      have S1 := hide hs1
      have Hl := hide hl
      have Hwl := hide hwl
      have hsl := sortU_len l
      clear hown hct hbel hs1 hl hwl
      go_wp2_with fail
      with_reducible refine (set37 A1 n1 c1 l _ S1.out (by omega)).mono ?_
      rintro e w2 hg
      obtain ⟨A2, m, c2, rfl, hm, hs2, hb2⟩ := hg.sl
      have hm1 : m ≤ 1000 := by rw [hm]; omega
      have O2 := hide (ownsMap_below Ho.out hb2)
      have S2 := hide hs2
      have B2 := hide (B.out.trans (hb2.mono B.out.size))
      have Hm := hide hm.symm
      have hmc := hs2.1
      have hcc2 := hs2.2.1
      clear hg hs2 hb2 hm Ho S1 hsl
      go_wp2
      go_loopw [23] (fun x wr => ∃ i : Nat, i ≤ m ∧ x = .int .i64 (i : Int) ∧ Sl wr A2 m c2 (numCells (sortU l)) ∧ (∃ D : DataW Unit, wr.ownsMap Try.prog 3 (plainElem Try.prog 3) w.heap.size (1000 * j + i) D ∧ Counts D (cntF ls (sortU l) j i)) ∧ Below w.heap.size w wr) (fun x _ => m - (intOf x).toNat)
      case atStart => exact ⟨0, Nat.zero_le _, rfl, S2.out, ⟨D, O2.out, Hc.out.same fun y => cnt_zero ls _ j y⟩, B2.out⟩
      case round =>
        clear O2 B2 S2 Hc
        obtain ⟨i, hi', rfl, hs, ⟨D, hown, hct⟩, hbel⟩ := hrel
        obtain ⟨w3, hw3⟩ : ∃ w3, w3 = wr := ⟨wr, rfl⟩
        subst hw3
        have hsz3 := hbel.size
        have Ho := hide hown
        have Hc := hide hct
        have B3 := hide hbel
        have S3 := hide hs
        by_cases hlt2 : i < m
        · obtain ⟨ad2, x, rfl, hx, hcx⟩ := num_cell hs.reads hlt2
          have him : (i : Int) < (m : Int) := by omega
          have hwx := Hwl.out x ((mem_sort l x).1 (List.mem_of_getElem? hx))
          obtain ⟨f, hf⟩ : ∃ f, cntF ls (sortU l) j i x = f := ⟨_, rfl⟩
          have hfl := cnt_le ls (sortU l) j i x n Hlen.out
          rw [hf] at hfl
          have hfl2 : f ≤ 1001 := by omega
          have Hx := hide hx
          have Hf := hide hf
          clear hown hct hbel hs hx hf hfl
          go_wp2_with (first
            | (at_lookup; refine wpList_lookup_own_int _ rfl _ _ 46 rfl 3 3 .i64 keyed3 Try.underlying46 Try.underlying3 (zero3 _) w.heap.size _ _ rfl Ho.out _ _ rfl (keyOf_int_mk Try.underlying3 hwx) ?_; intro c0 hat hwc; obtain rfl : c0 = (f : Int) := (Hc.out.is hat).trans (congrArg _ Hf.out); clear hat)
            | (at_mapUpdate; refine wpList_mapUpdate_own _ rfl _ _ _ 46 rfl 3 3 keyed3 Try.underlying46 _ w.heap.size _ _ rfl Ho.out (by unfold maxLen; omega) _ _ _ rfl rfl (keyOf_int_mk Try.underlying3 hwx) _ [] (plainElem_int Try.underlying3 (WalkArith.wf_i64 (by omega))) ?_; intro w4 hown4 hg4)
            | go_in)
          have S4 := hide (S3.out.turned Ho.out hg4)
          have B4 := hide (B3.out.grown hg4 hsz3 fun g hg => by cases hg; exact Nat.le_refl _)
          have C4 := hide (Hc.out.put (G := cntF ls (sortU l) j (i + 1)) x f Hf.out fun y => by rw [cnt_step ls (sortU l) j i x (up_sort l) Hx.out y, Hf.out])
          have O4 := hide hown4
          clear hown4 hg4
          go_roundw
          case rel => exact ⟨i + 1, by omega, by go_num, S4.out, ⟨_, by rw [show 1000 * j + (i + 1) = 1000 * j + i + 1 by omega]; exact O4.out, C4.out⟩, B4.out⟩
          case measure => simp [intOf]; omega
        · obtain rfl : i = m := by omega
          have C4 := hide (Hc.out.same fun y => (cnt_end ls l j i Hl.out Hm.out y).symm)
          clear hown hct hbel hs
          go_wp2
          go_roundw
          case rel => exact ⟨j + 1, by omega, by go_num, ⟨D, Ho.out.mono (by omega), C4.out⟩, B3.out⟩
          case measure => simp [intOf]; omega
    · obtain rfl : j = n := by omega
      have hct2 := hct
      rw [List.take_of_length_le (by rw [Hlen.out]; exact Nat.le_refl _)] at hct2
      have Hc2 := hide hct2
      have hDs := hown.size_le
      have hbl := hown.lt
      clear hct hct2 hbel hown Hc
      go_wp2_with (first
        | (at_range; refine wpList_range_own _ rfl _ 46 rfl 3 3 keyed3 Try.underlying46 _ w.heap.size _ _ rfl Ho.out ?_; intro w2 hrg2 hg2 hs2)
        | go_in)
      go_frame
      have B2 := hide (B.out.grown hg2 hsz fun g hg => by cases hg)
      clear hg2
      go_loopw [10] (fun v wr => ∃ (left : Lit → Bool) (cnt : Nat) (out : List Int), wr.ranges Try.prog 3 (plainElem Try.prog 3) w.heap.size w1.heap.size (1000 * j) D left cnt ∧ Own wr (w1.heap.size + 1) 3 v (numCells out) ∧ Coll D (inP ls) k left out ∧ out.length + cnt ≤ size D ∧ Below w.heap.size w wr ∧ w1.heap.size + 1 ≤ wr.heap.size) (fun _ wr => wr.rangeLeft w.heap.size w1.heap.size)
      case atStart => exact ⟨has D, size D, [], hrg2, World.ownsRow_nil _ _ _ _, Coll.start D _ k, by simp, B2.out, by omega⟩
      case round =>
        clear hrg2 hs2 B2 Ho B
        obtain ⟨left, cnt, out, hrg, hown, hcoll, hlen, hbel, hsz3⟩ := hrel
        obtain ⟨w3, hw3⟩ : ∃ w3, w3 = wr := ⟨wr, rfl⟩
        subst hw3
        obtain ⟨v, hvv⟩ : ∃ v, v = u10 := ⟨u10, rfl⟩
        subst hvv
        have Hcoll := hide hcoll
        have B3 := hide hbel
        have O3 := hide hown
        have hsz4 := hbel.size
        have hnl := num_len out
        clear hcoll hbel hown
        go_wp2_with (first
          | (at_next; refine wpList_next_ranges_ii _ rfl _ rfl 3 3 .i64 .i64 keyed3 Try.underlying3 Try.underlying3 w.heap.size w1.heap.size _ _ _ _ rfl hrg ?_ ?_)
          | go_in)
        · intro _ hl0
          have Hs := hide (Hcoll.out.sorted Hc2.out hl0)
          have hor : w3.ownsRow (w1.heap.size + 1) 3 1 v out.length (out.map (Value.int .i64)) := by
            have := O3.out
            unfold Own at this
            rw [num_len] at this
            exact this
          have HO := hide hor
          clear hor hrg hl0
          go_wp2_with fail
          refine (sort38 v out.length out _ _ HO.out (by omega)).mono ?_
          rintro e w4 ⟨rfl, ho4, hb4⟩
          have O4 := hide ho4
          have B4 := hide (B3.out.trans (hb4.mono (by omega)))
          clear ho4 hb4
          go_wp2
          go_ret
          refine ⟨v, rfl, ?_, B4.out⟩
          rw [← Hs.out]
          have := O4.out
          unfold Own
          rw [num_len, srt_len]
          exact owns_mono this (by omega)
        · intro x c0 w4 cnt4 hwx hwc hlx hat hrg4 hlt4 hg4 hs4 hen
          have hc0 : c0 = (inP ls x : Int) := Hc2.out.is (hat _)
          have hhas : has D (.int .i64 x) = true := has_true_of_atKey hat
          have O4 := hide (O3.out.turned hg4 (by omega))
          have B4 := hide (B3.out.grown hg4 hsz4 fun g hg => by cases hg; omega)
          have hs4' : w1.heap.size + 1 ≤ w4.heap.size := by omega
          clear hs4
          by_cases hk : k ≤ c0
          · have C4 := hide (Hcoll.out.yes hlx hhas (by rw [← hc0]; exact hk))
            have R4 := hide hrg4
            have Rl := hide hrg.left_eq
            have hob : (numCells out).length ≤ 1000000 := by omega
            clear hc0 hhas hlx hat hrg4 hrg hg4
            go_wp2_with (first
              | (at_builtin; refine wp_push rfl (.tmp 43) (.tmp 45) 22 rfl 3 i0 (.int .i64 0) 8 Try.underlying22 hi hz0 hz1 hz2 rfl (w1.heap.size + 1) _ (numCells out) rfl _ _ rfl O4.out.src hs4' _ rfl rfl (by omega) (by unfold maxLen; omega) ?_)
              | go_in)
            intro v' w5 ho5 hb5
            rw [show numCells out ++ [Value.int .i64 x] = numCells (out ++ [x]) by rw [num_app]; rfl] at ho5
            have O5 := hide ho5
            have R5 := hide (ranges_below R4.out hb5 (by omega) (by omega))
            have B5 := hide (B4.out.trans (hb5.mono (by omega)))
            have hsz5 := hb5.size
            clear ho5 hb5
            go_wp2
            go_roundw
            case rel => exact ⟨_, cnt4, out ++ [x], R5.out, O5.out, C4.out, by rw [List.length_append, List.length_singleton]; omega, B5.out, by omega⟩
            case measure => rw [R5.out.left_eq, Rl.out]; exact hlt4
          · have C4 := hide (Hcoll.out.no (x := x) (by rw [← hc0]; exact hk))
            have R4 := hide hrg4
            have Rl := hide hrg.left_eq
            clear hc0 hhas hlx hat hrg4 hrg hg4
            go_wp2
            go_roundw
            case rel => exact ⟨_, cnt4, out, R4.out, O4.out, C4.out, by omega, B4.out, by omega⟩
            case measure => rw [R4.out.left_eq, Rl.out]; exact hlt4

end Go.Proofs.Ytfljmnjcoagbmaa
