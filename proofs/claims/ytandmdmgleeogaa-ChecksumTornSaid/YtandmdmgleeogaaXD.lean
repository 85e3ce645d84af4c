/- Walk of the law on frames that are cut off. -/
import Derived.Test.YtandmdmgleeogaaXC
import Derived.Test.YtandmdmgleeogaaAt
import Derived.Test.YtandmdmgleeogaaPt
namespace Go.Proofs.Ytandmdmgleeogaa
open Go.RowKit
open Go.Lib (byteCells)

theorem Sl.upto {w : World} {A : Option Addr} {n c : Nat} {l : List UInt8} (h : Sl w A n c (byteCells l)) {k : Nat} (hk : k ≤ n) : Sl w A k c (byteCells (l.take k)) := by
  have ht := h.reads.take hk
  rw [← bytes_take] at ht
  exact ⟨Nat.le_trans hk h.1, h.2.1, h.2.2.1, ht⟩
theorem nums_len (l : List Nat) : (nums l).length = l.length := by simp [nums]
/-- The ends of the first i frames. -/
def endsP (L : List (List UInt8)) (i : Nat) : List Nat := (List.range i).map fun j => endP L (j + 1)
theorem ends_len (L : List (List UInt8)) (i : Nat) : (endsP L i).length = i := by simp [endsP]
theorem ends_snoc (L : List (List UInt8)) (i m : Nat) (h : endP L (i + 1) = m) : nums (endsP L i) ++ [.int .i64 (m : Int)] = nums (endsP L (i + 1)) := by
  unfold endsP nums
  rw [List.range_succ, List.map_append, List.map_append, ← h]
  rfl
theorem ends_at {w : World} {A : Option Addr} {m c : Nat} {L : List (List UInt8)} {i : Nat} (h : Sl w A m c (nums (endsP L i))) {k : Nat} (hk : k < m) : ∃ ad, A = some ad ∧ w.cell? (ad.add k) = some (.int .i64 (endP L (k + 1) : Int)) := by
  obtain ⟨ad, u, hA, _, hu, hc⟩ := h.reads.at_ hk
  refine ⟨ad, hA, ?_⟩
  obtain ⟨a, ha, rfl⟩ := nums_get _ k u hu
  unfold endsP at ha
  rw [List.getElem?_map] at ha
  cases hr : (List.range i)[k]? with
  | none => rw [hr] at ha; simp at ha
  | some j =>
    rw [hr] at ha
    have hj : j = k := by
      have := (List.getElem?_eq_some_iff.1 hr).2
      simp at this
      exact this.symm
    subst hj
    simp at ha
    rw [ha]
    exact hc

set_option maxRecDepth 20000 in
set_option maxHeartbeats 6400000 in
theorem law9 (A : Option Addr) (n c : Nat) (fs : List ((Option Addr × Nat × Nat) × List UInt8)) (cut : Int) (w : World) (h : ArgRows w A n c fs) :
    Calls Try.prog 9 #[.slice A n c, .int .i64 cut] w fun e w' => e = .returned (.bool true) ∧ Below w.heap.size w w' := by
  obtain ⟨i0, hi, hz0, hz1, hz2⟩ := info_parts info5
  obtain ⟨i1, hj, hy0, hy1, hy2⟩ := info_parts info3
  have H := hide h
  have hnc := h.1
  have hcc := h.2.1
  obtain ⟨L, hL⟩ : ∃ L, fs.map Prod.snd = L := ⟨_, rfl⟩
  have hLn : L.length = n := by rw [← hL, List.length_map, h.2.2.1]
  have HL := hide hL
  have HLn := hide hLn
  clear h hL hLn
  by_cases hbig : 20 < n
  · go_enter Try.func9, Try.ntmps9
    go_wp2_with fail
    refine (alive10 w).mono ?_
    rintro e w1 ⟨rfl, hb1⟩
    have B1 := hide hb1
    clear hb1
    go_wp2
    go_ret
    exact ⟨rfl, B1.out⟩
  · go_enter Try.func9, Try.ntmps9
    go_wp2_with fail
    refine (alive10 w).mono ?_
    rintro e w1 ⟨rfl, hb1⟩
    have B1 := hide hb1
    clear hb1
    go_wp2
    go_loopw [5, 6, 7] (fun u v x wr => ∃ i : Nat, i ≤ n ∧ x = .int .i64 i ∧ (∀ b ∈ L.take i, b.length ≤ 60) ∧ Own wr w.heap.size 5 u (byteCells (sealsP (L.take i))) ∧ Own wr w.heap.size 3 v (nums (endsP L i)) ∧ (∀ g, v.ownBlock = some g → u.ownBlock ≠ some g) ∧ Below w.heap.size w wr) (fun _ _ x _ => n - (intOf x).toNat)
    case atStart => exact ⟨0, Nat.zero_le _, rfl, fun b hb => by simp at hb, World.ownsRow_nil _ _ _ _, World.ownsRow_nil _ _ _ _, fun g hg => by simp [Value.ownBlock] at hg, B1.out⟩
    case round =>
      clear B1
      obtain ⟨i, hin, rfl, h60, hown, hends, hap, hbel⟩ := hrel
      have hsz := hbel.size
      have Hown := hide hown
      have Hends := hide hends
      have Hap := hide hap
      have Hb := hide hbel
      have H60 := hide h60
      have hsl : (sealsP (L.take i)).length ≤ 73 * 20 := by
        have := endP_le (L.take i) h60
        rw [List.length_take] at this
        omega
      have H1 := hide (H.out.below hbel)
      clear hown hends hap hbel h60
      by_cases hlt : i < n
      · obtain ⟨ad, X, p, q, l, rfl, hl, hcell, hsx⟩ := H1.out.at_ hlt
        rw [HL.out] at hl
        by_cases hp : 60 < p
        · have hq := hsx.1
          clear hl hsx
          go_wp2
          go_ret
          exact ⟨rfl, Hb.out⟩
        · have Hsx := hide hsx
          have hsn := seals_snoc L i l hl
          have Hsn := hide hsn
          have hl60 : l.length ≤ 60 := by rw [hsx.len]; omega
          have h60' : ∀ b ∈ L.take (i + 1), b.length ≤ 60 := by
            intro b hb
            rw [List.take_succ_eq_append_getElem (List.getElem?_eq_some_iff.1 hl).1, (List.getElem?_eq_some_iff.1 hl).2] at hb
            rcases List.mem_append.1 hb with hb | hb
            · exact H60.out b hb
            · simp at hb; subst hb; exact hl60
          have H60' := hide h60'
          clear hl hsx hsn h60'
          go_wp2_with fail
          refine (seal16 X p q l _ Hsx.out (by omega)).mono ?_
          intro e w2 hg
          obtain ⟨A2, m2, c2, rfl, hm2, hs2, hb2⟩ := sl_of hg
          have hm2' : m2 ≤ 73 := by
            rw [hm2, seal_len, enc_low _ (by omega)]
            show 1 + l.length + 4 ≤ 73
            omega
          have S2 := hide hs2
          have Hown2 := hide (Hown.out.below hb2)
          have Hends2 := hide (Hends.out.below hb2)
          have B2 := hide (Hb.out.trans (hb2.mono hsz))
          have hsz2 := B2.out.size
          clear hg hm2 hs2 hb2 Hown Hends Hb
          go_wp2_with (at_builtin; refine wp_join_far rfl (.tmp 30) (.tmp 35) 23 rfl 5 i0 (.int .u8 0) 1 Try.underlying23 hi hz0 hz1 hz2 rfl w.heap.size _ (byteCells (sealsP (L.take i))) rfl _ Hown2.out hsz2 A2 m2 c2 (byteCells (sealP l)) rfl S2.out (bytes_one _) (by rw [bytes_size]; omega) (by rw [bytes_size]; unfold maxLen; omega) ?_)
          intro v3 w3 hown3 hb3 hf3
          rw [← Go.Lib.byteCells_append, ← Hsn.out] at hown3
          obtain ⟨hends3, hap3⟩ := Hends2.out.far hf3 Hap.out
          obtain ⟨A3, m3, c3, rfl, hm3, -⟩ := hown3.sl5
          have hE := ends_snoc L i m3 hm3.symm
          have HE := hide hE
          have Hown3 := hide hown3
          have Hends3 := hide hends3
          have Hap3 := hide hap3
          have B3 := hide (B2.out.trans hb3)
          have hsz3 := B3.out.size
          have hnl : (nums (endsP L i)).length ≤ 20 := by rw [nums_len, ends_len]; omega
          clear hown3 hb3 hf3 hends3 hap3 hm3 hE B2 Hends2 Hown2 S2
          go_wp2_with (at_builtin; refine wp_push_far rfl (.tmp 37) (.tmp 40) 44 rfl 3 i1 (.int .i64 0) 8 Try.underlying44 hj hy0 hy1 hy2 rfl w.heap.size _ (nums (endsP L i)) rfl _ _ rfl Hends3.out hsz3 _ rfl rfl (by omega) (by unfold maxLen; omega) _ ?_)
          intro v4 w4 hends4 hb4 hf4
          rw [HE.out] at hends4
          obtain ⟨hown4, hap4⟩ := Hown3.out.far hf4 (fun g hg he => Hap3.out g he hg)
          have Hown4 := hide hown4
          have Hends4 := hide hends4
          have hap5 : ∀ g, v4.ownBlock = some g → Value.ownBlock (.slice A3 m3 c3) ≠ some g := fun g hg he => hap4 g he hg
          have Hap4 := hide hap5
          have B4 := hide (B3.out.trans hb4)
          clear hends4 hb4 hf4 hown4 hap4 hap5 Hown3 Hends3 Hap3 B3
          go_wp2
          go_roundw
          case rel => exact ⟨i + 1, by omega, by go_num, H60'.out, Hown4.out, Hends4.out, Hap4.out, B4.out⟩
          case measure => simp [intOf]; omega
      · obtain rfl : i = n := by omega
        have ho2 := Hown.out
        have h60 := H60.out
        rw [List.take_of_length_le (by rw [HLn.out]; exact Nat.le_refl _)] at ho2 h60
        rw [List.take_of_length_le (by rw [HLn.out]; exact Nat.le_refl _)] at hsl
        obtain ⟨A5, m5, c5, rfl, hm5, hs5⟩ := ho2.sl5
        have S5 := hide hs5
        have hmc5 := hs5.1
        have hcm5 := hs5.2.1
        have hm5b : m5 ≤ 1460 := by omega
        obtain ⟨A6, c6, rfl, hs6⟩ := Hends.out.sl
        rw [nums_len, ends_len] at hs6
        have e6 : (nums (endsP L i)).length = i := by rw [nums_len, ends_len]
        rw [e6]
        have S6 := hide hs6
        have hmc6 := hs6.1
        have hcm6 := hs6.2.1
        have Hm5 := hide hm5
        have H60a := hide h60
        clear ho2 h60 hs5 hs6 hm5 Hown Hends Hap H60 hsl e6
        by_cases hc0 : cut < 0
        · go_wp2
          go_ret
          exact ⟨rfl, Hb.out⟩
        by_cases hc1 : (m5 : Int) < cut
        · go_wp2
          go_ret
          exact ⟨rfl, Hb.out⟩
        obtain ⟨r, rfl⟩ : ∃ r : Nat, cut = (r : Int) := ⟨cut.toNat, by omega⟩
        have hrm : r ≤ m5 := by omega
        obtain ⟨hW1, hW2, hW3, hW4⟩ := whole_span L r
        obtain ⟨W, hW⟩ : ∃ W, wholeP L r = W := ⟨_, rfl⟩
        have hall := all_torn 60 L [] r (r + i + 1) [] (fun b hb => by have := H60a.out b hb; exact ⟨by omega, by omega⟩) (by rw [← Hm5.out]; exact hrm) (by rw [HLn.out]; omega)
        simp only [List.nil_append, List.length_nil, Nat.zero_add] at hall
        rw [hW2] at hall
        rw [hW] at hW1 hW3 hW4 hall
        rw [HLn.out] at hW1 hW4
        have Hall := hide hall
        have HW3 := hide hW3
        have HW4 := hide hW4
        have S5' := hide (S5.out.upto hrm)
        clear hW hW2 hW3 hW4 hall
        go_wp2_with fail
        refine (all20 A5 r c5 _ _ S5'.out (by omega) 60 (r + i + 1) (by omega)).mono ?_
        rw [Hall.out]
        rintro e w7 ⟨v7, rfl, hr7, hb7⟩
        have hr7' : RowsL w7 wr.heap.size v7 (L.take W) := hr7
        obtain ⟨A7, m7, c7, hs7, rfl, hm7, hsl7, hmany7⟩ := hr7'.sl
        rw [List.length_take, HLn.out, Nat.min_eq_left hW1] at hm7
        subst hm7
        have hmc7 := hsl7.1
        have hcm7 := hsl7.2.1
        have S7 := hide hsl7
        have M7 := hide hmany7
        have S6' := hide (S6.out.below hb7)
        have B7 := hide (Hb.out.trans (hb7.mono hsz))
        have H7 := hide (H.out.below B7.out)
        clear hr7 hr7' hsl7 hmany7 hb7 Hb S6 S5 S5' H1 Hall
        go_wp2
        go_loop [10, 11] (fun u v => ∃ j : Nat, j ≤ m7 ∧ u = .int .i64 j ∧ v = .int .i64 (endP L j : Int)) (fun u _ => i - (intOf u).toNat)
        case atStart => exact ⟨0, Nat.zero_le _, rfl, rfl⟩
        case round =>
          obtain ⟨j, hjm, rfl, rfl⟩ := hrel
          by_cases hjl : j < m7
          · have hji : j < i := by omega
            obtain ⟨ad, rfl, hcell⟩ := ends_at S6'.out hji
            have hle : (endP L (j + 1) : Int) ≤ (r : Int) := by have := HW3.out j hjl; omega
            have hji' : (j : Int) < (i : Int) := by omega
            go_wp2
            go_round
            case rel => exact ⟨j + 1, by omega, by go_num, rfl⟩
            case measure => simp [intOf]; omega
          · obtain rfl : j = m7 := by omega
            by_cases hji : j < i
            · obtain ⟨ad, rfl, hcell⟩ := ends_at S6'.out hji
              have hgt : (r : Int) < (endP L (j + 1) : Int) := by have := HW4.out hji; omega
              have hgt' : ¬ (endP L (j + 1) : Int) ≤ (r : Int) := by omega
              have hji' : (j : Int) < (i : Int) := by omega
              go_wp2
              go_loopw [12] (fun x wr2 => ∃ k : Nat, k ≤ j ∧ x = .int .i64 k ∧ Drawn w7 wr2) (fun x _ => j - (intOf x).toNat)
              case atStart => exact ⟨0, Nat.zero_le _, rfl, Drawn.refl _⟩
              case round =>
                obtain ⟨k, hk, rfl, hd⟩ := hrel
                have Hd := hide hd
                have hbel := hd.below w7.heap.size
                clear hd
                by_cases hlt3 : k < j
                · obtain ⟨ad, X, p, q, l1, rfl, hl1, hsx, hcell⟩ := many_at (S7.out.below hbel) (M7.out.far (Far.of_below hbel)) hlt3
                  have hki : k < i := by omega
                  obtain ⟨ad', X', p', q', l2, rfl, hl2, hcell', hsx'⟩ := (H7.out.below hbel).at_ hki
                  rw [HL.out] at hl2
                  rw [List.getElem?_take, if_pos hlt3, hl2] at hl1
                  cases hl1
                  have Hx := hide hsx
                  have Hx' := hide hsx'
                  have hkm : (k : Int) < (j : Int) := by omega
                  have hki' : (k : Int) < (i : Int) := by omega
                  clear hl2 hbel hsx hsx'
                  go_wp2
                  go_quiet ((go_at_call 15; exact quiet_drawn (same15 _ _ _ _ _ _ _ _ (Hx.out.drewN _) (Hx'.out.drewN _))))
                  go_wp2
                  go_roundw
                  case rel => exact ⟨k + 1, by omega, by go_num, Hd.out.more _⟩
                  case measure => simp [intOf]; omega
                · clear hbel
                  go_wp2
                  go_ret
                  exact ⟨rfl, B7.out.trans (Hd.out.below _)⟩
            · have hji' : ¬ (j : Int) < (i : Int) := by omega
              go_wp2
              go_loopw [12] (fun x wr2 => ∃ k : Nat, k ≤ j ∧ x = .int .i64 k ∧ Drawn w7 wr2) (fun x _ => j - (intOf x).toNat)
              case atStart => exact ⟨0, Nat.zero_le _, rfl, Drawn.refl _⟩
              case round =>
                obtain ⟨k, hk, rfl, hd⟩ := hrel
                have Hd := hide hd
                have hbel := hd.below w7.heap.size
                clear hd
                by_cases hlt3 : k < j
                · obtain ⟨ad, X, p, q, l1, rfl, hl1, hsx, hcell⟩ := many_at (S7.out.below hbel) (M7.out.far (Far.of_below hbel)) hlt3
                  have hki : k < i := by omega
                  obtain ⟨ad', X', p', q', l2, rfl, hl2, hcell', hsx'⟩ := (H7.out.below hbel).at_ hki
                  rw [HL.out] at hl2
                  rw [List.getElem?_take, if_pos hlt3, hl2] at hl1
                  cases hl1
                  have Hx := hide hsx
                  have Hx' := hide hsx'
                  have hkm : (k : Int) < (j : Int) := by omega
                  have hki' : (k : Int) < (i : Int) := by omega
                  clear hl2 hbel hsx hsx'
                  go_wp2
                  go_quiet ((go_at_call 15; exact quiet_drawn (same15 _ _ _ _ _ _ _ _ (Hx.out.drewN _) (Hx'.out.drewN _))))
                  go_wp2
                  go_roundw
                  case rel => exact ⟨k + 1, by omega, by go_num, Hd.out.more _⟩
                  case measure => simp [intOf]; omega
                · clear hbel
                  go_wp2
                  go_ret
                  exact ⟨rfl, B7.out.trans (Hd.out.below _)⟩

end Go.Proofs.Ytandmdmgleeogaa
