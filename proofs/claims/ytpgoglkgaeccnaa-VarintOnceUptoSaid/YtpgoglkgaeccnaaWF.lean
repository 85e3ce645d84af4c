/- Walks of the laws on GetString, GetList and on how short Put is. -/
import Derived.Test.YtpgoglkgaeccnaaWE
namespace Go.Proofs.Ytpgoglkgaeccnaa
open Go.RowKit
open Go.Lib (byteCells strCells)

theorem same22' (A A' : Option Addr) (n c n' c' : Nat) (xs : List Int) (w : World) (h : Sl w A n c (numCells xs)) (h' : Sl w A' n' c' (numCells xs)) :
    Calls Try.prog 22 #[.slice A n c, .slice A' n' c'] w fun e w' => e = .returned (.bool true) ∧ Drawn w w' := by
  have e : n' = n := by rw [← h.nlen, h'.nlen]
  subst e
  exact same22 A A' n' c c' xs w h h'

theorem got_sl {w w' : World} {r : List Int × Nat × Nat} {e : Ending} (h : GotL w r e w') : ∃ A m c, e = .returned (.tuple #[.slice A m c, .int .i64 (r.2.1 : Int), .int .i64 (r.2.2 : Int)]) ∧ Sl w' A m c (numCells r.1) ∧ Below w.heap.size w w' := by
  obtain ⟨v, rfl, ho, hb⟩ := h
  obtain ⟨A, c, rfl, hs⟩ := ho.sl
  exact ⟨A, _, c, rfl, hs, hb⟩

set_option maxRecDepth 20000 in
set_option maxHeartbeats 1600000 in
theorem law5 (A : Option Addr) (n c : Nat) (l : List UInt8) (i most : Int) (w : World) (h : Sl w A n c (byteCells l)) (hn : n ≤ 1048576) :
    Calls Try.prog 5 #[.slice A n c, .int .i64 i, .int .i64 most] w fun e w' => e = .returned (.bool true) ∧ Below w.heap.size w w' := by
  have H := hide h
  clear h
  obtain ⟨⟨s, nx, er⟩, hg⟩ : ∃ g, getS l i most = g := ⟨_, rfl⟩
  obtain ⟨⟨xs, nx2, er2⟩, hg2⟩ : ∃ g, getL l i most = g := ⟨_, rfl⟩
  have Hg := hide hg
  have Hg2 := hide hg2
  clear hg hg2
  go_enter Try.func5, Try.ntmps5
  go_wp2_with fail
  refine (alive10 w).mono ?_
  rintro e w1 ⟨rfl, hb1⟩
  have B1 := hide hb1
  have H1 := hide (H.out.below hb1)
  clear hb1
  go_wp2_with fail
  refine (gets18 A n c l _ H1.out i most).mono ?_
  rintro e w2 ⟨rfl, rfl⟩
  rw [Hg.out]
  unfold getSV
  go_wp2_with fail
  refine (rgets19 A n c l _ H1.out i most).mono ?_
  rintro e w2 ⟨rfl, rfl⟩
  rw [Hg.out]
  unfold getSV
  go_wp2_with fail
  refine (getl20 A n c l _ H1.out (by omega) i most).mono ?_
  intro e w3 hgr
  rw [Hg2.out] at hgr
  obtain ⟨A3, m3, c3, rfl, hs3, hb3⟩ := got_sl hgr
  have S3 := hide hs3
  have B3 := hide (bgo B1.out hb3)
  have H3 := hide (H1.out.below hb3)
  clear hgr hs3 hb3 B1
  go_wp2_with fail
  refine (rgetl21 A n c l _ H3.out (by omega) i most).mono ?_
  intro e w4 hgr
  rw [Hg2.out] at hgr
  obtain ⟨A4, m4, c4, rfl, hs4, hb4⟩ := got_sl hgr
  have S3' := hide (S3.out.below hb4)
  have S4 := hide hs4
  have B4 := hide (bgo B3.out hb4)
  clear hgr hs4 hb4 B3
  go_wp2_with fail
  refine (same22' A3 A4 _ c3 _ c4 xs _ S3'.out S4.out).mono ?_
  rintro e w5 ⟨rfl, hd⟩
  have B5 := hide (B4.out.trans (hd.below _))
  clear hd
  go_wp2
  go_ret
  exact ⟨ret_bool (by simp), B5.out⟩

theorem Reads.drewN {w : World} {B n : Nat} {A : Option Addr} {xs : List Value} (h : Reads w B A n xs) (k : Nat) : Reads (w.drewN k) B A n xs := h.keep fun _ _ => by simp
theorem Sl.drewN {w : World} {A : Option Addr} {n c : Nat} {xs : List Value} (h : Sl w A n c xs) (k : Nat) : Sl (w.drewN k) A n c xs := h.below (Drawn.below ⟨k, rfl⟩ _)

theorem enc_len_eq (m : Nat) : (enc m).length = 1 + (if m / 128 = 0 then 0 else (enc (m / 128)).length) := by
  by_cases h : m < 128
  · rw [enc_low m h, if_pos (by omega)]; rfl
  · rw [enc_high m h, if_neg (by omega), List.length_cons]; omega

set_option maxRecDepth 20000 in
set_option maxHeartbeats 1600000 in
theorem law9 (A : Option Addr) (n c : Nat) (l : List UInt8) (i : Int) (w : World) (h : Sl w A n c (byteCells l)) (hi : -9223372036854775808 ≤ i ∧ i ≤ 9223372036854775807) :
    Calls Try.prog 9 #[.slice A n c, .int .i64 i] w fun e w' => e = .returned (.bool true) ∧ Below w.heap.size w w' := by
  have hnc := h.1
  have hc := h.2.1
  have hlen := h.len
  have Hlen := hide hlen
  have H := hide h
  clear h hlen
  by_cases hbig : 10000 < n
  · go_enter Try.func9, Try.ntmps9
    go_wp2_with fail
    refine (alive10 w).mono ?_
    rintro e w1 ⟨rfl, hb1⟩
    have B1 := hide hb1
    clear hb1
    go_wp2
    go_ret
    exact ⟨rfl, B1.out⟩
  · obtain ⟨N, hN⟩ : ∃ N : Nat, max i 0 = (N : Int) := ⟨i.toNat, by omega⟩
    have hN2 : i.toNat = N := by omega
    have hNb : (N : Int) ≤ 9223372036854775807 := by omega
    have H9 := enc_len9 N (by omega)
    have HN2 := hide hN2
    clear hN2
    go_enter Try.func9, Try.ntmps9
    go_wp2_with fail
    refine (alive10 w).mono ?_
    rintro e w1 ⟨rfl, hb1⟩
    have B1 := hide hb1
    have H1 := hide (H.out.below hb1)
    clear hb1
    go_wp2
    go_loop [5, 6] (fun u v => ∃ j m : Nat, u = .int .i64 j ∧ v = .int .i64 m ∧ 1 ≤ j ∧ (m : Int) ≤ 9223372036854775807 ∧ (enc N).length = j + (if m = 0 then 0 else (enc m).length)) (fun _ v => (intOf v).toNat)
    case atStart => exact ⟨1, N / 128, rfl, by simp, by omega, by omega, enc_len_eq N⟩
    case round =>
      obtain ⟨j, m, rfl, rfl, hj, hm, he⟩ := hrel
      by_cases hm0 : m = 0
      · subst hm0
        rw [if_pos rfl, Nat.add_zero] at he
        have He := hide he
        clear he
        go_wp2_with fail
        refine (put12 A n c l i _ H1.out hi.2 (by omega)).mono ?_
        intro e w2 hgr
        obtain ⟨A2, m2, c2, rfl, hs2, hb2⟩ := sl_of hgr
        have hl2 := hs2.len
        rw [List.length_append, Hlen.out, HN2.out, He.out] at hl2
        have htk := hs2.reads.take (k := n) (by omega)
        rw [← bytes_take, List.take_left' Hlen.out] at htk
        have hc2 := hs2.2.1
        have hmc2 := hs2.1
        have hcv := fun k => conv_run (P := Try.prog) (c := c2) (htk.drewN k) 22 9 5 Try.underlying22 Try.underlying5 Try.underlying9 (fun e => by have := hs2.2.2.1 e; omega)
        have hcv2 := fun k => ((H1.out.below hb2).drewN k).conv
        have B2 := hide (bgo B1.out hb2)
        have hw1 : IntKind.i64.wrap ((n : Int) + (j : Int)) = (m2 : Int) := by rw [IntWalk.i64_in _ (by omega)]; omega
        have hnm : n ≤ m2 := by omega
        have hnc2 : n ≤ c2 := by omega
        have hnc3 : (n : Int) ≤ (c2 : Int) := by omega
        clear hgr hs2 hb2 htk hl2
        go_wp2
        go_quiet (fail)
        go_wp2
        go_ret
        exact ⟨rfl, bdr B2.out _⟩
      · have hmp : 0 < m := by omega
        have hst := enc_len_eq m
        rw [if_neg hm0] at he
        have hnx : (enc N).length = (j + 1) + (if m / 128 = 0 then 0 else (enc (m / 128)).length) := by omega
        have Hnx := hide hnx
        have hj9 : j ≤ 9 := by omega
        clear hst he hnx hm0
        go_wp2
        go_round
        case rel => exact ⟨j + 1, m / 128, by go_num, by simp, by omega, by omega, Hnx.out⟩
        case measure => simp [intOf]; omega

end Go.Proofs.Ytpgoglkgaeccnaa
