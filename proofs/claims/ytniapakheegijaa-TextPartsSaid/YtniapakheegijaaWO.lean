/- The walk of the law that At and Off invert each other. -/
import Derived.Test.YtniapakheegijaaWL
namespace Go.Proofs.Ytniapakheegijaa
open Go.RowKit

def Inv8 (s : ByteArray) (w : World) (B5 : Nat) (ln col : Int) (k : Nat) (wr : World) : Prop :=
  TwoF wr B5 (.int .i64 (prevL s k)) (.int .i64 (prevC s k)) ∧ Two wr w.heap.size (.int .i64 ln) (.int .i64 col) ∧ Below w.heap.size w wr

theorem Inv8.step {s : ByteArray} {w wr w3 : World} {B5 : Nat} {ln col : Int} {k : Nat} (h : Inv8 s w B5 ln col k wr) (hB : w.heap.size < B5) (hb : Below wr.heap.size wr w3) :
    Inv8 s w B5 ln col (k + 1) ((w3.setCell ⟨B5, 0, none⟩ (.int .i64 (posL s k))).setCell ⟨B5, 1, none⟩ (.int .i64 (posC s k))) := by
  obtain ⟨h1, h2, h3⟩ := h
  refine ⟨(h1.keep hb).put _ _, ((h2.keep hb).far (by omega) _ _).far (by omega) _ _, ((h3.trans (hb.mono h3.size)).setCell ?_ _).setCell ?_ _⟩
  · show w.heap.size ≤ B5
    omega
  · show w.heap.size ≤ B5
    omega

set_option maxHeartbeats 1600000 in
theorem law8 (s : ByteArray) (ln col : Int) (w : World) (hreach : s.size ≤ 9223372036854775807) : Calls Try.prog 8 #[.string s, .agg #[.int .i64 ln, .int .i64 col]] w fun e w' => e = .returned (.bool true) ∧ Below w.heap.size w w' := by
  by_cases hbig : 2100 < s.size
  · go_enter Try.func8, Try.ntmps8
    go_wp2_with (go_at_call 11; refine (alive11 _).mono ?_; rintro e w1 ⟨rfl, hb1⟩)
    go_ret
    exact ⟨rfl, bgo (bnew (Below.refl _ _) _) hb1⟩
  · go_enter Try.func8, Try.ntmps8
    go_wp2_with fail
    refine (alive11 _).mono ?_
    rintro e w1 ⟨rfl, hb1⟩
    have hp1 := (two_alloc w (.int .i64 ln) (.int .i64 col) 32).keep hb1
    have hinv0 : Inv8 s w w1.heap.size ln col 0 (w1.alloc (.cells #[.int .i64 0, .int .i64 0] 32)) := ⟨twoF_alloc w1 _ _ 32, hp1.new _, bnew (bgo (bnew (Below.refl _ _) _) hb1) _⟩
    have hB := hp1.1
    have Hinv0 := hide hinv0
    clear hinv0 hp1 hb1
    go_wp2
    go_loopw [6] (fun i wr => ∃ k : Nat, k ≤ s.size ∧ i = .int .i64 k ∧ Inv8 s w w1.heap.size ln col k wr) (fun i _ => s.size - (intOf i).toNat)
    case atStart => exact ⟨0, Nat.zero_le _, rfl, Hinv0.out⟩
    case round =>
      obtain ⟨k, hk, rfl, hinv⟩ := hrel
      by_cases hlt : k < s.size
      · go_wp2_with fail
        refine (at22p s k _ (by omega) hlt).mono ?_
        rintro e w2 ⟨rfl, hb2⟩
        go_wp2_with fail
        refine (off24p s k _ (by omega) hlt).mono ?_
        rintro e w3 ⟨rfl, hb3⟩
        have hb : Below wr.heap.size wr w3 := bgo (bnew hb2 _) hb3
        have hstep := hinv.step hB hb
        have Hstep := hide hstep
        obtain ⟨⟨hz5, x0, x1⟩, f0, f1⟩ := hinv.1.keep hb
        obtain ⟨_, y0, y1⟩ := (two_alloc w2 (.int .i64 (posL s k)) (.int .i64 (posC s k)) 32).keep hb3
        clear hstep hinv hb hb2 hb3
        rcases pos_grow s k hlt with hg | ⟨hg1, hg2⟩
        · have d1 : (posL s k == prevL s k) = false := beq_eq_false_iff_ne.2 (by omega)
          go_wp2
          go_roundw
          case rel => exact ⟨k + 1, by omega, by go_num, Hstep.out⟩
          case measure => simp [intOf]; omega
        · have d0 : decide (posL s k < prevL s k) = false := by simp; omega
          have d1 : (posL s k == prevL s k) = true := beq_iff_eq.2 hg1
          have d2 : decide (posC s k ≤ prevC s k) = false := by simp; omega
          clear hg1
          go_wp2
          go_roundw
          case rel => exact ⟨k + 1, by omega, by go_num, Hstep.out⟩
          case measure => simp [intOf]; omega
      · obtain rfl : k = s.size := by omega
        obtain ⟨_, hp, hbw⟩ := hinv
        obtain ⟨pz, p0, p1⟩ := hp
        have Hbw := hide hbw
        clear hbw
        rcases off24q s ln col (by omega) with hC | ⟨m, hm, rfl, rfl, hC⟩
        · have HC := hide hC
          clear hC
          go_wp2_with fail
          refine (HC.out _).mono ?_
          rintro e w4 ⟨rfl, hb4⟩
          go_wp2
          go_ret
          exact ⟨rfl, bgo Hbw.out hb4⟩
        · have HC := hide hC
          clear hC
          go_wp2_with fail
          refine (HC.out _).mono ?_
          rintro e w4 ⟨rfl, hb4⟩
          have hp4 := (show Two wr w.heap.size (.int .i64 (posL s m)) (.int .i64 (posC s m)) from ⟨pz, p0, p1⟩).keep hb4
          clear p0 p1
          go_wp2_with fail
          refine (at22p s m _ (by omega) hm).mono ?_
          rintro e w5 ⟨rfl, hb5⟩
          obtain ⟨_, p0, p1⟩ := (hp4.keep hb5).new (.cells #[.int .i64 (posL s m), .int .i64 (posC s m)] 32)
          go_wp2
          go_ret
          exact ⟨rfl, bnew (bgo (bgo Hbw.out hb4) hb5) _⟩

end Go.Proofs.Ytniapakheegijaa
