/- Walk of layer 7's program: from one length that matches to the next (the closure in eachOccurrence). -/
import Derived.Test.YtdneoeiggebijaaL2
import Derived.Test.YtdneoeiggebijaaKmp
namespace Go.Proofs.Ytdneoeiggebijaa
open Go.RowKit

/-- What the closure's walk keeps. -/
structure Ext (t : ByteArray) (bs : List Int) (y : UInt8) (r : Int) (Q : Int → Prop) : Prop where
  lo : ∀ z, Q z → -1 ≤ z
  ins : ∀ j : Nat, Q (j : Int) → j < t.size ∧ j < bs.length
  step : ∀ (j : Nat) (b : Int) (h : j < t.size), Q (j : Int) → t[j] ≠ y → bs[j]? = some b → Q b ∧ b < (j : Int)
  done : ∀ (j : Nat) (h : j < t.size), Q (j : Int) → t[j] = y → r = (j : Int) + 1
  none : Q (-1) → r = 0

set_option maxRecDepth 20000 in
set_option maxHeartbeats 1600000 in
theorem ext41 (Bl Bb : Nat) (t : ByteArray) (A : Option Addr) (m c : Nat) (bs : List Int) (y : UInt8) (r x : Int) (Q : Int → Prop) (w : World)
    (hl : w.cell? ⟨Bl, 0, none⟩ = some (.string t)) (hb : w.cell? ⟨Bb, 0, none⟩ = some (.slice A m c)) (hs : Sl w A m c (numCells bs)) (ht : t.size ≤ 100000) (hE : Ext t bs y r Q) (hx : Q x) :
    Calls Try.prog 41 #[.int .i64 x, .int .u8 (y.toNat : Int), .pointer (some ⟨Bl, 0, none⟩), .pointer (some ⟨Bb, 0, none⟩)] w fun e w' => e = .returned (.int .i64 r) ∧ w = w' := by
  have E := hide hE
  have S := hide hs
  have Hx := hide hx
  have Hlen := hide hs.nlen
  have hmc := hs.1
  clear hE hs hx
  go_enter Try.func41, Try.ntmps41
  go_wp2
  go_loop [0] (fun u => ∃ z : Int, u = .int .i64 z ∧ Q z) (fun u => (intOf u + 1).toNat)
  case atStart => exact ⟨x, rfl, Hx.out⟩
  case round =>
    obtain ⟨z, rfl, hq⟩ := hrel
    have hlo := E.out.lo z hq
    have Hq := hide hq
    clear hq
    by_cases hneg : z = -1
    · subst hneg
      have Hr := hide (E.out.none Hq.out)
      go_wp2
      go_ret
      exact ⟨ret_int Hr.out.symm, rfl⟩
    · obtain ⟨j, rfl⟩ : ∃ j : Nat, z = (j : Int) := ⟨z.toNat, by omega⟩
      obtain ⟨hj, hjb⟩ := E.out.ins j Hq.out
      have hjm : j < m := by rw [Hlen.out] at hjb; exact hjb
      have hge : decide ((j : Int) ≥ 0) = true := decide_eq_true (by omega)
      by_cases he : t[j] = y
      · have Hr := hide (E.out.done j hj Hq.out he)
        have hne : ((t[j].toNat : Int) != (y.toNat : Int)) = false := by rw [he]; simp
        have hlt : (j : Int) < 9223372036854775807 := by omega
        clear he
        go_wp2
        go_ret
        exact ⟨ret_int Hr.out.symm, rfl⟩
      · have hne : ((t[j].toNat : Int) != (y.toNat : Int)) = true := by
          rw [bne_iff_ne]
          intro h
          exact he (UInt8.toNat_inj.1 (by omega))
        obtain ⟨ad, b, rfl, hbz, hcell⟩ := num_cell S.out.reads hjm
        obtain ⟨hqb, hbl⟩ := E.out.step j b hj Hq.out he hbz
        have Hqb := hide hqb
        have hbo := E.out.lo b hqb
        clear he hbz hqb
        go_wp2
        go_round
        case rel => exact ⟨b, rfl, Hqb.out⟩
        case measure => simp [intOf]; omega

end Go.Proofs.Ytdneoeiggebijaa
