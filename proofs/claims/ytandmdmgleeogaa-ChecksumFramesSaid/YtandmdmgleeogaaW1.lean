/- Walks: the first number of bytes. -/
import Derived.Test.YtandmdmgleeogaaW0
namespace Go.Proofs.Ytandmdmgleeogaa
open Go.RowKit
open Go.Lib (byteCells)

set_option maxRecDepth 20000 in
set_option maxHeartbeats 800000 in
theorem first34 (B : Nat) (A : Option Addr) (n c : Nat) (l : List UInt8) (w : World) (h : Reads w B A n (byteCells l)) (hn : n ≤ 9223372036854775807) :
    Calls Try.prog 34 #[.slice A n c] w fun e w' => e = .returned (.int .i64 (fnum l : Int)) ∧ w = w' := by
  have hlen : l.length = n := by rw [← bytes_size]; exact h.1
  have Hlen := hide hlen
  have H := hide h
  clear hlen h
  go_enter Try.func34, Try.ntmps34
  go_wp2
  go_loop [6] (fun i => ∃ k : Nat, k ≤ n ∧ i = .int .i64 k ∧ High l k) (fun i => n - (intOf i).toNat)
  case atStart => exact ⟨0, Nat.zero_le _, rfl, High.zero l⟩
  case round =>
    obtain ⟨k, hk, rfl, hi⟩ := hrel
    have Hi := hide hi
    clear hi
    by_cases hlt : k < n
    · obtain ⟨ad, b, rfl, hb, hc⟩ := H.out.byte hlt
      have Hb := hide hb
      clear hb
      have hbb : b.toNat < 256 := UInt8.toNat_lt b
      by_cases h128 : b.toNat < 128
      · go_wp2
        go_ret
        exact ⟨ret_int (by rw [fnum_at l k b Hi.out Hb.out h128]; omega), rfl⟩
      · have h128' : 128 ≤ b.toNat := by omega
        go_wp2
        go_round
        case rel => exact ⟨k + 1, by omega, by go_num, Hi.out.next Hb.out h128⟩
        case measure => simp [intOf]; omega
    · go_wp2
      go_ret
      exact ⟨ret_int (by rw [fnum_none l k Hi.out (by rw [Hlen.out]; omega)]; rfl), rfl⟩

end Go.Proofs.Ytandmdmgleeogaa
