/- Walks: digits decoded. -/
import Derived.Test.YtandmdmgleeogaaW1
namespace Go.Proofs.Ytandmdmgleeogaa
open Go.RowKit
open Go.Lib (byteCells)

theorem last_at (d : List UInt8) (k : Nat) (b : UInt8) (hk : k + 1 = d.length) (h : d[k]? = some b) : d.getLastD 0 = b := by
  rw [List.getLastD_eq_getLast?, List.getLast?_eq_getElem?, show d.length - 1 = k by omega, h]
  rfl
theorem decP_long (d : List UInt8) (h : 9 < d.length) : decP d = (0, 4) := by unfold decP; rw [if_pos h]
theorem decP_big (d : List UInt8) (h : ¬ 9 < d.length) (hb : 4611686018427387904 < dec d) : decP d = (0, 4) := by unfold decP big; rw [if_neg h, if_pos hb]
theorem decP_form (d : List UInt8) (h : ¬ 9 < d.length) (hb : ¬ 4611686018427387904 < dec d) (k : Nat) (hk : k + 1 = d.length) (h1 : 0 < k) (hl : d[k]? = some 0) : decP d = (0, 3) := by
  unfold decP big; rw [if_neg h, if_neg hb, if_pos ⟨by omega, last_at d k 0 hk hl⟩]
theorem decP_ok (d : List UInt8) (h : ¬ 9 < d.length) (hb : ¬ 4611686018427387904 < dec d) (hl : ∀ k b, k + 1 = d.length → 0 < k → d[k]? = some b → b ≠ 0) : decP d = (dec d, 0) := by
  unfold decP big; rw [if_neg h, if_neg hb, if_neg]
  rintro ⟨h1, h2⟩
  have hlt : d.length - 1 < d.length := by omega
  have he : d[d.length - 1]? = some d[d.length - 1] := List.getElem?_eq_getElem hlt
  have := last_at d (d.length - 1) _ (by omega) he
  rw [h2] at this
  exact hl (d.length - 1) _ (by omega) (by omega) he this.symm

theorem byte_zero (b : UInt8) (h : b.toNat = 0) : b = 0 := UInt8.toNat_inj.1 h
theorem ret_pair {a b c d : Int} (h : a = c) (h' : b = d) : Ending.returned (.tuple #[.int .i64 a, .int .i64 b]) = .returned (.tuple #[.int .i64 c, .int .i64 d]) := by rw [h, h']

set_option maxRecDepth 20000 in
set_option maxHeartbeats 1600000 in
theorem decode35 (B : Nat) (A : Option Addr) (n c : Nat) (d : List UInt8) (w : World) (h : Reads w B A n (byteCells d)) (hn : n ≤ 9223372036854775807) :
    Calls Try.prog 35 #[.slice A n c] w fun e w' => e = .returned (.tuple #[.int .i64 ((decP d).1 : Int), .int .i64 ((decP d).2 : Int)]) ∧ w = w' := by
  have hlen : d.length = n := by rw [← bytes_size]; exact h.1
  have Hlen := hide hlen
  have H := hide h
  clear hlen h
  by_cases h9 : 9 < n
  · have hr := decP_long d (by rw [Hlen.out]; exact h9)
    have Hr := hide hr
    clear hr
    go_enter Try.func35, Try.ntmps35
    go_wp2
    go_ret2
    exact ⟨by rw [Hr.out]; rfl, rfl⟩
  have h9' : n ≤ 9 := by omega
  go_enter Try.func35, Try.ntmps35
  go_wp2
  go_loop [5, 15] (fun x i => ∃ k : Nat, k ≤ n ∧ i = .int .i64 k ∧ x = .int .i64 (dec (d.drop (n - k)) : Int)) (fun _ i => n - (intOf i).toNat)
  case atStart => exact ⟨0, Nat.zero_le _, rfl, by rw [Nat.sub_zero, List.drop_of_length_le (by rw [Hlen.out]; omega)]; rfl⟩
  case round =>
    obtain ⟨k, hk, rfl, rfl⟩ := hrel
    by_cases hlt : k < n
    · obtain ⟨ad, b, rfl, hb, hc⟩ := H.out.byte (k := n - 1 - k) (by omega)
      have hstep := dec_drop d (n - 1 - k) b hb
      rw [show n - 1 - k + 1 = n - k by omega] at hstep
      have hd8 := dec_le8 (d.drop (n - k)) (by rw [List.length_drop, Hlen.out]; omega)
      have hbb : b.toNat < 256 := UInt8.toNat_lt b
      have hidx : ((n : Int) - 1 - (k : Int)) = ((n - 1 - k : Nat) : Int) := by omega
      have hst : (dec (d.drop (n - k)) : Int) * 128 + (b.toNat : Int) % 128 = (dec (d.drop (n - (k + 1))) : Int) := by
        rw [show n - (k + 1) = n - 1 - k by omega, hstep]; omega
      have Hst := hide hst
      clear hst hstep hb
      have hk1 : 1 ≤ n := by omega
      go_wp2
      go_round
      case rel => exact ⟨k + 1, by omega, by go_num, by rw [← Hst.out]⟩
      case measure => simp [intOf]; omega
    · have hkn : n - k = 0 := by omega
      have hd9 := dec_le9 d (by rw [Hlen.out]; omega)
      rw [hkn, List.drop_zero]
      clear hkn
      by_cases hbig : 4611686018427387904 < dec d
      · have hr := decP_big d (by rw [Hlen.out]; exact h9) hbig
        have Hr := hide hr
        clear hr
        go_wp2
        go_ret2
        exact ⟨by rw [Hr.out]; rfl, rfl⟩
      · have hbig' : dec d ≤ 4611686018427387904 := by omega
        by_cases h1 : 1 < n
        · obtain ⟨ad, b, rfl, hb, hc⟩ := H.out.byte (k := n - 1) (by omega)
          have hbb : b.toNat < 256 := UInt8.toNat_lt b
          have hidx : ((n : Int) - 1) = ((n - 1 : Nat) : Int) := by omega
          have h1' : 0 < n - 1 := by omega
          by_cases h0 : b.toNat = 0
          · have hr := decP_form d (by rw [Hlen.out]; exact h9) hbig (n - 1) (by rw [Hlen.out]; omega) (by omega) (by rw [hb, byte_zero b h0])
            have Hr := hide hr
            clear hr hb
            go_wp2
            go_ret2
            exact ⟨by rw [Hr.out]; rfl, rfl⟩
          · have hr := decP_ok d (by rw [Hlen.out]; exact h9) hbig (fun k c hk _ hc he => by
              rw [Hlen.out] at hk
              rw [show k = n - 1 by omega, hb] at hc
              cases hc
              rw [he] at h0
              exact h0 rfl)
            have Hr := hide hr
            have hbe : ((b.toNat : Int) == 0) = false := beq_eq_false_iff_ne.2 (by omega)
            clear hr hb
            go_wp2
            go_ret2
            exact ⟨by rw [Hr.out]; rfl, rfl⟩
        · have hr := decP_ok d (by rw [Hlen.out]; exact h9) hbig (fun k c hk h0 _ => by rw [Hlen.out] at hk; omega)
          have Hr := hide hr
          clear hr
          go_wp2
          go_ret2
          exact ⟨by rw [Hr.out]; rfl, rfl⟩

end Go.Proofs.Ytandmdmgleeogaa
