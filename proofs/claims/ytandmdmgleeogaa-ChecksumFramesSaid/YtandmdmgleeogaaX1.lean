/- Walks: the register takes a byte, and bytes: take, Extend, Sum, the program's and the reference's. -/
import Derived.Test.YtandmdmgleeogaaW6
import Derived.Test.YtandmdmgleeogaaFrames
import Derived.Laws.BitsAllLaws
namespace Go.Proofs.Ytandmdmgleeogaa
open Go.RowKit
open Go.Lib (byteCells)

theorem u32x (a b : Nat) (ha : a < 4294967296) (hb : b < 4294967296) : bits .xor .u32 (a : Int) (b : Int) = ((a ^^^ b : Nat) : Int) := u32_xor_nat a b ha hb
theorem and_one (x : Nat) (hx : x < 4294967296) : bits .and .u32 (x : Int) 1 = ((x % 2 : Nat) : Int) := by
  have h := u32_and_nat x 1 hx (by decide)
  rw [nat_mask1] at h
  exact h
theorem xor_poly (x : Nat) (hx : x < 4294967296) : bits .xor .u32 ((x : Int) / 2) 2197175160 = ((x / 2 ^^^ poly : Nat) : Int) := u32x (x / 2) poly (by omega) (by decide)
theorem xor_lt32 (a b : Nat) (ha : a < 4294967296) (hb : b < 4294967296) : a ^^^ b < 4294967296 := Nat.xor_lt_two_pow (n := 32) ha hb
theorem stps_next (k x : Nat) (h : k < 8) : stps (8 - k) x = stps (8 - (k + 1)) (stp x) := by
  rw [show 8 - k = (8 - (k + 1)) + 1 by omega]; rfl
theorem stp_one (x : Nat) (h : x % 2 = 1) : stp x = x / 2 ^^^ poly := by unfold stp; rw [if_pos h]
theorem stp_nul (x : Nat) (h : x % 2 ≠ 1) : stp x = x / 2 := by unfold stp; rw [if_neg h]

set_option maxRecDepth 20000 in
set_option maxHeartbeats 800000 in
theorem take23 (r : Nat) (b : UInt8) (w : World) (hr : r < 4294967296) :
    Calls Try.prog 23 #[.int .u32 (r : Int), .int .u8 (b.toNat : Int)] w fun e w' => e = .returned (.int .u32 (tk r b : Int)) ∧ w = w' := by
  have hb : b.toNat < 256 := UInt8.toNat_lt b
  have hx0 := u32x r b.toNat hr (by omega)
  have hlt := xor_lt32 r b.toNat hr (by omega)
  go_enter Try.func23, Try.ntmps23
  go_wp2
  go_loop [0, 10] (fun u v => ∃ k x : Nat, k ≤ 8 ∧ u = .int .u32 (x : Int) ∧ v = .int .i64 (k : Int) ∧ x < 4294967296 ∧ stps (8 - k) x = tk r b) (fun _ v => 8 - (intOf v).toNat)
  case atStart => exact ⟨0, r ^^^ b.toNat, by omega, rfl, rfl, hlt, rfl⟩
  case round =>
    obtain ⟨k, x, hk, rfl, rfl, hx, he⟩ := hrel
    by_cases hk8 : k < 8
    · rw [stps_next k x hk8] at he
      have hand := and_one x hx
      by_cases h2 : x % 2 = 1
      · rw [stp_one x h2] at he
        have hxp := xor_poly x hx
        have hxl := xor_lt32 (x / 2) poly (by omega) (by decide)
        rw [h2] at hand
        have He := hide he
        have Hxl := hide hxl
        clear he h2 hxl
        go_wp2
        go_round
        case rel => exact ⟨k + 1, x / 2 ^^^ poly, by omega, rfl, by go_num, Hxl.out, He.out⟩
        case measure => simp [intOf]; omega
      · rw [stp_nul x h2] at he
        rw [show x % 2 = 0 by omega] at hand
        have He := hide he
        clear he h2
        go_wp2
        go_round
        case rel => exact ⟨k + 1, x / 2, by omega, by simp, by go_num, by omega, He.out⟩
        case measure => simp [intOf]; omega
    · have he8 : x = tk r b := by rw [← he, show 8 - k = 0 by omega]; rfl
      have He := hide he8
      clear he he8
      go_wp2
      go_ret
      exact ⟨ret_int (by rw [He.out]), rfl⟩

set_option maxRecDepth 20000 in
set_option maxHeartbeats 800000 in
theorem rtake24 (r : Nat) (b : UInt8) (w : World) (hr : r < 4294967296) :
    Calls Try.prog 24 #[.int .u32 (r : Int), .int .u8 (b.toNat : Int)] w fun e w' => e = .returned (.int .u32 (tk r b : Int)) ∧ w = w' := by
  have hb : b.toNat < 256 := UInt8.toNat_lt b
  have hx0 := u32x r b.toNat hr (by omega)
  have hlt := xor_lt32 r b.toNat hr (by omega)
  go_enter Try.func24, Try.ntmps24
  go_wp2
  go_loop [0, 5] (fun u v => ∃ k x : Nat, k ≤ 8 ∧ u = .int .u32 (x : Int) ∧ v = .int .i64 (k : Int) ∧ x < 4294967296 ∧ stps (8 - k) x = tk r b) (fun _ v => 8 - (intOf v).toNat)
  case atStart => exact ⟨0, r ^^^ b.toNat, by omega, rfl, rfl, hlt, rfl⟩
  case round =>
    obtain ⟨k, x, hk, rfl, rfl, hx, he⟩ := hrel
    by_cases hk8 : k < 8
    · rw [stps_next k x hk8] at he
      by_cases h2 : x % 2 = 1
      · rw [stp_one x h2] at he
        have hxp := xor_poly x hx
        have hxl := xor_lt32 (x / 2) poly (by omega) (by decide)
        have hm : ((x : Int) % 2) = 1 := by omega
        have He := hide he
        have Hxl := hide hxl
        clear he h2 hxl
        go_wp2
        go_round
        case rel => exact ⟨k + 1, x / 2 ^^^ poly, by omega, rfl, by go_num, Hxl.out, He.out⟩
        case measure => simp [intOf]; omega
      · rw [stp_nul x h2] at he
        have hm : ((x : Int) % 2) = 0 := by omega
        have He := hide he
        clear he h2
        go_wp2
        go_round
        case rel => exact ⟨k + 1, x / 2, by omega, by simp, by go_num, by omega, He.out⟩
        case measure => simp [intOf]; omega
    · have he8 : x = tk r b := by rw [← he, show 8 - k = 0 by omega]; rfl
      have He := hide he8
      clear he he8
      go_wp2
      go_ret
      exact ⟨ret_int (by rw [He.out]), rfl⟩

/-! ### Extend -/
theorem not32 (s : Nat) (hs : s < 4294967296) : bits .xor .u32 IntKind.u32.max (s : Int) = ((s ^^^ full : Nat) : Int) := by
  rw [show IntKind.u32.max = ((full : Nat) : Int) by decide, u32x full s (by decide) hs, Nat.xor_comm]
theorem regs_snoc (r : Nat) (l : List UInt8) (k : Nat) (b : UInt8) (h : l[k]? = some b) : regs r (l.take (k + 1)) = tk (regs r (l.take k)) b := by
  have hk := (List.getElem?_eq_some_iff.1 h).1
  rw [List.take_succ_eq_append_getElem hk, regs_app, (List.getElem?_eq_some_iff.1 h).2]
  rfl

set_option maxRecDepth 20000 in
set_option maxHeartbeats 800000 in
theorem extend13 (s : Nat) (hs : s < 4294967296) (B : Nat) (A : Option Addr) (n c : Nat) (l : List UInt8) (w : World) (h : Reads w B A n (byteCells l)) (hn : n ≤ 9223372036854775807) :
    Calls Try.prog 13 #[.int .u32 (s : Int), .slice A n c] w fun e w' => e = .returned (.int .u32 (extP s l : Int)) ∧ w = w' := by
  have hlen : l.length = n := by rw [← bytes_size]; exact h.1
  have Hlen := hide hlen
  have H := hide h
  have hns := not32 s hs
  have hsl := xor_lt32 s full hs (by decide)
  clear hlen h
  go_enter Try.func13, Try.ntmps13
  go_wp2
  go_loop [5, 12] (fun u v => ∃ k x : Nat, k ≤ n ∧ u = .int .u32 (x : Int) ∧ v = .int .i64 (k : Int) ∧ x < 4294967296 ∧ regs (s ^^^ full) (l.take k) = x) (fun _ v => n - (intOf v).toNat)
  case atStart => exact ⟨0, _, Nat.zero_le _, rfl, rfl, hsl, rfl⟩
  case round =>
    obtain ⟨k, x, hk, rfl, rfl, hx, he⟩ := hrel
    have He := hide he
    clear he
    by_cases hlt : k < n
    · obtain ⟨ad, b, rfl, hb, hc⟩ := H.out.byte hlt
      have hnx := regs_snoc (s ^^^ full) l k b hb
      rw [He.out] at hnx
      have Hnx := hide hnx
      have htl := tk_lt x b hx
      have Htl := hide htl
      clear hb hnx htl
      go_wp2_with fail
      with_reducible refine (take23 x b _ hx).mono ?_
      rintro e w' ⟨rfl, rfl⟩
      go_wp2
      go_round
      case rel => exact ⟨k + 1, _, by omega, rfl, by go_num, Htl.out, Hnx.out⟩
      case measure => simp [intOf]; omega
    · have he2 := He.out
      rw [List.take_of_length_le (by rw [Hlen.out]; omega)] at he2
      have hnx := not32 x hx
      have hr : extP s l = x ^^^ full := by unfold extP; rw [he2]
      have Hr := hide hr
      clear he2 hr
      go_wp2
      go_ret
      exact ⟨ret_int (by rw [Hr.out]), rfl⟩

set_option maxRecDepth 20000 in
set_option maxHeartbeats 800000 in
theorem rextend14 (s : Nat) (hs : s < 4294967296) (B : Nat) (A : Option Addr) (n c : Nat) (l : List UInt8) (w : World) (h : Reads w B A n (byteCells l)) (hn : n ≤ 9223372036854775807) :
    Calls Try.prog 14 #[.int .u32 (s : Int), .slice A n c] w fun e w' => e = .returned (.int .u32 (extP s l : Int)) ∧ w = w' := by
  have hlen : l.length = n := by rw [← bytes_size]; exact h.1
  have Hlen := hide hlen
  have H := hide h
  have hns := not32 s hs
  have hsl := xor_lt32 s full hs (by decide)
  clear hlen h
  go_enter Try.func14, Try.ntmps14
  go_wp2
  go_loop [5, 6] (fun u v => ∃ k x : Nat, k ≤ n ∧ u = .int .u32 (x : Int) ∧ v = .int .i64 (k : Int) ∧ x < 4294967296 ∧ regs (s ^^^ full) (l.take k) = x) (fun _ v => n - (intOf v).toNat)
  case atStart => exact ⟨0, _, Nat.zero_le _, rfl, rfl, hsl, rfl⟩
  case round =>
    obtain ⟨k, x, hk, rfl, rfl, hx, he⟩ := hrel
    have He := hide he
    clear he
    by_cases hlt : k < n
    · obtain ⟨ad, b, rfl, hb, hc⟩ := H.out.byte hlt
      have hnx := regs_snoc (s ^^^ full) l k b hb
      rw [He.out] at hnx
      have Hnx := hide hnx
      have htl := tk_lt x b hx
      have Htl := hide htl
      clear hb hnx htl
      go_wp2_with fail
      with_reducible refine (rtake24 x b _ hx).mono ?_
      rintro e w' ⟨rfl, rfl⟩
      go_wp2
      go_round
      case rel => exact ⟨k + 1, _, by omega, rfl, by go_num, Htl.out, Hnx.out⟩
      case measure => simp [intOf]; omega
    · have he2 := He.out
      rw [List.take_of_length_le (by rw [Hlen.out]; omega)] at he2
      have hnx := not32 x hx
      have hr : extP s l = x ^^^ full := by unfold extP; rw [he2]
      have Hr := hide hr
      clear he2 hr
      go_wp2
      go_ret
      exact ⟨ret_int (by rw [Hr.out]), rfl⟩

set_option maxRecDepth 20000 in
theorem sum11 (B : Nat) (A : Option Addr) (n c : Nat) (l : List UInt8) (w : World) (h : Reads w B A n (byteCells l)) (hn : n ≤ 9223372036854775807) :
    Calls Try.prog 11 #[.slice A n c] w fun e w' => e = .returned (.int .u32 (sumP l : Int)) ∧ w = w' := by
  have H := hide h
  clear h
  go_enter Try.func11, Try.ntmps11
  go_wp2_with fail
  refine (extend13 0 (by decide) B A n c l w H.out hn).mono ?_
  rintro e w' ⟨rfl, rfl⟩
  go_wp2
  go_ret
  exact ⟨rfl, rfl⟩

set_option maxRecDepth 20000 in
theorem rsum12 (B : Nat) (A : Option Addr) (n c : Nat) (l : List UInt8) (w : World) (h : Reads w B A n (byteCells l)) (hn : n ≤ 9223372036854775807) :
    Calls Try.prog 12 #[.slice A n c] w fun e w' => e = .returned (.int .u32 (sumP l : Int)) ∧ w = w' := by
  have H := hide h
  clear h
  go_enter Try.func12, Try.ntmps12
  go_wp2_with fail
  refine (rextend14 0 (by decide) B A n c l w H.out hn).mono ?_
  rintro e w' ⟨rfl, rfl⟩
  go_wp2
  go_ret
  exact ⟨rfl, rfl⟩

end Go.Proofs.Ytandmdmgleeogaa
