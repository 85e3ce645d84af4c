/- Walks: bytes compared; the four bytes of a checksum, the program's and the reference's. -/
import Derived.Test.YtandmdmgleeogaaX1
namespace Go.Proofs.Ytandmdmgleeogaa
open Go.RowKit
open Go.Lib (byteCells)

theorem Sl.reads {w : World} {A : Option Addr} {n c : Nat} {xs : List Value} (h : Sl w A n c xs) : Reads w w.heap.size A n xs := h.2.2.2

set_option maxRecDepth 20000 in
set_option maxHeartbeats 800000 in
theorem same15 (A A' : Option Addr) (n c n' c' : Nat) (l : List UInt8) (w : World) (h : Sl w A n c (byteCells l)) (h' : Sl w A' n' c' (byteCells l)) :
    Calls Try.prog 15 #[.slice A n c, .slice A' n' c'] w fun e w' => e = .returned (.bool true) ∧ Drawn w w' := by
  have e : n' = n := by rw [← h.len, h'.len]
  subst e
  have hc := h.2.1
  have hnc := h.1
  have H := hide h
  have H' := hide h'
  clear h h'
  go_enter Try.func15, Try.ntmps15
  go_wp2
  go_loopw [5] (fun x wr => ∃ k : Nat, k ≤ n' ∧ x = .int .i64 k ∧ Drawn w wr) (fun x _ => n' - (intOf x).toNat)
  case atStart => exact ⟨0, Nat.zero_le _, rfl, Drawn.refl _⟩
  case round =>
    obtain ⟨k, hk, rfl, hd⟩ := hrel
    have Hd := hide hd
    have hbel := hd.below w.heap.size
    clear hd
    by_cases hlt : k < n'
    · obtain ⟨ad, z, rfl, hz, hcell⟩ := (H.out.below hbel).2.2.2.byte hlt
      obtain ⟨ad', z', rfl, hz', hcell'⟩ := (H'.out.below hbel).2.2.2.byte hlt
      rw [hz] at hz'
      cases hz'
      clear hz hbel
      go_wp2
      go_quiet (fail)
      go_wp2
      go_roundw
      case rel => exact ⟨k + 1, by omega, by go_num, Hd.out.more _⟩
      case measure => simp [intOf]; omega
    · clear hbel
      go_wp2
      go_ret
      exact ⟨rfl, Hd.out⟩

theorem four_cells (s : Nat) (hs : s < 4294967296) : ∃ b0 b1 b2 b3 : UInt8, four s = [b0, b1, b2, b3] ∧ ((s : Int) / 16777216) = (b0.toNat : Int) ∧ ((s : Int) / 65536 % 256) = (b1.toNat : Int) ∧ ((s : Int) / 256 % 256) = (b2.toNat : Int) ∧ ((s : Int) % 256) = (b3.toNat : Int) :=
  ⟨_, _, _, _, rfl, by rw [UInt8.toNat_ofNat']; omega, by rw [UInt8.toNat_ofNat']; omega, by rw [UInt8.toNat_ofNat']; omega, by rw [UInt8.toNat_ofNat']; omega⟩

set_option maxRecDepth 20000 in
theorem sumb26 (A : Option Addr) (n c : Nat) (l : List UInt8) (w : World) (h : Sl w A n c (byteCells l)) :
    Calls Try.prog 26 #[.slice A n c] w fun e w' => ∃ b0 b1 b2 b3 : UInt8, e = .returned (.agg #[.int .u8 (b0.toNat : Int), .int .u8 (b1.toNat : Int), .int .u8 (b2.toNat : Int), .int .u8 (b3.toNat : Int)]) ∧ Hid (four (sumP l) = [b0, b1, b2, b3]) ∧ Below w.heap.size w w' := by
  have H := hide h
  have hc := h.2.1
  have hnc := h.1
  clear h
  have hs : sumP l < 4294967296 := sum_lt l
  obtain ⟨s, hs2⟩ : ∃ s, sumP l = s := ⟨_, rfl⟩
  rw [hs2] at hs
  have Hs := hide hs2
  obtain ⟨b0, b1, b2, b3, hq, h0, h1, h2, h3⟩ := four_cells s hs
  have Hq := hide hq
  clear hs2 hq
  go_enter Try.func26, Try.ntmps26
  go_wp2_with fail
  have hr := Sl.reads (H.out.below ((Below.refl _ w).alloc (Nat.le_refl _) (.cells #[.int .u8 0, .int .u8 0, .int .u8 0, .int .u8 0] 47)))
  with_reducible refine (sum11 _ A n c l _ hr (by omega)).mono ?_
  rintro e w1 ⟨rfl, rfl⟩
  rw [Hs.out]
  go_wp2
  refine bodyPost_ret (v := .agg #[.int .u8 (b0.toNat : Int), .int .u8 (b1.toNat : Int), .int .u8 (b2.toNat : Int), .int .u8 (b3.toNat : Int)]) (by simp [results, Try.results26, go_sem, h1, h2, h3]) rfl ⟨b0, b1, b2, b3, rfl, hide (by rw [Hs.out, Hq.out]), ?_⟩
  exact (Below.refl _ w).alloc (Nat.le_refl _) _

end Go.Proofs.Ytandmdmgleeogaa
