/- Layer 10: walks of the reference: FoldByte, Code, bytes. -/
import Derived.Test.YtlnbjdlooghpeaaQd
import Derived.Test.YtlnbjdlooghpeaaTri
import Derived.Laws.Concat
namespace Go.Proofs.Ytlnbjdlooghpeaa
open Go.RowKit
open Go.Lib (byteCells)

theorem rfoldbyte (c : UInt8) (x : Nat) (hx : (fld c).toNat = x) (w : World) : Calls Try.prog 76 #[.int .u8 (c.toNat : Int)] w fun e w' => e = .returned (.int .u8 (x : Int)) ∧ w = w' := by
  subst hx
  have hc := byte_lt c
  by_cases h : 65 ≤ c.toNat
  · by_cases h' : c.toNat ≤ 90
    · have Hf := hide (fld_up c ⟨h, h'⟩)
      go_enter Try.func76, Try.ntmps76
      go_wp2
      go_ret
      exact ⟨ret_int (by rw [Hf.out]), rfl⟩
    · have Hf := hide (fld_low c (by omega))
      go_enter Try.func76, Try.ntmps76
      go_wp2
      go_ret
      exact ⟨ret_int (by rw [Hf.out]), rfl⟩
  · have Hf := hide (fld_low c (by omega))
    go_enter Try.func76, Try.ntmps76
    go_wp2
    go_ret
    exact ⟨ret_int (by rw [Hf.out]), rfl⟩
theorem fat_at (s : ByteArray) (k : Nat) (h : k < s.size) : (fld s[k]).toNat = fat s.data.toList k := by unfold fat; rw [getD_byte s k h]

theorem ret_tup {a b : Value} {c d : Value} (h : a = c) (h' : b = d) : Ending.returned (.tuple #[a, b]) = .returned (.tuple #[c, d]) := by rw [h, h']
theorem conv1 (z : Int) (u : UInt8) (hz : (u.toNat : Int) = z) (w : World) :
    (convert 78 9 (.slice (some ⟨w.heap.size, 0, none⟩) 1 1)).run Try.prog (w.alloc (.cells #[.int .u8 z] 5)) = .ok (.string (bsx [u])) (w.alloc (.cells #[.int .u8 z] 5)) := by
  have hs := lit_sl w #[.int .u8 z] 5 (byteCells [u]) 1 (by simp [byteCells]; omega) (by simp [byteCells]) (by omega)
  exact conv_run hs.reads 78 9 5 Try.underlying78 Try.underlying5 Try.underlying9 (fun e => by cases e)

set_option maxRecDepth 100000 in
set_option maxHeartbeats 6400000 in
theorem rbytes {W : World} {ok : Nat → Prop} {A : Option Addr} {n c : Nat} {set : List (UInt8 × UInt8)} (h : RgS W ok A n c set) (fold : Bool) :
    Calls Try.prog 54 #[.slice A n c, .bool fold] W (GotO W (bytesS set fold)) := by
  have hnc := h.1
  have hcc := h.2.1
  have H := hide h
  clear h
  go_enter Try.func54, Try.ntmps54
  go_wp2
  go_loopw [6, 7, 8] (fun v x _ wr => ∃ i : Nat, i ≤ 256 ∧ x = .int .i64 (i : Int) ∧ (∃ A n c, v = .slice A n c ∧ n = (byteL set fold i).length ∧ Sl wr A n c (strCells (byteL set fold i))) ∧ Below W.heap.size W wr) (fun _ x _ _ => 256 - (intOf x).toNat)
  case atStart => exact ⟨0, Nat.zero_le _, rfl, ⟨none, 0, 0, rfl, by rw [byteL]; rfl, by rw [byteL]; exact Sl.nil _⟩, Below.refl _ _⟩
  case round =>
    obtain ⟨i, hi, rfl, ⟨A3, n3, c3, rfl, hn3, hsl⟩, hbel⟩ := hrel
    obtain ⟨w3, hw3⟩ : ∃ w3, w3 = wr := ⟨wr, rfl⟩
    subst hw3
    have B3 := hide hbel
    have S3 := hide hsl
    have Hn3 := hide hn3
    have H3 := hide (H.out.below hbel)
    have hib : (i : Int) ≤ 256 := by omega
    have hnc3 := hsl.1
    have hcc3 := hsl.2.1
    have hrl := byteL_len set fold i
    have hn5 : n3 ≤ 256 := by omega
    clear hbel hsl hn3 hrl
    by_cases hlt : i < 256
    · have hlt' : (i : Int) < 256 := by omega
      have hx : ((UInt8.ofNat i).toNat : Int) = (i : Int) := by simp; omega
      have hxn : (UInt8.ofNat i).toNat = i := by omega
      cases hq : hasS set (UInt8.ofNat i) with
      | false =>
        have hC := has63 H3.out (UInt8.ofNat i) false hq
        rw [hx] at hC
        have HC := hide hC
        have Hn := hide (show byteL set fold (i + 1) = byteL set fold i by rw [byteL, hq]; simp)
        clear hC hx hxn hq
        go_wp2_with fail
        with_reducible refine HC.out.mono ?_
        rintro e w4 ⟨rfl, rfl⟩
        go_wp2
        go_roundw
        case rel => exact ⟨i + 1, by omega, by go_num, ⟨A3, n3, c3, rfl, by rw [Hn.out, Hn3.out], by rw [Hn.out]; exact S3.out⟩, B3.out⟩
        case measure => simp [intOf]; omega
      | true =>
        have hC := has63 H3.out (UInt8.ofNat i) true hq
        rw [hx] at hC
        have HC := hide hC
        have Hn := hide (show byteL set fold (i + 1) = addS (byteL set fold i) [fb fold (UInt8.ofNat i)] by rw [byteL, hq]; simp)
        cases fold with
        | false =>
          obtain ⟨u, hu⟩ : ∃ u, fb false (UInt8.ofNat i) = u := ⟨_, rfl⟩
          have hz : (u.toNat : Int) = (i : Int) := by rw [← hu]; simp [fb]; omega
          rw [hu] at Hn
          have HA := hide (fun (X : World) (hb : Below w3.heap.size w3 X) => radd (S3.out.below hb) (by rw [← Hn3.out]; omega) [u])
          have kc := conv1 (i : Int) u hz w3
          have HB0 := hide (bnew (Below.refl _ w3) (.cells #[.int .u8 (i : Int)] 5))
          clear hC hx hxn hq hz hu
          go_wp2_with fail
          with_reducible refine HC.out.mono ?_
          rintro e w4 ⟨rfl, rfl⟩
          go_wp2_with fail
          with_reducible refine (HA.out _ HB0.out).mono ?_
          rintro e w5 ⟨A5, n5, c5, rfl, hn5', hs5, hb5⟩
          have B5 := hide (bgo B3.out (bgo HB0.out hb5))
          have S5 := hide hs5
          have Hn5 := hide hn5'
          clear hb5 hs5 hn5' kc
          go_wp2
          go_roundw
          case rel => exact ⟨i + 1, by omega, by go_num, ⟨A5, n5, c5, rfl, by rw [Hn.out, Hn5.out], by rw [Hn.out]; exact S5.out⟩, B5.out⟩
          case measure => simp [intOf]; omega
        | true =>
          obtain ⟨u, hu⟩ : ∃ u, fb true (UInt8.ofNat i) = u := ⟨_, rfl⟩
          obtain ⟨z, hz⟩ : ∃ z, u.toNat = z := ⟨_, rfl⟩
          have hF := rfoldbyte (UInt8.ofNat i) z (by rw [← hz, ← hu]; simp [fb]) w3
          rw [hx] at hF
          have HF := hide hF
          rw [hu] at Hn
          have HA := hide (fun (X : World) (hb : Below w3.heap.size w3 X) => radd (S3.out.below hb) (by rw [← Hn3.out]; omega) [u])
          have kc := conv1 (z : Int) u (by omega) w3
          have HB0 := hide (bnew (Below.refl _ w3) (.cells #[.int .u8 (z : Int)] 5))
          clear hC hx hxn hq hz hu hF
          go_wp2_with fail
          with_reducible refine HC.out.mono ?_
          rintro e w4 ⟨rfl, rfl⟩
          go_wp2_with fail
          with_reducible refine HF.out.mono ?_
          rintro e w4 ⟨rfl, rfl⟩
          go_wp2_with fail
          with_reducible refine (HA.out _ HB0.out).mono ?_
          rintro e w5 ⟨A5, n5, c5, rfl, hn5', hs5, hb5⟩
          have B5 := hide (bgo B3.out (bgo HB0.out hb5))
          have S5 := hide hs5
          have Hn5 := hide hn5'
          clear hb5 hs5 hn5' kc
          go_wp2
          go_roundw
          case rel => exact ⟨i + 1, by omega, by go_num, ⟨A5, n5, c5, rfl, by rw [Hn.out, Hn5.out], by rw [Hn.out]; exact S5.out⟩, B5.out⟩
          case measure => simp [intOf]; omega
    · have hlt' : ¬ (i : Int) < 256 := by omega
      obtain rfl : i = 256 := by omega
      by_cases h8 : n3 ≤ 8
      · have h8' : (n3 : Int) ≤ 8 := by omega
        have Ho := hide (show bytesS set fold = some (byteL set fold 256) by unfold bytesS; rw [if_pos (by rw [← Hn3.out]; exact h8)])
        go_wp2
        go_ret2
        exact ⟨A3, n3, c3, by rw [Ho.out]; rfl, fun p hp => by rw [Ho.out] at hp; cases hp; exact ⟨Hn3.out, S3.out⟩, fun hp => by rw [Ho.out] at hp; (cases hp), B3.out⟩
      · have h8' : ¬ (n3 : Int) ≤ 8 := by omega
        have Ho := hide (show bytesS set fold = none by unfold bytesS; rw [if_neg (by rw [← Hn3.out]; exact h8)])
        go_wp2
        go_ret2
        exact ⟨A3, n3, c3, by rw [Ho.out]; rfl, fun p hp => by rw [Ho.out] at hp; (cases hp), fun _ => ⟨hnc3, hcc3⟩, B3.out⟩
end Go.Proofs.Ytlnbjdlooghpeaa
