/- Layer 6: the law that a code is among Of exactly if it occurs. -/
import Derived.Test.YtdegppifgcbaeaaT9
namespace Go.Proofs.Ytdegppifgcbaeaa
open Go.RowKit

/-- The codes at the offsets below n. -/
def trisN (d : List UInt8) (n : Nat) : List Int := (List.range n).map (tri d)
theorem trisN_succ (d : List UInt8) (n : Nat) (c : Int) : decide (c ∈ trisN d (n + 1)) = (decide (c ∈ trisN d n) || decide (tri d n = c)) := by
  unfold trisN
  rw [List.range_succ, List.map_append, ← Bool.decide_or]
  apply decide_eq_decide.2
  rw [List.mem_append]
  simp only [List.map_cons, List.map_nil, List.mem_singleton]
  exact ⟨fun h => h.imp id Eq.symm, fun h => h.imp id Eq.symm⟩
theorem trisN_all (d : List UInt8) (c : Int) : (c ∈ trisN d (d.length - 2)) ↔ c ∈ ofS d := by
  rw [mem_of]
  unfold trisN
  simp only [List.mem_map, List.mem_range]
  constructor
  · rintro ⟨i, hi, e⟩; exact ⟨i, by omega, e⟩
  · rintro ⟨i, hi, e⟩; exact ⟨i, by omega, e⟩
theorem mem_take_succ (L : List Int) (k : Nat) (z c : Int) (h : L[k]? = some z) : decide (c ∈ L.take (k + 1)) = (decide (c ∈ L.take k) || decide (z = c)) := by
  rw [take_at L k z h, ← Bool.decide_or]
  apply decide_eq_decide.2
  rw [List.mem_append]
  simp only [List.mem_singleton]
  exact ⟨fun h => h.imp id Eq.symm, fun h => h.imp id Eq.symm⟩

set_option maxRecDepth 20000 in
set_option maxHeartbeats 3200000 in
theorem law6 (C : Cs) (s : ByteArray) (c : Int) (w : World) (hs : s.size ≤ 9223372036854775807) (hc : -9223372036854775808 ≤ c ∧ c ≤ 9223372036854775807) :
    Calls Try.prog 6 #[.string s, .int .i64 c] w fun e w' => e = .returned (.bool true) ∧ Below w.heap.size w w' := by
  have CC := hide C
  clear C
  go_enter Try.func6, Try.ntmps6
  go_wp2_with fail
  refine (alive9 CC.out _).mono ?_
  rintro e w1 ⟨rfl, h1⟩
  have B1 := hide h1
  clear h1
  by_cases hlt : 2000 < s.size
  · go_wp2
    go_ret
    exact ⟨rfl, B1.out⟩
  · obtain ⟨d, hd⟩ : ∃ d, s.data.toList = d := ⟨_, rfl⟩
    have Hd := hide hd
    have Hdl := hide (show d.length = s.size by rw [← hd, size_list])
    have hof := CC.out.of s w1 (by omega)
    rw [hd] at hof
    clear hd
    obtain ⟨L, hL⟩ : ∃ L, ofS d = L := ⟨_, rfl⟩
    rw [hL] at hof
    obtain ⟨r, hr⟩ : ∃ r, decide (c ∈ L) = r := ⟨_, rfl⟩
    have Hup := hide (show Up L by rw [← hL]; exact up_of d)
    have HL := hide hL
    have Hr := hide hr
    clear hL hr
    go_wp2_with fail
    with_reducible refine hof.mono ?_
    rintro e w2 ⟨A, n, m, rfl, hsl, h1⟩
    have hnm := hsl.1
    have hmm := hsl.2.1
    have Hn := hide hsl.nlen
    have S2 := hide hsl
    have B2 := hide (bgo B1.out h1)
    clear hsl h1 hof B1
    go_wp2
    go_loopw [6, 7] (fun u x wr => ∃ (k : Nat) (b : Bool), k ≤ n ∧ x = .int .i64 k ∧ u = .bool b ∧ decide (c ∈ L.take k) = b ∧ Drawn w2 wr) (fun _ x _ => n - (intOf x).toNat)
    case atStart => exact ⟨0, false, Nat.zero_le _, rfl, rfl, by simp, Drawn.refl _⟩
    case round =>
      obtain ⟨k, b, hk, rfl, rfl, hb, hdr⟩ := hrel
      have Hdr := hide hdr
      by_cases hkn : k < n
      · obtain ⟨ad, z, rfl, hz, hcell⟩ := num_cell (S2.out.below (hdr.below _)).reads hkn
        have hst := mem_take_succ L k z c hz
        rw [hb] at hst
        obtain ⟨b', hb'⟩ : ∃ b', (b || decide (z = c)) = b' := ⟨_, rfl⟩
        rw [hb'] at hst
        have Hst := hide hst
        have hzc : (b || (z == c)) = b' := by rw [← hb']; rfl
        clear hb hst hb'
        rcases Nat.eq_zero_or_pos k with hk0 | hk0
        · have kd : decide ((0 : Int) < (k : Int)) = false := decide_eq_false (by omega)
          have kd' : decide (0 < k) = false := decide_eq_false (by omega)
          have Hk0 := hide hk0
          clear hdr hz hk0
          cases b with
          | true =>
            obtain rfl : b' = true := by rw [← hzc]; rfl
            clear hzc
            go_wp2
            go_quiet (fail)
            go_wp2
            go_roundw
            case rel => exact ⟨k + 1, true, by omega, by go_num, rfl, Hst.out, Hdr.out.more _⟩
            case measure => simp [intOf]; omega
          | false =>
            have hzc' : (z == c) = b' := by rw [← hzc]; rfl
            clear hzc
            go_wp2
            go_quiet (fail)
            go_wp2
            go_roundw
            case rel => exact ⟨k + 1, b', by omega, by go_num, rfl, Hst.out, Hdr.out.more _⟩
            case measure => simp [intOf]; omega
        · obtain ⟨ad', y, e', hy, hcell'⟩ := num_cell (S2.out.below (hdr.below _)).reads (show k - 1 < n by omega)
          cases e'
          have hyz := up_get Hup.out (k - 1) y z hy (by rw [show k - 1 + 1 = k by omega]; exact hz)
          have hle : decide (z ≤ y) = false := decide_eq_false (by omega)
          have kw : IntKind.i64.wrap ((k : Int) - 1) = ((k - 1 : Nat) : Int) := by rw [IntWalk.i64_in _ (by omega)]; omega
          have kd : decide ((0 : Int) < (k : Int)) = true := decide_eq_true (by omega)
          have kd' : decide (0 < k) = true := decide_eq_true hk0
          have k1 : k - 1 < n := by omega
          have k2 : ((k - 1 : Nat) : Int) < (n : Int) := by omega
          have k3 : (0 : Int) ≤ ((k - 1 : Nat) : Int) := by omega
          clear hdr hz hy
          cases b with
          | true =>
            obtain rfl : b' = true := by rw [← hzc]; rfl
            clear hzc
            go_wp2
            go_quiet (fail)
            go_wp2
            go_roundw
            case rel => exact ⟨k + 1, true, by omega, by go_num, rfl, Hst.out, Hdr.out.more _⟩
            case measure => simp [intOf]; omega
          | false =>
            have hzc' : (z == c) = b' := by rw [← hzc]; rfl
            clear hzc
            go_wp2
            go_quiet (fail)
            go_wp2
            go_roundw
            case rel => exact ⟨k + 1, b', by omega, by go_num, rfl, Hst.out, Hdr.out.more _⟩
            case measure => simp [intOf]; omega
      · obtain rfl : b = r := by
          rw [← hb, ← Hr.out, List.take_of_length_le (by rw [Hn.out]; omega)]
        have B3 := hide (B2.out.trans (hdr.below _))
        clear hdr hb
        obtain ⟨T, hT⟩ : ∃ T, strA c = T := ⟨_, rfl⟩
        by_cases hin : 0 ≤ c ∧ c < 16777216
        · have hok : strOk c = true := decide_eq_true hin
          have hTs : T.size = 3 := by rw [← hT]; exact strA_size c hin
          have hT3 : ((T.size : Int) == 3) = true := by rw [beq_iff_eq]; omega
          have hcs := CC.out.str c wr hc
          rw [hT, hok] at hcs
          have HT := hide hT
          clear hT hTs hok
          go_wp2_with fail
          with_reducible refine hcs.mono ?_
          rintro e w4 ⟨rfl, h1⟩
          have B4 := hide (bgo B3.out h1)
          clear h1 B3 hcs
          go_wp2
          go_loopw [10, 11] (fun u x w5 => ∃ (i : Nat) (q : Bool), i ≤ s.size - 2 ∧ x = .int .i64 i ∧ u = .bool q ∧ decide (c ∈ trisN d i) = q ∧ Drawn w4 w5) (fun _ x _ => s.size - (intOf x).toNat)
          case atStart => exact ⟨0, false, Nat.zero_le _, rfl, rfl, by simp [trisN], Drawn.refl _⟩
          case round =>
            obtain ⟨i, q, hi, rfl, rfl, hq, hdr⟩ := hrel
            have Hdr := hide hdr
            clear hdr
            by_cases hi2 : i + 2 < s.size
            · have hst := trisN_succ d i c
              rw [hq] at hst
              obtain ⟨t, ht⟩ : ∃ t, decide (tri d i = c) = t := ⟨_, rfl⟩
              rw [ht] at hst
              have Hst := hide hst
              have Ht := hide ht
              clear hst hq ht
              cases q with
              | true =>
                go_wp2
                go_roundw
                case rel => exact ⟨i + 1, true, by omega, by go_num, rfl, Hst.out, Hdr.out⟩
                case measure => simp [intOf]; omega
              | false =>
                have hbg := begC s i c t wr hi2 hs hin (by rw [Hd.out]; exact Ht.out)
                rw [HT.out] at hbg
                go_wp2_with fail
                with_reducible refine hbg.mono ?_
                rintro e w6 ⟨rfl, h6⟩
                have D6 := hide (show Drawn w4 w6 by obtain ⟨p, hp⟩ := Hdr.out; obtain ⟨p', hp'⟩ := h6; exact ⟨p + p', by rw [hp', hp]; simp⟩)
                clear h6 hbg
                go_wp2
                go_roundw
                case rel => exact ⟨i + 1, t, by omega, by go_num, rfl, Hst.out, D6.out⟩
                case measure => simp [intOf]; omega
            · obtain rfl : q = b := by
                rw [← hq, ← Hr.out, ← HL.out, show i = d.length - 2 by rw [Hdl.out]; omega]
                exact decide_eq_decide.2 (trisN_all d c)
              have hdd : decide ((i : Int) + 2 < (s.size : Int)) = false := decide_eq_false (by omega)
              clear hq
              go_wp2
              go_ret
              exact ⟨ret_bool (by simp), B4.out.trans (Hdr.out.below _)⟩
        · have hok : strOk c = false := decide_eq_false hin
          obtain rfl : b = false := by
            rw [← Hr.out, ← HL.out]
            refine decide_eq_false fun h => hin ?_
            obtain ⟨i, _, rfl⟩ := (mem_of d c).1 h
            exact tri_lt d i
          have hcs := CC.out.str c wr hc
          rw [hT, hok] at hcs
          clear hT hok
          go_wp2_with fail
          with_reducible refine hcs.mono ?_
          rintro e w4 ⟨rfl, h1⟩
          have B4 := hide (bgo B3.out h1)
          clear h1 B3 hcs
          go_wp2
          go_ret
          exact ⟨rfl, B4.out⟩

end Go.Proofs.Ytdegppifgcbaeaa
