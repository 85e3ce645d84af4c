/- Walk: the reference's frame of bytes. -/
import Derived.Test.YtandmdmgleeogaaXm
namespace Go.Proofs.Ytandmdmgleeogaa
open Go.RowKit
open Go.Lib (byteCells)

theorem push_cell (l m : List UInt8) (k : Nat) (b : UInt8) (h : m[k]? = some b) : byteCells (l ++ m.take k) ++ [.int .u8 (b.toNat : Int)] = byteCells (l ++ m.take (k + 1)) := by
  have hk := (List.getElem?_eq_some_iff.1 h).1
  rw [List.take_succ_eq_append_getElem hk, (List.getElem?_eq_some_iff.1 h).2, ← List.append_assoc, Go.Lib.byteCells_append (l ++ m.take k)]
  rfl

set_option maxRecDepth 20000 in
set_option maxHeartbeats 1600000 in
theorem rseal17 (A : Option Addr) (n c : Nat) (l : List UInt8) (w : World) (h : Sl w A n c (byteCells l)) (hn : n ≤ 100000000) :
    Calls Try.prog 17 #[.slice A n c] w (Grew w w.heap.size (sealP l)) := by
  obtain ⟨i0, hi, hz0, hz1, hz2⟩ := info_parts info5
  have H9 := enc_len9 n (by omega)
  have hlen := h.len
  have Hlen := hide hlen
  have H := hide h
  clear hlen h
  go_enter Try.func17, Try.ntmps17
  go_wp2_with fail
  refine (rput22 none 0 0 [] n _ (Sl.nil _) (by omega) (by decide)).mono ?_
  intro e w1 hg
  obtain ⟨A1, c1, rfl, hs1, ho1, hb1⟩ := hg.sl
  rw [List.nil_append, Int.toNat_natCast] at hs1 ho1
  have Ho1 := hide ho1
  have B1 := hide hb1
  clear hg hs1 ho1 hb1
  go_wp2
  go_loopw [3, 4] (fun u x wr => ∃ k : Nat, k ≤ n ∧ x = .int .i64 k ∧ Own wr w.heap.size 5 u (byteCells (enc n ++ l.take k)) ∧ Below w.heap.size w wr) (fun _ x _ => n - (intOf x).toNat)
  case atStart => exact ⟨0, Nat.zero_le _, rfl, by rw [List.take_zero, List.append_nil]; exact Ho1.out, B1.out⟩
  case round =>
    clear Ho1 B1
    obtain ⟨k, hk, rfl, hown, hbel⟩ := hrel
    have hsz := hbel.size
    have Hown := hide hown
    have Hb := hide hbel
    clear hown hbel
    by_cases hlt : k < n
    · obtain ⟨ad, b, rfl, hb, hcell⟩ := (H.out.below Hb.out).reads.byte hlt
      have hpc := push_cell (enc n) l k b hb
      have Hpc := hide hpc
      have hbb : b.toNat < 256 := UInt8.toNat_lt b
      have hbl : (byteCells (enc n ++ l.take k)).length ≤ 100000009 := by rw [bytes_size, List.length_append, List.length_take, Hlen.out]; omega
      clear hpc hb
      go_wp2_with (at_builtin; refine wp_push rfl (.tmp 16) (.tmp 21) 23 rfl 5 i0 (.int .u8 0) 1 Try.underlying23 hi hz0 hz1 hz2 rfl w.heap.size _ (byteCells (enc n ++ l.take k)) rfl _ _ rfl Hown.out.src hsz _ rfl rfl (by omega) (by unfold maxLen; omega) ?_)
      intro v' w' hown' hb'
      rw [Hpc.out] at hown'
      have Hown' := hide hown'
      have Hb' := hide hb'
      clear hown' hb'
      go_wp2
      go_roundw
      case rel => exact ⟨k + 1, by omega, by go_num, Hown'.out, Hb.out.trans Hb'.out⟩
      case measure => simp [intOf]; omega
    · have ho2 := Hown.out
      rw [List.take_of_length_le (by rw [Hlen.out]; omega)] at ho2
      have hh : enc n ++ l = headP l := by rw [← Hlen.out]; rfl
      rw [hh] at ho2
      have hhl : (headP l).length ≤ 100000009 := by rw [← hh, List.length_append, Hlen.out]; omega
      obtain ⟨A2, m2, c2, rfl, hm2, hs2⟩ := ho2.sl5
      have hmb : m2 ≤ 100000009 := by omega
      have Ho2 := hide ho2
      have H2 := hide hs2.reads
      have hs := sum_lt (headP l)
      obtain ⟨s, hse⟩ : ∃ s, sumP (headP l) = s := ⟨_, rfl⟩
      have Hse := hide hse
      rw [hse] at hs
      have hsl : sealP l = headP l ++ four s := by rw [← hse]; rfl
      have Hsl := hide hsl
      have hfl : (four s).length = 4 := rfl
      have Hfl := hide hfl
      clear ho2 hs2 hm2 hh Hown hse hsl hfl
      go_wp2_with fail
      refine (rsum12 _ A2 m2 c2 (headP l) _ H2.out (by omega)).mono ?_
      rintro e w3 ⟨rfl, rfl⟩
      rw [Hse.out]
      go_wp2_with fail
      with_reducible refine (four27 s hs _).mono ?_
      rintro e w3 ⟨A3, rfl, hs3, hnew, hb3⟩
      have L3 := hide (Lies.new Ho2.out hs3 hnew)
      have Ho3 := hide (Ho2.out.below hb3)
      have B3 := hide (Hb.out.trans (hb3.mono hsz))
      clear hb3 hs3 hnew Hb hsz Ho2 H2
      go_wp2
      go_loopw [3, 6] (fun u x wr => ∃ k : Nat, k ≤ 4 ∧ x = .int .i64 k ∧ Own wr w.heap.size 5 u (byteCells (headP l ++ (four s).take k)) ∧ Below w.heap.size w wr ∧ Lies wr u A3 4 4 (byteCells (four s))) (fun _ x _ => 4 - (intOf x).toNat)
      case atStart => exact ⟨0, Nat.zero_le _, rfl, by rw [List.take_zero, List.append_nil]; exact Ho3.out, B3.out, L3.out⟩
      case round =>
        clear Ho3 B3 L3
        obtain ⟨j, hj, rfl, hown, hbel, hl3⟩ := hrel
        have hsz := hbel.size
        have Hown := hide hown
        have Hb := hide hbel
        have L3 := hide hl3
        clear hown hbel hl3
        by_cases hlt : j < 4
        · obtain ⟨ad, b, rfl, hb, hcell⟩ := L3.out.1.reads.byte hlt
          have hpc := push_cell (headP l) (four s) j b hb
          have Hpc := hide hpc
          have hbb : b.toNat < 256 := UInt8.toNat_lt b
          have hbl : (byteCells (headP l ++ (four s).take j)).length ≤ 100000013 := by rw [bytes_size, List.length_append, List.length_take, Hfl.out]; omega
          clear hpc hb
          go_wp2_with (at_builtin; refine wp_push_far rfl (.tmp 30) (.tmp 35) 23 rfl 5 i0 (.int .u8 0) 1 Try.underlying23 hi hz0 hz1 hz2 rfl w.heap.size _ (byteCells (headP l ++ (four s).take j)) rfl _ _ rfl Hown.out hsz _ rfl rfl (by omega) (by unfold maxLen; omega) _ ?_)
          intro v' w' hown' hb' hf'
          rw [Hpc.out] at hown'
          have Hown' := hide hown'
          have Hb' := hide hb'
          have L3' := hide (L3.out.far hf')
          clear hown' hb' hf'
          go_wp2
          go_roundw
          case rel => exact ⟨j + 1, by omega, by go_num, Hown'.out, Hb.out.trans Hb'.out, L3'.out⟩
          case measure => simp [intOf]; omega
        · have ho2 := Hown.out
          rw [List.take_of_length_le (by rw [Hfl.out]; omega), ← Hsl.out] at ho2
          have Ho2 := hide ho2
          clear ho2 Hown
          go_wp2
          go_ret
          exact ⟨_, rfl, Ho2.out, Hb.out⟩

end Go.Proofs.Ytandmdmgleeogaa
