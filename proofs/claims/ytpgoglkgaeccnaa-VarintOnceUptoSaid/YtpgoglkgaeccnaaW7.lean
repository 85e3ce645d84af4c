/- Walks: SameBytes, the reference's PutString, joined. -/
import Derived.Test.YtpgoglkgaeccnaaW6
namespace Go.Proofs.Ytpgoglkgaeccnaa
open Go.RowKit
open Go.Lib (byteCells strCells)

theorem Sl.conv {w : World} {A : Option Addr} {n c : Nat} {l : List UInt8} (h : Sl w A n c (byteCells l)) : (convert 22 9 (.slice A n c)).run Try.prog w = .ok (.string ⟨l.toArray⟩) w :=
  conv_run h.2.2.2 22 9 5 Try.underlying22 Try.underlying5 Try.underlying9 h.2.2.1

set_option maxRecDepth 20000 in
theorem same11 (A A' : Option Addr) (n c n' c' : Nat) (l : List UInt8) (w : World) (h : Sl w A n c (byteCells l)) (h' : Sl w A' n' c' (byteCells l)) :
    Calls Try.prog 11 #[.slice A n c, .slice A' n' c'] w fun e w' => e = .returned (.bool true) ∧ w = w' := by
  have h1 := h.conv
  have h2 := h'.conv
  clear h h'
  go_enter Try.func11, Try.ntmps11
  go_wp2
  go_ret
  exact ⟨ret_bool (by simp), rfl⟩

theorem str_snoc (s : ByteArray) (k : Nat) (h : k < s.size) : s.data.toList.take (k + 1) = s.data.toList.take k ++ [s[k]] := by
  rw [List.take_succ_eq_append_getElem (by simpa using h)]; rfl
theorem byte_cell (b : UInt8) (l : List UInt8) : byteCells (l ++ [b]) = byteCells l ++ [.int .u8 (b.toNat : Int)] := by rw [Go.Lib.byteCells_append]; rfl

set_option maxRecDepth 20000 in
set_option maxHeartbeats 1600000 in
theorem rputs15 (A : Option Addr) (n c : Nat) (l : List UInt8) (s : ByteArray) (w : World) (h : Sl w A n c (byteCells l)) (hs : s.size ≤ 1000000000) (hn : n ≤ 1000000000) :
    Calls Try.prog 15 #[.slice A n c, .string s] w (Grew w w.heap.size (l ++ (enc s.size ++ s.data.toList))) := by
  obtain ⟨i0, hi, hz0, hz1, hz2⟩ := info_parts info5
  have H9 := enc_len9 s.size (by omega)
  have hlen := h.len
  have Hlen := hide hlen
  have H := hide h
  clear hlen h
  go_enter Try.func15, Try.ntmps15
  go_wp2_with fail
  with_reducible refine (rput13 A n c l _ w H.out (by omega) hn).mono ?_
  rintro e w1 ⟨v, rfl, hown, hb⟩
  rw [Int.toNat_natCast] at hown
  have Hown := hide hown
  have Hb := hide hb
  clear hown hb
  go_wp2
  go_loopw [5, 6] (fun u x wr => ∃ k : Nat, k ≤ s.size ∧ x = .int .i64 k ∧ Own wr w.heap.size 5 u (byteCells (l ++ (enc s.size ++ s.data.toList.take k))) ∧ Below w.heap.size w wr) (fun _ x _ => s.size - (intOf x).toNat)
  case atStart => exact ⟨0, Nat.zero_le _, rfl, by rw [List.take_zero, List.append_nil]; exact Hown.out, Hb.out⟩
  case round =>
    clear Hown Hb
    obtain ⟨k, hk, rfl, hown, hbel⟩ := hrel
    have hsz := hbel.size
    have Hown := hide hown
    have Hb := hide hbel
    clear hown hbel
    by_cases hlt : k < s.size
    · have hbl : (byteCells (l ++ (enc s.size ++ s.data.toList.take k))).length ≤ 3000000000 := by
        rw [bytes_size, List.length_append, List.length_append, List.length_take, Hlen.out]; omega
      have hbb : s[k].toNat < 256 := UInt8.toNat_lt _
      have htk := str_snoc s k hlt
      have Htk := hide htk
      clear htk
      go_wp2_with (at_builtin; refine wp_push rfl (.tmp 17) (.tmp 21) 22 rfl 5 i0 (.int .u8 0) 1 Try.underlying22 hi hz0 hz1 hz2 rfl w.heap.size _ (byteCells (l ++ (enc s.size ++ s.data.toList.take k))) rfl _ _ rfl Hown.out.src hsz _ rfl rfl (by omega) (by unfold maxLen; omega) ?_)
      intro v' w' hown' hb'
      rw [← byte_cell, List.append_assoc, List.append_assoc, ← Htk.out] at hown'
      have Hown' := hide hown'
      have Hb' := hide hb'
      clear hown' hb'
      go_wp2
      go_roundw
      case rel => exact ⟨k + 1, by omega, by go_num, Hown'.out, Hb.out.trans Hb'.out⟩
      case measure => simp [intOf]; omega
    · have hown2 := Hown.out
      rw [List.take_of_length_le (by simp; omega)] at hown2
      have Hown2 := hide hown2
      clear hown2 Hown
      go_wp2
      go_ret
      exact ⟨_, rfl, Hown2.out, Hb.out⟩

set_option maxRecDepth 20000 in
set_option maxHeartbeats 1600000 in
theorem joined25 (A A' : Option Addr) (n c n' c' : Nat) (l l' : List UInt8) (w : World) (h : Sl w A n c (byteCells l)) (h' : Sl w A' n' c' (byteCells l')) (hn : n ≤ 1000000000) (hn' : n' ≤ 1000000000) :
    Calls Try.prog 25 #[.slice A n c, .slice A' n' c'] w (Grew w w.heap.size (l ++ l')) := by
  obtain ⟨i0, hi', hz0, hz1, hz2⟩ := info_parts info5
  have hlen := h.len
  have Hlen := hide hlen
  have hlen' := h'.len
  have Hlen' := hide hlen'
  have H := hide h
  have H' := hide h'
  clear hlen hlen' h h'
  go_enter Try.func25, Try.ntmps25
  go_wp2
  go_loopw [5, 6] (fun u x wr => ∃ k : Nat, k ≤ n ∧ x = .int .i64 k ∧ Own wr w.heap.size 5 u (byteCells (l.take k)) ∧ Below w.heap.size w wr) (fun _ x _ => n - (intOf x).toNat)
  case atStart => exact ⟨0, Nat.zero_le _, rfl, World.ownsRow_nil _ _ _ _, Below.refl _ _⟩
  case round =>
    obtain ⟨k, hk, rfl, hown, hbel⟩ := hrel
    have hsz := hbel.size
    have Hown := hide hown
    have Hb := hide hbel
    clear hown hbel
    by_cases hlt : k < n
    · obtain ⟨ad, b, rfl, hb, hcell⟩ := (H.out.below Hb.out).2.2.2.byte hlt
      have htk := take_snoc' l k b hb
      have Htk := hide htk
      have hbb : b.toNat < 256 := UInt8.toNat_lt b
      have hbl : (byteCells (l.take k)).length ≤ 1000000000 := by rw [bytes_size, List.length_take]; omega
      clear htk hb
      go_wp2_with (at_builtin; refine wp_push rfl (.tmp 14) (.tmp 19) 22 rfl 5 i0 (.int .u8 0) 1 Try.underlying22 hi' hz0 hz1 hz2 rfl w.heap.size _ (byteCells (l.take k)) rfl _ _ rfl Hown.out.src hsz _ rfl rfl (by omega) (by unfold maxLen; omega) ?_)
      intro v' w' hown' hb'
      have Hown' := hide hown'
      have Hb' := hide hb'
      clear hown' hb'
      go_wp2
      go_roundw
      case rel => exact ⟨k + 1, by omega, by go_num, by rw [Htk.out]; exact Hown'.out, Hb.out.trans Hb'.out⟩
      case measure => simp [intOf]; omega
    · have hown2 := Hown.out
      rw [List.take_of_length_le (by rw [Hlen.out]; omega)] at hown2
      have Hown2 := hide hown2
      clear hown2 Hown
      go_wp2
      go_loopw [5, 7] (fun u x wr => ∃ k : Nat, k ≤ n' ∧ x = .int .i64 k ∧ Own wr w.heap.size 5 u (byteCells (l ++ l'.take k)) ∧ Below w.heap.size w wr) (fun _ x _ => n' - (intOf x).toNat)
      case atStart => exact ⟨0, Nat.zero_le _, rfl, by rw [List.take_zero, List.append_nil]; exact Hown2.out, Hb.out⟩
      case round =>
        clear Hb hsz Hown2
        obtain ⟨j, hj, rfl, hown, hbel⟩ := hrel
        have hsz := hbel.size
        have Hown := hide hown
        have Hb := hide hbel
        clear hown hbel
        by_cases hlt2 : j < n'
        · obtain ⟨ad, b, rfl, hb, hcell⟩ := (H'.out.below Hb.out).2.2.2.byte hlt2
          have htk := take_snoc' l' j b hb
          have Htk := hide htk
          have hbb : b.toNat < 256 := UInt8.toNat_lt b
          have hbl : (byteCells (l ++ l'.take j)).length ≤ 2000000000 := by rw [bytes_size, List.length_append, List.length_take, Hlen.out]; omega
          clear htk hb
          go_wp2_with (at_builtin; refine wp_push rfl (.tmp 27) (.tmp 32) 22 rfl 5 i0 (.int .u8 0) 1 Try.underlying22 hi' hz0 hz1 hz2 rfl w.heap.size _ (byteCells (l ++ l'.take j)) rfl _ _ rfl Hown.out.src hsz _ rfl rfl (by omega) (by unfold maxLen; omega) ?_)
          intro v' w' hown' hb'
          have Hown' := hide hown'
          have Hb' := hide hb'
          clear hown' hb'
          go_wp2
          go_roundw
          case rel => exact ⟨j + 1, by omega, by go_num, by rw [Go.Lib.byteCells_append, Htk.out, ← List.append_assoc, ← Go.Lib.byteCells_append]; exact Hown'.out, Hb.out.trans Hb'.out⟩
          case measure => simp [intOf]; omega
        · have hown2 := Hown.out
          rw [List.take_of_length_le (by rw [Hlen'.out]; omega)] at hown2
          have Hown2 := hide hown2
          clear hown2 Hown
          go_wp2
          go_ret
          exact ⟨_, rfl, Hown2.out, Hb.out⟩

end Go.Proofs.Ytpgoglkgaeccnaa
