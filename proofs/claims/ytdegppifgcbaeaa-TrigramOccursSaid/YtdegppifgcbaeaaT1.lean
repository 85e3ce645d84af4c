/- Walks of layer 6's reference: fold, at, Code, String; the law's folded. -/
import Derived.Test.YtdegppifgcbaeaaProg
import Derived.Test.YtdegppifgcbaeaaMem
import Derived.Test.YtdegppifgcbaeaaTri
namespace Go.Proofs.Ytdegppifgcbaeaa
open Go.RowKit
open Go.Lib (byteCells)

theorem fold34 (c : UInt8) (x : Nat) (hx : (fld c).toNat = x) (w : World) : Calls Try.prog 34 #[.int .u8 (c.toNat : Int)] w fun e w' => e = .returned (.int .u8 (x : Int)) ∧ w = w' := by
  subst hx
  have hc := byte_lt c
  by_cases h : 65 ≤ c.toNat
  · by_cases h' : c.toNat ≤ 90
    · have Hf := hide (fld_up c ⟨h, h'⟩)
      go_enter Try.func34, Try.ntmps34
      go_wp2
      go_ret
      exact ⟨ret_int (by rw [Hf.out]; omega), rfl⟩
    · have Hf := hide (fld_low c (by omega))
      go_enter Try.func34, Try.ntmps34
      go_wp2
      go_ret
      exact ⟨ret_int (by rw [Hf.out]), rfl⟩
  · have Hf := hide (fld_low c (by omega))
    go_enter Try.func34, Try.ntmps34
    go_wp2
    go_ret
    exact ⟨ret_int (by rw [Hf.out]), rfl⟩
theorem folded32 (c : UInt8) (x : Nat) (hx : (fld c).toNat = x) (w : World) : Calls Try.prog 32 #[.int .u8 (c.toNat : Int)] w fun e w' => e = .returned (.int .u8 (x : Int)) ∧ w = w' := by
  subst hx
  have hc := byte_lt c
  by_cases h : 65 ≤ c.toNat
  · by_cases h' : c.toNat ≤ 90
    · have Hf := hide (fld_up c ⟨h, h'⟩)
      go_enter Try.func32, Try.ntmps32
      go_wp2
      go_ret
      exact ⟨ret_int (by rw [Hf.out]), rfl⟩
    · have Hf := hide (fld_low c (by omega))
      go_enter Try.func32, Try.ntmps32
      go_wp2
      go_ret
      exact ⟨ret_int (by rw [Hf.out]), rfl⟩
  · have Hf := hide (fld_low c (by omega))
    go_enter Try.func32, Try.ntmps32
    go_wp2
    go_ret
    exact ⟨ret_int (by rw [Hf.out]), rfl⟩

theorem fat_at (s : ByteArray) (k : Nat) (h : k < s.size) : (fld s[k]).toNat = fat s.data.toList k := by unfold fat; rw [getD_byte s k h]

set_option maxHeartbeats 800000 in
theorem at27 (s : ByteArray) (k : Nat) (m : Int) (w : World) (hk : k + 2 < s.size) (hs : s.size ≤ 9223372036854775807) (hm : tri s.data.toList k = m) :
    Calls Try.prog 27 #[.string s, .int .i64 (k : Int)] w fun e w' => e = .returned (.int .i64 m) ∧ Drawn w w' := by
  have k0 : k < s.size := by omega
  have k1 : k + 1 < s.size := by omega
  have k2 : (0 : Int) ≤ (k : Int) + 1 := by omega
  have k3 : (k : Int) + 1 < (s.size : Int) := by omega
  have k4 : (0 : Int) ≤ (k : Int) + 2 := by omega
  have k5 : (k : Int) + 2 < (s.size : Int) := by omega
  have b0 := byte_lt (fld s[k])
  have b1 := byte_lt (fld s[k + 1])
  have b2 := byte_lt (fld s[k + 2])
  have Hm := hide (show ((fld s[k]).toNat : Int) * 65536 + ((fld s[k + 1]).toNat : Int) * 256 + ((fld s[k + 2]).toNat : Int) = m by
    rw [← hm, fat_at s k k0, fat_at s (k + 1) k1, fat_at s (k + 2) hk]; rfl)
  clear hm
  go_enter Try.func27, Try.ntmps27
  go_wp2
  go_quiet ((go_at_call 34; exact quiet_left (fold34 _ _ rfl _)))
  go_wp2
  go_ret
  exact ⟨ret_int Hm.out, _, rfl⟩

theorem ret_tup {a b : Value} {c d : Value} (h : a = c) (h' : b = d) : Ending.returned (.tuple #[a, b]) = .returned (.tuple #[c, d]) := by rw [h, h']

set_option maxHeartbeats 800000 in
theorem rcode11 (s : ByteArray) (w : World) (hs : s.size ≤ 9223372036854775807) :
    Calls Try.prog 11 #[.string s] w fun e w' => e = .returned (.tuple #[.int .i64 (codeS s.data.toList), .bool (decide (s.size = 3))]) ∧ Drawn w w' := by
  by_cases h : s.size = 3
  · have hb : ((s.size : Int) != 3) = false := by rw [h]; rfl
    have Hc := hide (show codeS s.data.toList = tri s.data.toList 0 by unfold codeS; rw [if_pos (by rw [size_list]; exact h)])
    have Hd := hide (decide_eq_true h)
    have h3 : 3 ≤ s.size := by omega
    clear h
    go_enter Try.func11, Try.ntmps11
    go_wp2_with fail
    refine (at27 s 0 (tri s.data.toList 0) _ (by omega) hs rfl).mono ?_
    rintro e w' ⟨rfl, hd⟩
    go_wp2
    go_ret2
    exact ⟨by rw [Hc.out, Hd.out]; rfl, hd⟩
  · have hb : ((s.size : Int) != 3) = true := by rw [bne_iff_ne]; omega
    have Hc := hide (show codeS s.data.toList = 0 by unfold codeS; rw [if_neg (by rw [size_list]; exact h)])
    have Hd := hide (decide_eq_false h)
    clear h
    go_enter Try.func11, Try.ntmps11
    go_wp2
    go_ret2
    exact ⟨by rw [Hc.out, Hd.out]; rfl, Drawn.refl _⟩

def strA (c : Int) : ByteArray := ⟨(strL c).toArray⟩
theorem strL_in (c : Int) (h : 0 ≤ c) (h' : c < 16777216) : strL c = [UInt8.ofNat (c.toNat / 65536), UInt8.ofNat (c.toNat / 256), UInt8.ofNat c.toNat] := by unfold strL; rw [if_pos ⟨h, h'⟩]

theorem own_lit (w : World) (cs : Array Value) (e : TypeId) (h : cs.size ≤ maxLen) : Own (w.alloc (.cells cs e)) w.heap.size e (.slice (some ⟨w.heap.size, 0, none⟩) cs.size cs.size) cs.toList := by
  have := World.ownsRow_lit (e := e) (size := 1) (base := w.heap.size) w cs cs.size (Nat.le_refl _) h (by omega)
  unfold Own
  rw [Array.length_toList]
  exact this
theorem conv3 (c : Int) (w : World) (h : 0 ≤ c) (h' : c < 16777216) :
    (convert 40 9 (.slice (some ⟨w.heap.size, 0, none⟩) 3 3)).run Try.prog (w.alloc (.cells #[.int .u8 (c / 65536), .int .u8 (c / 256 % 256), .int .u8 (c % 256)] 5)) = .ok (.string (strA c)) (w.alloc (.cells #[.int .u8 (c / 65536), .int .u8 (c / 256 % 256), .int .u8 (c % 256)] 5)) := by
  have ho := own_lit w #[.int .u8 (c / 65536), .int .u8 (c / 256 % 256), .int .u8 (c % 256)] 5 (by unfold maxLen; simp)
  have e : [Value.int .u8 (c / 65536), .int .u8 (c / 256 % 256), .int .u8 (c % 256)] = byteCells (strL c) := by
    rw [strL_in c h h']
    simp [byteCells]
    omega
  have hr := Reads.of_own (w := w.alloc (.cells #[.int .u8 (c / 65536), .int .u8 (c / 256 % 256), .int .u8 (c % 256)] 5)) ho
  rw [show (#[Value.int .u8 (c / 65536), .int .u8 (c / 256 % 256), .int .u8 (c % 256)] : Array Value).toList = byteCells (strL c) from e] at hr
  exact conv_run hr 40 9 5 Try.underlying40 Try.underlying5 Try.underlying9 (fun e => by cases e)

set_option maxHeartbeats 800000 in
theorem rstr13 (c : Int) (w : World) (hc : -9223372036854775808 ≤ c ∧ c ≤ 9223372036854775807) :
    Calls Try.prog 13 #[.int .i64 c] w fun e w' => e = .returned (.tuple #[.string (strA c), .bool (strOk c)]) ∧ Below w.heap.size w w' := by
  by_cases h : 0 ≤ c
  · by_cases h' : c < 16777216
    · go_enter Try.func13, Try.ntmps13
      have kc := conv3 c w h h'
      have Hd := hide (show strOk c = true by unfold strOk; rw [decide_eq_true]; exact ⟨h, h'⟩)
      go_wp2
      go_ret2
      exact ⟨by rw [Hd.out]; rfl, bnew (Below.refl _ w) _⟩
    · have Hl := hide (show strA c = ByteArray.empty by unfold strA strL; rw [if_neg (by omega)]; rfl)
      have Hd := hide (show strOk c = false by unfold strOk; rw [decide_eq_false]; omega)
      go_enter Try.func13, Try.ntmps13
      go_wp2
      go_ret2
      exact ⟨by rw [Hl.out, Hd.out]; rfl, Below.refl _ _⟩
  · have Hl := hide (show strA c = ByteArray.empty by unfold strA strL; rw [if_neg (by omega)]; rfl)
    have Hd := hide (show strOk c = false by unfold strOk; rw [decide_eq_false]; omega)
    go_enter Try.func13, Try.ntmps13
    go_wp2
    go_ret2
    exact ⟨by rw [Hl.out, Hd.out]; rfl, Below.refl _ _⟩

end Go.Proofs.Ytdegppifgcbaeaa
