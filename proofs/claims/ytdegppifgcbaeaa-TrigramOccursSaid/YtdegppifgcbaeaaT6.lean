/- Walk of the law's begins. -/
import Derived.Test.YtdegppifgcbaeaaT5
namespace Go.Proofs.Ytdegppifgcbaeaa
open Go.RowKit

set_option maxRecDepth 100000 in
set_option maxHeartbeats 1600000 in
theorem begins22 (s t : ByteArray) (i : Nat) (r : Bool) (w : World) (hi : i + 2 < s.size) (hs : s.size ≤ 9223372036854775807) (t0 : 0 < t.size) (t1 : 1 < t.size) (t2 : 2 < t.size)
    (hr : (decide ((fld (s[i]'(by omega))).toNat = (t[0]'(by omega)).toNat) && (decide ((fld (s[i + 1]'(by omega))).toNat = (t[1]'(by omega)).toNat) && decide ((fld s[i + 2]).toNat = (t[2]'(by omega)).toNat))) = r) :
    Calls Try.prog 22 #[.string s, .int .i64 (i : Int), .string t] w fun e w' => e = .returned (.bool r) ∧ Drawn w w' := by
  have k0 : i < s.size := by omega
  have k1 : i + 1 < s.size := by omega
  have ki : (0 : Int) ≤ (i : Int) := by omega
  have kd : decide ((i : Int) ≤ (s.size : Int) - 3) = true := decide_eq_true (by omega)
  have kp : (i : Int) ≤ (s.size : Int) - 3 := by omega
  have kw1 : IntKind.i64.wrap ((i : Int) + 1) = (i : Int) + 1 := IntWalk.i64_in _ (by omega)
  have kw2 : IntKind.i64.wrap ((i : Int) + 2) = (i : Int) + 2 := IntWalk.i64_in _ (by omega)
  have i1 : (1 : Int) < (t.size : Int) := by omega
  have i2 : (2 : Int) < (t.size : Int) := by omega
  have kw : IntKind.i64.wrap ((s.size : Int) - 3) = (s.size : Int) - 3 := IntWalk.i64_in _ (by omega)
  have k2 : (0 : Int) ≤ (i : Int) + 1 := by omega
  have k3 : (i : Int) + 1 < (s.size : Int) := by omega
  have k4 : (0 : Int) ≤ (i : Int) + 2 := by omega
  have k5 : (i : Int) + 2 < (s.size : Int) := by omega
  have b0 := byte_lt (fld s[i])
  have b1 := byte_lt (fld s[i + 1])
  have b2 := byte_lt (fld s[i + 2])
  by_cases e0 : (fld s[i]).toNat = (t[0]).toNat
  · have q0 : (((fld s[i]).toNat : Int) == ((t[0]).toNat : Int)) = true := by rw [beq_iff_eq]; omega
    by_cases e1 : (fld s[i + 1]).toNat = (t[1]).toNat
    · have q1 : (((fld s[i + 1]).toNat : Int) == ((t[1]).toNat : Int)) = true := by rw [beq_iff_eq]; omega
      by_cases e2 : (fld s[i + 2]).toNat = (t[2]).toNat
      · have q2 : (((fld s[i + 2]).toNat : Int) == ((t[2]).toNat : Int)) = true := by rw [beq_iff_eq]; omega
        have Hr := hide (show r = true by rw [← hr, decide_eq_true e0, decide_eq_true e1, decide_eq_true e2]; rfl)
        clear hr e0 e1 e2
        go_enter Try.func22, Try.ntmps22
        go_wp2
        go_quiet ((go_at_call 32; exact quiet_left (folded32 _ _ rfl _)))
        go_wp2
        go_ret
        exact ⟨ret_bool Hr.out.symm, _, rfl⟩
      · have q2 : (((fld s[i + 2]).toNat : Int) == ((t[2]).toNat : Int)) = false := by rw [beq_eq_false_iff_ne]; omega
        have Hr := hide (show r = false by rw [← hr, decide_eq_false e2]; simp)
        clear hr e0 e1 e2
        go_enter Try.func22, Try.ntmps22
        go_wp2
        go_quiet ((go_at_call 32; exact quiet_left (folded32 _ _ rfl _)))
        go_wp2
        go_ret
        exact ⟨ret_bool Hr.out.symm, _, rfl⟩
    · have q1 : (((fld s[i + 1]).toNat : Int) == ((t[1]).toNat : Int)) = false := by rw [beq_eq_false_iff_ne]; omega
      have Hr := hide (show r = false by rw [← hr, decide_eq_false e1]; simp)
      clear hr e0 e1
      go_enter Try.func22, Try.ntmps22
      go_wp2
      go_quiet ((go_at_call 32; exact quiet_left (folded32 _ _ rfl _)))
      go_wp2
      go_ret
      exact ⟨ret_bool Hr.out.symm, _, rfl⟩
  · have q0 : (((fld s[i]).toNat : Int) == ((t[0]).toNat : Int)) = false := by rw [beq_eq_false_iff_ne]; omega
    have Hr := hide (show r = false by rw [← hr, decide_eq_false e0]; simp)
    clear hr e0
    go_enter Try.func22, Try.ntmps22
    go_wp2
    go_quiet ((go_at_call 32; exact quiet_left (folded32 _ _ rfl _)))
    go_wp2
    go_ret
    exact ⟨ret_bool Hr.out.symm, _, rfl⟩

theorem strA_size (c : Int) (h : 0 ≤ c ∧ c < 16777216) : (strA c).size = 3 := by
  unfold strA
  rw [strL_in c h.1 h.2]
  rfl
theorem strA_at (c : Int) (h : 0 ≤ c ∧ c < 16777216) : (((strA c)[0]'(by rw [strA_size c h]; decide)).toNat : Int) = c / 65536 ∧ (((strA c)[1]'(by rw [strA_size c h]; decide)).toNat : Int) = c / 256 % 256 ∧ (((strA c)[2]'(by rw [strA_size c h]; decide)).toNat : Int) = c % 256 := by
  have key : ∀ (l : List UInt8) (x y z : UInt8) (e : l = [x, y, z]) (h0 : 0 < (⟨l.toArray⟩ : ByteArray).size) (h1 : 1 < (⟨l.toArray⟩ : ByteArray).size) (h2 : 2 < (⟨l.toArray⟩ : ByteArray).size),
      (⟨l.toArray⟩ : ByteArray)[0] = x ∧ (⟨l.toArray⟩ : ByteArray)[1] = y ∧ (⟨l.toArray⟩ : ByteArray)[2] = z := by
    intro l x y z e h0 h1 h2
    subst e
    exact ⟨rfl, rfl, rfl⟩
  have hs := strA_size c h
  obtain ⟨e0, e1, e2⟩ := key (strL c) _ _ _ (strL_in c h.1 h.2) (by show 0 < (strA c).size; omega) (by show 1 < (strA c).size; omega) (by show 2 < (strA c).size; omega)
  refine ⟨?_, ?_, ?_⟩
  · have : ((strA c)[0]'(by rw [hs]; decide)).toNat = (UInt8.ofNat (c.toNat / 65536)).toNat := congrArg UInt8.toNat e0
    rw [this]; simp; omega
  · have : ((strA c)[1]'(by rw [hs]; decide)).toNat = (UInt8.ofNat (c.toNat / 256)).toNat := congrArg UInt8.toNat e1
    rw [this]; simp; omega
  · have : ((strA c)[2]'(by rw [hs]; decide)).toNat = (UInt8.ofNat c.toNat).toNat := congrArg UInt8.toNat e2
    rw [this]; simp; omega

/-- begins, at the bytes of a code. -/
theorem begC (s : ByteArray) (i : Nat) (c : Int) (r : Bool) (w : World) (hi : i + 2 < s.size) (hs : s.size ≤ 9223372036854775807) (hc : 0 ≤ c ∧ c < 16777216) (hr : decide (tri s.data.toList i = c) = r) :
    Calls Try.prog 22 #[.string s, .int .i64 (i : Int), .string (strA c)] w fun e w' => e = .returned (.bool r) ∧ Drawn w w' := by
  refine begins22 s (strA c) i r w hi hs (by rw [strA_size c hc]; decide) (by rw [strA_size c hc]; decide) (by rw [strA_size c hc]; decide) ?_
  obtain ⟨e0, e1, e2⟩ := strA_at c hc
  rw [← hr, fat_at s i (by omega), fat_at s (i + 1) (by omega), fat_at s (i + 2) hi, ← Bool.decide_and, ← Bool.decide_and]
  apply decide_eq_decide.2
  rw [← beg_iff s.data.toList i c hc]
  unfold beg
  constructor
  · rintro ⟨x, y, z⟩; omega
  · rintro ⟨x, y, z⟩; omega

end Go.Proofs.Ytdegppifgcbaeaa
