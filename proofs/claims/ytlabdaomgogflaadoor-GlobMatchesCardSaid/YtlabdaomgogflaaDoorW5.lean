/- Walks of firstElement, isStar and takes. -/
import Derived.Test.YtlabdaomgogflaaDoorW4
namespace Go.Proofs.YtlabdaomgogflaaDoor
open Go.RowKit

theorem u8i (x c : UInt8) : ((x.toNat : Int) == (c.toNat : Int)) = (x == c) := by
  rw [Bool.eq_iff_iff, beq_iff_eq, beq_iff_eq]
  constructor
  · intro h; exact UInt8.toNat_inj.1 (by omega)
  · intro h; rw [h]
theorem u8t {x c : UInt8} (h : x = c) : ((x.toNat : Int) == (c.toNat : Int)) = true := by rw [u8i, h]; simp
theorem u8f {x c : UInt8} (h : x ≠ c) : ((x.toNat : Int) == (c.toNat : Int)) = false := by rw [u8i]; simpa using h
theorem headD_at (s : ByteArray) (h : 0 < s.size) : s.data.toList.headD 0 = s[0] := by
  rw [list1 s h]; rfl

set_option maxHeartbeats 400000 in
theorem star55 (s : ByteArray) (h : 0 < s.size) (w : World) : Calls Tryd.prog 55 #[.string s] w fun e w' => e = .returned (.bool (isStar s.data.toList)) ∧ w = w' := by
  have e : ((s[0].toNat : Int) == 42) = isStar s.data.toList := by
    unfold isStar
    rw [headD_at s h]
    exact u8i s[0] 42
  cases hx : isStar s.data.toList
  all_goals
    rw [hx] at e
    go_enter Tryd.func55, Tryd.ntmps55
    go_wp2
    go_ret
    exact ⟨rfl, rfl⟩

theorem star_len : ∀ (l : List UInt8), (l.dropWhile (· == 42)).length + (l.takeWhile (· == 42)).length = l.length
  | [] => rfl
  | a :: l => by
    rw [List.dropWhile_cons, List.takeWhile_cons]
    split
    · have := star_len l; simp; omega
    · simp
theorem tl61 (s : ByteArray) (h : 0 < s.size) (hx : s[0] = 42) : ∃ (t : ByteArray) (n : Nat), t.size + n = s.size ∧ firstEl s.data.toList = (if 2 < n then 0 else n) ∧ ∀ w, Calls Tryd.prog 61 #[.string s, .string ⟨#[42]⟩] w fun e w' => e = .returned (.string t) ∧ w = w' := by
  refine ⟨⟨(Lib.trimLeftB s.data.toList 42).toArray⟩, (s.data.toList.takeWhile (· == 42)).length, ?_, ?_, ?_⟩
  · rw [size_mk, Lib.trimLeftB, star_len, size_list]
  · have e : ∀ r : List UInt8, (42 :: r).takeWhile (· == 42) = 42 :: r.takeWhile (· == 42) := fun r => by rw [List.takeWhile_cons]; rfl
    rw [list1 s h, hx, e, List.length_cons, Nat.add_comm, firstEl]
    rw [if_pos rfl]
  · intro w
    exact (Tryd.strings_TrimLeft_one s 42 (by decide) w).mono fun _ _ ⟨h1, h2⟩ => ⟨h1, h2.symm⟩

theorem fe_set (s : ByteArray) (h : 0 < s.size) (hx : s[0] = 91) : firstEl s.data.toList = (if Lib.indexByte s.data.toList 93 < 0 then 0 else if setOk (s.extract 1 (Lib.indexByte s.data.toList 93).toNat).data.toList then (Lib.indexByte s.data.toList 93).toNat + 1 else 0) := by
  rw [seg_take, ← List.drop_take]
  conv => lhs; rw [list1 s h, hx, firstEl, if_neg (by decide), if_pos rfl, ← hx, ← list1 s h]
theorem ib62 (s : ByteArray) (w : World) : Calls Tryd.prog 62 #[.string s, .int .u8 93] w fun e w' => e = .returned (.int .i64 (Lib.indexByte s.data.toList 93)) ∧ w = w' :=
  (Tryd.strings_IndexByte s 93 w).mono fun _ _ ⟨h1, h2⟩ => ⟨h1, h2.symm⟩
theorem ib_pos (s : ByteArray) (h : 0 < s.size) (hx : s[0] = 91) (i : Nat) (hi : Lib.indexByte s.data.toList 93 = i) : 1 ≤ i := by
  rw [list1 s h, hx] at hi
  unfold Lib.indexByte at hi
  rw [if_neg (by decide)] at hi
  have := Lib.indexByte_ge (s.data.toList.drop 1) 93
  split at hi
  · omega
  · rename_i hne
    have : ¬ Lib.indexByte (s.data.toList.drop 1) 93 = -1 := by simpa using hne
    omega
theorem rs63' (l : ByteArray) (b : Bool) (hb : setOk l.data.toList = b) (w : World) (hs : l.size ≤ 100000) : Calls Tryd.prog 63 #[.string l] w fun e w' => e = .returned (.bool b) ∧ Below w.heap.size w w' := by
  subst hb
  exact rs63 l ⟨(Lib.trimPrefix l.data.toList [33]).toArray⟩ rfl w hs
theorem in67' (l : ByteArray) (c : UInt8) (b : Bool) (hb : inS l.data.toList c = b) (w : World) (hs : l.size ≤ 100000) : Calls Tryd.prog 67 #[.string l, .int .u8 (c.toNat : Int)] w fun e w' => e = .returned (.bool b) ∧ Below w.heap.size w w' := by
  subst hb
  exact in67 l ⟨(Lib.trimPrefix l.data.toList [33]).toArray⟩ rfl c w hs

set_option maxHeartbeats 1600000 in
theorem fe49 (s : ByteArray) (w : World) (hs : s.size ≤ 100000) (h : 0 < s.size) : Calls Tryd.prog 49 #[.string s] w fun e w' => e = .returned (.int .i64 (firstEl s.data.toList : Nat)) ∧ Below w.heap.size w w' := by
  have hbb : s[0].toNat < 256 := UInt8.toNat_lt _
  by_cases h42 : s[0] = 42
  · have e1 : ((s[0].toNat : Int) == 42) = true := u8t h42
    obtain ⟨t, n, hn, hf, hc⟩ := tl61 s h h42
    have hnn : (s.size : Int) - (t.size : Int) = (n : Int) := by omega
    rw [hf]
    by_cases h2 : 2 < n
    · rw [if_pos h2]
      clear h42 hf
      go_enter Tryd.func49, Tryd.ntmps49
      go_wp2_with (go_at_call 61; refine (hc _).mono ?_; rintro e w' ⟨rfl, rfl⟩)
      go_ret
      exact ⟨rfl, Below.refl _ _⟩
    · rw [if_neg h2]
      clear h42 hf
      go_enter Tryd.func49, Tryd.ntmps49
      go_wp2_with (go_at_call 61; refine (hc _).mono ?_; rintro e w' ⟨rfl, rfl⟩)
      go_ret
      exact ⟨ret_int (by omega), Below.refl _ _⟩
  have e1 : ((s[0].toNat : Int) == 42) = false := u8f h42
  by_cases h91 : s[0] = 91
  · have e2 : ((s[0].toNat : Int) == 91) = true := u8t h91
    rw [fe_set s h h91]
    have hge := Lib.indexByte_ge s.data.toList 93
    have hbd := indexByte_bound s.data.toList 93
    rw [size_list] at hbd
    by_cases hn : Lib.indexByte s.data.toList 93 < 0
    · rw [if_pos hn]
      have hx : Lib.indexByte s.data.toList 93 = -1 := by omega
      have hc := fun w => ib62 s w
      rw [hx] at hc
      clear hn hge hbd hx h42 h91
      go_enter Tryd.func49, Tryd.ntmps49
      go_wp2_with (go_at_call 62; refine (hc _).mono ?_; rintro e w' ⟨rfl, rfl⟩)
      go_ret
      exact ⟨rfl, Below.refl _ _⟩
    · rw [if_neg hn]
      obtain ⟨i, hi⟩ : ∃ i : Nat, Lib.indexByte s.data.toList 93 = i := ⟨(Lib.indexByte s.data.toList 93).toNat, by omega⟩
      have h1 := ib_pos s h h91 i hi
      have hc := fun w => ib62 s w
      rw [hi] at hc hbd ⊢
      rw [Int.toNat_natCast]
      clear hn hge hi h42 h91
      have hsz : (s.extract 1 i).size ≤ 100000 := by simp; omega
      cases hok : setOk (s.extract 1 i).data.toList
      · rw [if_neg (by simp)]
        have Hok := hide hok
        clear hok
        go_enter Tryd.func49, Tryd.ntmps49
        go_wp2_with (first | (go_at_call 62; refine (hc _).mono ?_; rintro e w' ⟨rfl, rfl⟩) | (go_at_call 63; refine (rs63' _ _ Hok.out _ hsz).mono ?_; rintro e w1 ⟨rfl, hb1⟩))
        go_ret
        exact ⟨rfl, hb1⟩
      · rw [if_pos rfl]
        have Hok := hide hok
        clear hok
        go_enter Tryd.func49, Tryd.ntmps49
        go_wp2_with (first | (go_at_call 62; refine (hc _).mono ?_; rintro e w' ⟨rfl, rfl⟩) | (go_at_call 63; refine (rs63' _ _ Hok.out _ hsz).mono ?_; rintro e w1 ⟨rfl, hb1⟩))
        go_ret
        exact ⟨ret_int (by omega), hb1⟩
  have e2 : ((s[0].toNat : Int) == 91) = false := u8f h91
  by_cases h93 : s[0] = 93
  · have e3 : ((s[0].toNat : Int) == 93) = true := u8t h93
    have hf : firstEl s.data.toList = 0 := by rw [list1 s h, firstEl, if_neg h42, if_neg h91, if_pos h93]
    rw [hf]
    clear h42 h91 h93 hf
    go_enter Tryd.func49, Tryd.ntmps49
    go_wp2
    go_ret
    exact ⟨rfl, Below.refl _ _⟩
  · have e3 : ((s[0].toNat : Int) == 93) = false := u8f h93
    have hf : firstEl s.data.toList = 1 := by rw [list1 s h, firstEl, if_neg h42, if_neg h91, if_neg h93]
    rw [hf]
    clear h42 h91 h93 hf
    go_enter Tryd.func49, Tryd.ntmps49
    go_wp2
    go_ret
    exact ⟨rfl, Below.refl _ _⟩

theorem u8ni (x c : UInt8) : ((x.toNat : Int) != (c.toNat : Int)) = (x != c) := by
  show (!((x.toNat : Int) == (c.toNat : Int))) = !(x == c)
  rw [u8i]
set_option maxHeartbeats 1600000 in
theorem ta56 (s : ByteArray) (c : UInt8) (w : World) (hs : s.size ≤ 100000) (h : 0 < s.size) (h2 : s[0] = 91 → 2 ≤ s.size) : Calls Tryd.prog 56 #[.string s, .int .u8 (c.toNat : Int)] w fun e w' => e = .returned (.bool (takes s.data.toList c)) ∧ Below w.heap.size w w' := by
  have hbb : s[0].toNat < 256 := UInt8.toNat_lt _
  have hcc : c.toNat < 256 := UInt8.toNat_lt _
  unfold takes
  rw [headD_at s h]
  have e4 : ((c.toNat : Int) != 47) = (c != 47) := u8ni c 47
  by_cases h42 : s[0] = 42
  · have e1 : ((s[0].toNat : Int) == 42) = true := u8t h42
    rw [if_pos h42]
    have e5 : (s.toList == [42, 42]) = (s.data.toList == [42, 42]) := by rw [Lib.toList_data]
    cases hx : (s.data.toList == [42, 42])
    · rw [hx] at e5
      cases hy : (c != 47)
      all_goals
        rw [hy] at e4
        clear h42 h2 hx hy
        go_enter Tryd.func56, Tryd.ntmps56
        go_wp2
        go_ret
        exact ⟨rfl, Below.refl _ _⟩
    · rw [hx] at e5
      clear h42 h2 hx
      go_enter Tryd.func56, Tryd.ntmps56
      go_wp2
      go_ret
      exact ⟨rfl, Below.refl _ _⟩
  have e1 : ((s[0].toNat : Int) == 42) = false := u8f h42
  rw [if_neg h42]
  by_cases h63 : s[0] = 63
  · have e2 : ((s[0].toNat : Int) == 63) = true := u8t h63
    rw [if_pos h63]
    cases hy : (c != 47)
    all_goals
      rw [hy] at e4
      clear h42 h2 h63 hy
      go_enter Tryd.func56, Tryd.ntmps56
      go_wp2
      go_ret
      exact ⟨rfl, Below.refl _ _⟩
  have e2 : ((s[0].toNat : Int) == 63) = false := u8f h63
  rw [if_neg h63]
  by_cases h91 : s[0] = 91
  · have e3 : ((s[0].toNat : Int) == 91) = true := u8t h91
    rw [if_pos h91]
    have h2' := h2 h91
    have hseg : (s.extract 1 (s.size - 1)).data.toList = (s.data.toList.take (s.data.toList.length - 1)).drop 1 := by rw [seg_take, ← List.drop_take, size_list]
    rw [← hseg]
    cases hy : (c != 47)
    · rw [hy] at e4
      clear h42 h2 h63 h91 hy hseg
      go_enter Tryd.func56, Tryd.ntmps56
      go_wp2
      go_ret
      exact ⟨rfl, Below.refl _ _⟩
    · rw [hy] at e4
      rw [Bool.true_and]
      obtain ⟨b, hb⟩ : ∃ b, inS (s.extract 1 (s.size - 1)).data.toList c = b := ⟨_, rfl⟩
      rw [hb]
      have hsz : (s.extract 1 (s.size - 1)).size ≤ 100000 := by simp; omega
      have Hb := hide hb
      clear h42 h2 h63 h91 hy hseg hb
      obtain ⟨m, hm⟩ : ∃ m, s.size - 1 = m := ⟨_, rfl⟩
      rw [hm] at Hb hsz
      have hm' : (s.size : Int) - 1 = (m : Int) := by omega
      clear hm
      go_enter Tryd.func56, Tryd.ntmps56
      go_wp2_with (go_at_call 67; refine (in67' _ _ _ Hb.out _ hsz).mono ?_; rintro e w1 ⟨rfl, hb1⟩)
      go_ret
      exact ⟨rfl, hb1⟩
  have e3 : ((s[0].toNat : Int) == 91) = false := u8f h91
  rw [if_neg h91]
  have e5 : ((s[0].toNat : Int) == (c.toNat : Int)) = (s[0] == c) := u8i _ _
  cases hy : (s[0] == c)
  all_goals
    rw [hy] at e5
    clear h42 h2 h63 h91 hy
    go_enter Tryd.func56, Tryd.ntmps56
    go_wp2
    go_ret
    exact ⟨rfl, Below.refl _ _⟩

end Go.Proofs.YtlabdaomgogflaaDoor
