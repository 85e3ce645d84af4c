/- Walks of layer 7's reference: FoldByte, Code, Ints, Has. -/
import Derived.Test.YtdneoeiggebijaaProg
import Derived.Test.YtdneoeiggebijaaMem
import Derived.Test.YtdneoeiggebijaaTri
namespace Go.Proofs.Ytdneoeiggebijaa
open Go.RowKit
open Go.Lib (byteCells)

theorem fold23 (c : UInt8) (x : Nat) (hx : (fld c).toNat = x) (w : World) : Calls Try.prog 23 #[.int .u8 (c.toNat : Int)] w fun e w' => e = .returned (.int .u8 (x : Int)) ∧ w = w' := by
  subst hx
  have hc := byte_lt c
  by_cases h : 65 ≤ c.toNat
  · by_cases h' : c.toNat ≤ 90
    · have Hf := hide (fld_up c ⟨h, h'⟩)
      go_enter Try.func23, Try.ntmps23
      go_wp2
      go_ret
      exact ⟨ret_int (by rw [Hf.out]), rfl⟩
    · have Hf := hide (fld_low c (by omega))
      go_enter Try.func23, Try.ntmps23
      go_wp2
      go_ret
      exact ⟨ret_int (by rw [Hf.out]), rfl⟩
  · have Hf := hide (fld_low c (by omega))
    go_enter Try.func23, Try.ntmps23
    go_wp2
    go_ret
    exact ⟨ret_int (by rw [Hf.out]), rfl⟩
theorem fat_at (s : ByteArray) (k : Nat) (h : k < s.size) : (fld s[k]).toNat = fat s.data.toList k := by unfold fat; rw [getD_byte s k h]
set_option maxHeartbeats 800000 in
theorem at31 (s : ByteArray) (k : Nat) (m : Int) (w : World) (hk : k + 2 < s.size) (hs : s.size ≤ 9223372036854775807) (hm : tri s.data.toList k = m) :
    Calls Try.prog 31 #[.string s, .int .i64 (k : Int)] w fun e w' => e = .returned (.int .i64 m) ∧ Drawn w w' := by
  have k0 : k < s.size := by omega
  have k1 : k + 1 < s.size := by omega
  have k2 : (0 : Int) ≤ (k : Int) + 1 := by omega
  have k3 : (k : Int) + 1 < (s.size : Int) := by omega
  have k4 : (0 : Int) ≤ (k : Int) + 2 := by omega
  have k5 : (k : Int) + 2 < (s.size : Int) := by omega
  have b0 := byte_lt (fld s[k])
  have b1 := byte_lt (fld s[k + 1])
  have b2 := byte_lt (fld s[k + 2])
  have Hm := hide (show ((fld s[k]).toNat : Int) * 65536 + ((fld s[k + 1]).toNat : Int) * 256 + ((fld s[k + 2]).toNat : Int) = m by
    rw [← hm, fat_at s k k0, fat_at s (k + 1) k1, fat_at s (k + 2) hk]; rfl)
  clear hm
  go_enter Try.func31, Try.ntmps31
  go_wp2
  go_quiet ((go_at_call 23; exact quiet_left (fold23 _ _ rfl _)))
  go_wp2
  go_ret
  exact ⟨ret_int (by rw [← Hm.out]; omega), _, rfl⟩
theorem ret_tup {a b : Value} {c d : Value} (h : a = c) (h' : b = d) : Ending.returned (.tuple #[a, b]) = .returned (.tuple #[c, d]) := by rw [h, h']
theorem infoI : (Try.prog.info? 3).map (fun i => (i.zero, i.size, i.bytes)) = some (some (.int .i64 0), 1, 8) := by kernel_rfl
/-- Ints, new or old. -/
def GotI (w : World) (l : List Int) (e : Ending) (w' : World) : Prop := ∃ A n c, e = .returned (.slice A n c) ∧ Sl w' A n c (numCells l) ∧ Below w.heap.size w w'
theorem GrewI.got {w w' : World} {l : List Int} {e : Ending} (h : GrewI w l e w') : GotI w l e w' := by
  obtain ⟨A, m, c, rfl, _, hs, hb⟩ := h.sl
  exact ⟨A, m, c, rfl, hs, hb⟩
theorem put_skip : ∀ (l : List Int) (k : Nat) (m : Int), (∀ y ∈ l.take k, y < m) → putS l m = l.take k ++ putS (l.drop k) m
  | l, 0, m, _ => by simp
  | [], k + 1, m, _ => by simp
  | x :: l, k + 1, m, h => by
    have hx : x < m := h x (by simp)
    have ih := put_skip l k m fun y hy => h y (by simp [hy])
    show putS (x :: l) m = x :: (l.take k ++ putS (l.drop k) m)
    rw [← ih]
    conv => lhs; unfold putS
    rw [if_neg (by omega), if_neg (by omega)]
theorem put_gt (x m : Int) (l : List Int) (h : m < x) : putS (x :: l) m = m :: x :: l := by
  conv => lhs; unfold putS
  rw [if_pos h]
theorem put_eq (m : Int) (l : List Int) : putS (m :: l) m = m :: l := by
  conv => lhs; unfold putS
  rw [if_neg (by omega), if_pos rfl]
theorem drop_cons (l : List Int) (k : Nat) (z : Int) (h : l[k]? = some z) : l.drop k = z :: l.drop (k + 1) := by
  have hk := (List.getElem?_eq_some_iff.1 h).1
  rw [List.drop_eq_getElem_cons hk, (List.getElem?_eq_some_iff.1 h).2]
theorem take_at (l : List Int) (k : Nat) (z : Int) (h : l[k]? = some z) : l.take (k + 1) = l.take k ++ [z] := by
  rw [List.take_succ_eq_append_getElem (List.getElem?_eq_some_iff.1 h).1, (List.getElem?_eq_some_iff.1 h).2]
set_option maxRecDepth 20000 in
set_option maxHeartbeats 800000 in
theorem rsame11 (A A' : Option Addr) (n c n' c' : Nat) (xs : List Int) (w : World) (h : Sl w A n c (numCells xs)) (h' : Sl w A' n' c' (numCells xs)) :
    Calls Try.prog 11 #[.slice A n c, .slice A' n' c'] w fun e w' => e = .returned (.bool true) ∧ Drawn w w' := by
  have e : n' = n := by rw [← h.nlen, h'.nlen]
  subst e
  have hc := h.2.1
  have hnc := h.1
  have H := hide h
  have H' := hide h'
  clear h h'
  go_enter Try.func11, Try.ntmps11
  go_wp2
  go_loopw [5] (fun x wr => ∃ k : Nat, k ≤ n' ∧ x = .int .i64 k ∧ Drawn w wr) (fun x _ => n' - (intOf x).toNat)
  case atStart => exact ⟨0, Nat.zero_le _, rfl, Drawn.refl _⟩
  case round =>
    obtain ⟨k, hk, rfl, hd⟩ := hrel
    have Hd := hide hd
    have hbel := hd.below w.heap.size
    clear hd
    by_cases hlt : k < n'
    · obtain ⟨ad, z, rfl, hz, hcell⟩ := num_cell (H.out.below hbel).reads hlt
      obtain ⟨ad', z', rfl, hz', hcell'⟩ := num_cell (H'.out.below hbel).reads hlt
      rw [hz] at hz'
      cases hz'
      clear hz hbel
      go_wp2
      go_quiet (fail)
      go_wp2
      go_roundw
      case rel => exact ⟨k + 1, by omega, by go_num, Hd.out.more _⟩
      case measure => simp [intOf]; omega
    · clear hbel
      go_wp2
      go_ret
      exact ⟨rfl, Hd.out⟩
theorem notin_take (l : List Int) (k : Nat) (z m : Int) (h : m ∉ l.take k) (hz : l[k]? = some z) (hne : ¬ z = m) : m ∉ l.take (k + 1) := by
  rw [take_at l k z hz, List.mem_append]
  rintro (h1 | h1)
  · exact h h1
  · simp at h1; exact hne h1.symm
set_option maxRecDepth 20000 in
set_option maxHeartbeats 800000 in
theorem has32 (A : Option Addr) (n c : Nat) (l : List Int) (m : Int) (r : Bool) (hr : decide (m ∈ l) = r) (w : World) (h : Sl w A n c (numCells l)) :
    Calls Try.prog 32 #[.slice A n c, .int .i64 m] w fun e w' => e = .returned (.bool r) ∧ w = w' := by
  subst hr
  have hc := h.2.1
  have hnc := h.1
  have Hlen := hide h.nlen
  have H := hide h
  clear h
  go_enter Try.func32, Try.ntmps32
  go_wp2
  go_loop [5] (fun x => ∃ k : Nat, k ≤ n ∧ x = .int .i64 k ∧ m ∉ l.take k) (fun x => n - (intOf x).toNat)
  case atStart => exact ⟨0, Nat.zero_le _, rfl, by simp⟩
  case round =>
    obtain ⟨k, hk, rfl, hm⟩ := hrel
    have Hm := hide hm
    clear hm
    by_cases hlt : k < n
    · obtain ⟨ad, z, rfl, hz, hcell⟩ := num_cell H.out.reads hlt
      by_cases he : z = m
      · subst he
        have Hr := hide (show decide (z ∈ l) = true from decide_eq_true (List.mem_of_getElem? hz))
        clear hz
        go_wp2
        go_ret
        exact ⟨ret_bool Hr.out.symm, rfl⟩
      · have Hnx := hide (notin_take l k z m Hm.out hz he)
        have hb : (z == m) = false := beq_eq_false_iff_ne.2 he
        clear hz he
        go_wp2
        go_round
        case rel => exact ⟨k + 1, by omega, by go_num, Hnx.out⟩
        case measure => simp [intOf]; omega
    · have hm2 := Hm.out
      rw [List.take_of_length_le (by rw [Hlen.out]; omega)] at hm2
      have Hr := hide (decide_eq_false hm2)
      clear hm2
      go_wp2
      go_ret
      exact ⟨ret_bool Hr.out.symm, rfl⟩
theorem infoG : (Try.prog.info? 32).map (fun i => (i.zero, i.size, i.bytes)) = some (some (.agg #[.int .i64 0, .slice none 0 0]), 2, 32) := by kernel_rfl
theorem gk_succ (d : List UInt8) (L : List Int) (k : Nat) (z : Int) (h : L[k]? = some z) : ((L.take k).map fun c => (c, offs d c)) ++ [(z, offs d z)] = (L.take (k + 1)).map fun c => (c, offs d c) := by
  rw [take_at L k z h, List.map_append]
  rfl
end Go.Proofs.Ytdneoeiggebijaa
