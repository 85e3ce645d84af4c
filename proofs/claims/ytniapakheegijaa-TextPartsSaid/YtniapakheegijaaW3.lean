/- Walks of the reference's stop, line and Starts. -/
import Derived.Test.YtniapakheegijaaPl
import Derived.Test.YtniapakheegijaaW2
namespace Go.Proofs.Ytniapakheegijaa
open Go.RowKit

theorem getD_byte (s : ByteArray) (k : Nat) (h : k < s.size) : s.data.toList.getD k 0 = s[k] := by
  rw [List.getD_eq_getElem?_getD, List.getElem?_eq_getElem (by simpa using h)]
  rfl
theorem byte_nl (c : UInt8) : c = 10 ↔ c.toNat = 10 := by
  rw [← UInt8.toNat_inj]; rfl
theorem nl_yes (s : ByteArray) (k : Nat) (h : k < s.size) (hc : s[k].toNat = 10) : s.data.toList.getD k 0 = 10 := by
  rw [getD_byte s k h]; exact (byte_nl _).2 hc
theorem nl_no (s : ByteArray) (k : Nat) (h : k < s.size) (hc : ¬ s[k].toNat = 10) : s.data.toList.getD k 0 ≠ 10 := by
  rw [getD_byte s k h]; exact fun e => hc ((byte_nl _).1 e)
theorem size_list (s : ByteArray) : s.data.toList.length = s.size := by simp

def NoNl (s : ByteArray) (a k : Nat) : Prop := ∀ j, a ≤ j → j < k → s.data.toList.getD j 0 ≠ 10
theorem NoNl.step {s : ByteArray} {a k : Nat} (h : NoNl s a k) (hk : s.data.toList.getD k 0 ≠ 10) : NoNl s a (k + 1) := by
  intro j h1 h2
  by_cases hj : j = k
  · subst hj; exact hk
  · exact h j h1 (by omega)

theorem NoNl.stop {s : ByteArray} {a k : Nat} (h : NoNl s a k) (hak : a ≤ k) (hk : k < s.size) (hc : s.data.toList.getD k 0 = 10) : ((k : Int) + 1) = (stopN s.data.toList a : Nat) := by
  have := lineEnd_eq s.data.toList a k hak h (Or.inl ⟨by simpa using hk, hc⟩)
  unfold stopN
  rw [this, size_list]; omega
theorem NoNl.all {s : ByteArray} {a k : Nat} (h : NoNl s a k) (hak : a ≤ k) (hk : k = s.size) : (s.size : Int) = (stopN s.data.toList a : Nat) := by
  have := lineEnd_eq s.data.toList a k hak h (Or.inr (by simpa using hk))
  unfold stopN
  rw [this, size_list]; omega

set_option maxHeartbeats 800000 in
theorem stop36 (s : ByteArray) (a : Nat) (w : World) (hs : s.size ≤ 100000) (ha : a ≤ s.size) : Calls Try.prog 36 #[.string s, .int .i64 a] w fun e w' => e = .returned (.int .i64 (stopN s.data.toList a : Nat)) ∧ w = w' := by
  go_enter Try.func36, Try.ntmps36
  go_wp2
  go_loop [5] (fun i => ∃ k : Nat, a ≤ k ∧ k ≤ s.size ∧ i = .int .i64 k ∧ NoNl s a k) (fun i => s.size - (intOf i).toNat)
  case atStart => exact ⟨a, Nat.le_refl _, ha, rfl, fun j h1 h2 => by omega⟩
  case round =>
    obtain ⟨k, hak, hk, rfl, hno⟩ := hrel
    by_cases hlt : k < s.size
    · by_cases hc : s[k].toNat = 10
      · have hfin := hno.stop hak hlt (nl_yes s k hlt hc)
        have Hfin := hide hfin
        have hb : ((s[k].toNat : Int) == 10) = true := by simp [hc]
        clear hfin hc hno
        go_wp2
        go_ret
        exact ⟨ret_int Hfin.out, rfl⟩
      · have hnx := hno.step (nl_no s k hlt hc)
        have hb : ((s[k].toNat : Int) == 10) = false := by simp; omega
        clear hc hno
        go_wp2
        go_round
        case rel => exact ⟨k + 1, by omega, by omega, by go_num, hnx⟩
        case measure => simp [intOf]; omega
    · have hfin := hno.all hak (by omega)
      have Hfin := hide hfin
      clear hfin hno
      go_wp2
      go_ret
      exact ⟨ret_int Hfin.out, rfl⟩

set_option maxHeartbeats 800000 in
theorem line40 (s : ByteArray) (off : Nat) (w : World) (hs : s.size ≤ 100000) (ho : off ≤ s.size) : Calls Try.prog 40 #[.string s, .int .i64 off] w fun e w' => e = .returned (.int .i64 (lineNo s.data.toList off : Nat)) ∧ w = w' := by
  go_enter Try.func40, Try.ntmps40
  go_wp2
  go_loop [5, 6] (fun n i => ∃ k : Nat, k ≤ off ∧ i = .int .i64 k ∧ n = .int .i64 (lineNo s.data.toList k : Nat)) (fun _ i => off - (intOf i).toNat)
  case atStart => exact ⟨0, Nat.zero_le _, rfl, by rw [lineNo_zero]; rfl⟩
  case round =>
    obtain ⟨k, hk, rfl, rfl⟩ := hrel
    have hle := lineNo_le s.data.toList k
    by_cases hlt : k < off
    · have hks : k < s.size := by omega
      have hsu := lineNo_succ s.data.toList k (by simpa using hks)
      by_cases hc : s[k].toNat = 10
      · have hb : ((s[k].toNat : Int) == 10) = true := by simp [hc]
        rw [if_pos (nl_yes s k hks hc)] at hsu
        have Hsu := hide hsu
        clear hsu hc
        go_wp2
        go_round
        case rel => exact ⟨k + 1, by omega, by go_num, by rw [Hsu.out]; go_num⟩
        case measure => simp [intOf]; omega
      · have hb : ((s[k].toNat : Int) == 10) = false := by simp; omega
        rw [if_neg (nl_no s k hks hc)] at hsu
        have Hsu := hide hsu
        clear hsu hc
        go_wp2
        go_round
        case rel => exact ⟨k + 1, by omega, by go_num, by rw [Hsu.out]; rfl⟩
        case measure => simp [intOf]; omega
    · obtain rfl : k = off := by omega
      go_wp2
      go_ret
      exact ⟨rfl, rfl⟩

theorem Try.info3 : (Try.prog.info? 3).map (fun i => (i.zero, i.size, i.bytes)) = some (some (.int .i64 0), 1, 8) := by kernel_rfl
theorem Try.info5 : (Try.prog.info? 5).map (fun i => (i.zero, i.size, i.bytes)) = some (some (.int .u8 0), 1, 1) := by kernel_rfl
theorem Try.info9 : (Try.prog.info? 9).map (fun i => (i.zero, i.size, i.bytes)) = some (some (.string ⟨#[]⟩), 1, 16) := by kernel_rfl
theorem Try.info42 : (Try.prog.info? 42).map (fun i => (i.zero, i.size, i.bytes)) = some (some (.agg #[.int .i64 0, .int .i64 0]), 2, 16) := by kernel_rfl

theorem c1_one (w : World) (x : Value) (T : TypeId) : ∀ (j : Nat) (u : Value), [x][j]? = some u → (w.alloc (.cells #[x] T)).cell? ((⟨w.heap.size, 0, none⟩ : Addr).add j) = some u := by
  intro j u h
  match j, h with
  | 0, h =>
    simp at h
    subst h
    rw [addr0, World.cell?_alloc_mark]
    rfl
theorem c2_one (k : IntKind) (n : Int) : ∀ u ∈ [Value.int k n], u.oneCell' = true := by
  intro u hu
  simp at hu
  subst hu
  rfl
theorem c2_str (s : ByteArray) : ∀ u ∈ [Value.string s], u.oneCell' = true := by
  intro u hu
  simp at hu
  subst hu
  rfl
theorem c5_one (w wr : World) (o : Obj) (h : Below w.heap.size w wr) : w.heap.size ≤ (wr.alloc o).heap.size := by
  have := h.size
  simp
  omega
/-- Behind an append to a row of the call's own. -/
theorem below_app {w wr w1 : World} {o : Obj} {v : Value} {e : TypeId} {size n : Nat} {xs : List Value} (h : Below w.heap.size w wr) (hown : wr.ownsRow w.heap.size e size v n xs) (hg : (wr.alloc o).grownBy w1 v.ownBlock) : Below w.heap.size w w1 :=
  (h.alloc h.size o).grown hg (c5_one w wr o h) fun k hk => (hown.lt k hk).1

def nums (l : List Nat) : List Value := l.map fun (n : Nat) => Value.int .i64 (n : Int)

set_option maxHeartbeats 800000 in
theorem starts21 (s : ByteArray) (w : World) (hs : s.size ≤ 100000) : Calls Try.prog 21 #[.string s] w fun e w' => (∃ v, e = .returned v ∧ w'.ownsRow w.heap.size 3 1 v (starts s.data.toList s.size).length (nums (starts s.data.toList s.size))) ∧ Below w.heap.size w w' := by
  obtain ⟨i0, hi, hz0, hz1, hz2⟩ := info_parts Try.info3
  go_enter Try.func21, Try.ntmps21
  go_wp2
  go_loopw [3, 4] (fun v i wr => ∃ k : Nat, k ≤ s.size ∧ i = .int .i64 k ∧ wr.ownsRow w.heap.size 3 1 v (starts s.data.toList k).length (nums (starts s.data.toList k)) ∧ Below w.heap.size w wr) (fun _ i _ => s.size - (intOf i).toNat)
  case atStart => exact ⟨0, Nat.zero_le _, rfl, World.ownsRow_nil _ _ _ _, Below.refl _ _⟩
  case round =>
    obtain ⟨k, hk, rfl, hown, hnx⟩ := hrel
    have hle : (starts s.data.toList k).length ≤ k := upto_len _ _
    by_cases hlt : k < s.size
    · rcases Nat.eq_zero_or_pos k with rfl | hpos
      · have hrest : ∀ (v' : Value) (w1 : World), w1.ownsRow w.heap.size 3 1 v' ((starts s.data.toList 0).length + 1) (nums (starts s.data.toList 0) ++ [.int .i64 0]) → w1.ownsRow w.heap.size 3 1 v' (starts s.data.toList (0 + 1)).length (nums (starts s.data.toList (0 + 1))) := fun v' w1 h => h
        have Hrest := hide hrest
        clear hrest
        go_wp2_with (at_builtin; refine wpList_append_own _ rfl (.tmp 20) (.tmp 22) 29 rfl w.heap.size 3 i0 (.int .i64 0) 1 8 Try.underlying29 hi hz0 hz1 hz2 rfl (by decide) _ _ _ rfl (hown.alloc _) ⟨wr.heap.size, 0, none⟩ 1 1 [.int .i64 0] rfl rfl (c1_one _ _ _) (c2_one _ _) (by unfold maxLen; omega) (by omega) (c5_one _ _ _ hnx) ?_; intro v' w1 hown' hgrow _)
        have hbel := below_app hnx hown hgrow
        have hown2 := Hrest.out _ _ hown'
        clear hown' hgrow hown
        go_wp2
        go_roundw
        case rel => exact ⟨0 + 1, by omega, by go_num, hown2, hbel⟩
        case measure => simp [intOf]; omega
      · obtain ⟨m, rfl⟩ : ∃ m, k = m + 1 := ⟨k - 1, by omega⟩
        by_cases hc : s[m].toNat = 10
        · have hb : ((s[m].toNat : Int) == 10) = true := by simp [hc]
          have hst : isStart s.data.toList (m + 1) = true := by rw [isStart_succ, nl_yes s m (by omega) hc]; rfl
          have hrest : ∀ (v' : Value) (w1 : World), w1.ownsRow w.heap.size 3 1 v' ((starts s.data.toList (m + 1)).length + 1) (nums (starts s.data.toList (m + 1)) ++ [.int .i64 ((m : Int) + 1)]) → w1.ownsRow w.heap.size 3 1 v' (starts s.data.toList (m + 1 + 1)).length (nums (starts s.data.toList (m + 1 + 1))) := fun v' w1 h => by
            unfold starts
            rw [upto_yes _ _ hst, List.length_append]
            simpa [nums, starts] using h
          have Hrest := hide hrest
          clear hrest hst hc
          go_wp2_with (at_builtin; refine wpList_append_own _ rfl (.tmp 20) (.tmp 22) 29 rfl w.heap.size 3 i0 (.int .i64 0) 1 8 Try.underlying29 hi hz0 hz1 hz2 rfl (by decide) _ _ _ rfl (hown.alloc _) ⟨wr.heap.size, 0, none⟩ 1 1 [.int .i64 ((m : Int) + 1)] rfl rfl (c1_one _ _ _) (c2_one _ _) (by unfold maxLen; omega) (by omega) (c5_one _ _ _ hnx) ?_; intro v' w1 hown' hgrow _)
          have hbel := below_app hnx hown hgrow
          have hown2 := Hrest.out _ _ hown'
          clear hown' hgrow hown
          go_wp2
          go_roundw
          case rel => exact ⟨m + 1 + 1, by omega, by go_num, hown2, hbel⟩
          case measure => simp [intOf]; omega
        · have hb : ((s[m].toNat : Int) == 10) = false := by simp; omega
          have hst : isStart s.data.toList (m + 1) = false := by rw [isStart_succ]; simpa using nl_no s m (by omega) hc
          have hup := upto_no _ _ hst
          have Hup := hide hup
          clear hup hst hc
          go_wp2
          go_roundw
          case rel => exact ⟨m + 1 + 1, by omega, by go_num, by unfold starts; rw [Hup.out]; exact hown, hnx⟩
          case measure => simp [intOf]; omega
    · obtain rfl : k = s.size := by omega
      go_wp2
      go_ret
      exact ⟨⟨_, rfl, hown⟩, hnx⟩

end Go.Proofs.Ytniapakheegijaa
