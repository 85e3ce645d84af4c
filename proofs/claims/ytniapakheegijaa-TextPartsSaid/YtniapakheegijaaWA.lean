/- At of both. -/
import Derived.Test.YtniapakheegijaaW9
namespace Go.Proofs.Ytniapakheegijaa
open Go.RowKit

theorem toList_extract0 (s : ByteArray) (a : Nat) : (s.extract 0 a).data.toList = s.data.toList.take a := by
  simp

theorem count38 (s : ByteArray) (off : Nat) (w : World) : Calls Try.prog 38 #[.string (s.extract 0 off), .string ⟨#[10]⟩] w fun e w' => e = .returned (.int .i64 (lineNo s.data.toList off : Nat)) ∧ w = w' :=
  (Try.strings_Count_one _ 10 w).mono fun e w' ⟨h1, h2⟩ => ⟨by rw [h1, toList_extract0]; rfl, h2.symm⟩

theorem last_idx (s : ByteArray) (off : Nat) (ho : off ≤ s.size) : ∀ k, k ≤ off → Lib.lastIdx (s.extract 0 off) 10 k = (lastStart s.data.toList k : Int) - 1 := by
  intro k
  induction k with
  | zero => intro _; rfl
  | succ k ih =>
    intro hk
    have hks : k < s.size := by omega
    have hget : ((s.extract 0 off).data[k]!) = s.data.toList.getD k 0 := by
      have h1 : k < (s.extract 0 off).data.toList.length := by rw [toList_extract0]; simp; omega
      have h2 : ((s.extract 0 off).data.toList)[k]? = s.data.toList[k]? := by rw [toList_extract0, List.getElem?_take, if_pos (by omega)]
      rw [List.getD_eq_getElem?_getD, ← h2]
      rw [List.getElem?_eq_getElem h1]
      simp at h1
      simp [getElem!_pos, h1]
    by_cases hc : s.data.toList.getD k 0 = 10
    · rw [Lib.lastIdx_hit _ _ _ (by rw [hget, hc]; rfl), lastStart, if_pos hc]
      omega
    · rw [Lib.lastIdx_miss _ _ _ (by rw [hget]; intro e; exact hc ((byte_nl _).2 (by omega))), lastStart, if_neg hc]
      exact ih (by omega)

theorem last39 (s : ByteArray) (off : Nat) (w : World) (hs : s.size ≤ 100000) (ho : off ≤ s.size) : Calls Try.prog 39 #[.string (s.extract 0 off), .int .u8 10] w fun e w' => e = .returned (.int .i64 ((lastStart s.data.toList off : Nat) - 1)) ∧ w = w' :=
  (Try.strings_LastIndexByte _ 10 (by simp; omega) w).mono fun e w' ⟨h1, h2⟩ => ⟨by
    rw [h1]
    unfold Lib.lastIndexByte
    rw [show (s.extract 0 off).size = off by simp; omega, last_idx s off ho off (Nat.le_refl _)], h2.symm⟩

set_option maxHeartbeats 800000 in
theorem at22_no (s : ByteArray) (off : Int) (w : World) (ho : off < 0 ∨ (s.size : Int) ≤ off) : Calls Try.prog 22 #[.string s, .int .i64 off] w fun e w' => e = .returned (.tuple #[.agg #[.int .i64 0, .int .i64 0], .bool false]) ∧ Below w.heap.size w w' := by
  rcases (show off < 0 ∨ (0 ≤ off ∧ (s.size : Int) ≤ off) by omega) with h | ⟨h, h'⟩
  all_goals
    clear ho
    go_enter Try.func22, Try.ntmps22
    go_wp2
    exact bodyPost_ret (v := .tuple #[.agg #[.int .i64 0, .int .i64 0], .bool false]) (by simp [results, Try.results22, go_sem]) rfl ⟨rfl, (Below.refl _ _).alloc (Nat.le_refl _) _⟩

set_option maxHeartbeats 800000 in
theorem at22 (s : ByteArray) (off : Nat) (w : World) (hs : s.size ≤ 100000) (ho : off < s.size) : Calls Try.prog 22 #[.string s, .int .i64 off] w fun e w' => e = .returned (.tuple #[.agg #[.int .i64 ((lineNo s.data.toList off : Nat) + 1), .int .i64 ((off : Int) - (lastStart s.data.toList off : Nat) + 1)], .bool true]) ∧ Below w.heap.size w w' := by
  have hl := lineNo_le s.data.toList off
  have hc := lastStart_le s.data.toList off
  go_enter Try.func22, Try.ntmps22
  go_wp2_with (first | (go_at_call 38; refine (count38 _ _ _).mono ?_; rintro e w' ⟨rfl, rfl⟩) | (go_at_call 39; refine (last39 _ _ _ hs (by omega)).mono ?_; rintro e w' ⟨rfl, rfl⟩))
  exact bodyPost_ret (v := .tuple #[.agg #[.int .i64 ((lineNo s.data.toList off : Nat) + 1), .int .i64 ((off : Int) - (lastStart s.data.toList off : Nat) + 1)], .bool true]) (by simp [results, Try.results22, go_sem]) rfl ⟨rfl, (Below.refl _ _).alloc (Nat.le_refl _) _⟩

set_option maxHeartbeats 800000 in
theorem at23_no (s : ByteArray) (off : Int) (w : World) (ho : off < 0 ∨ (s.size : Int) ≤ off) : Calls Try.prog 23 #[.string s, .int .i64 off] w fun e w' => e = .returned (.tuple #[.agg #[.int .i64 0, .int .i64 0], .bool false]) ∧ Below w.heap.size w w' := by
  rcases (show off < 0 ∨ (0 ≤ off ∧ (s.size : Int) ≤ off) by omega) with h | ⟨h, h'⟩
  all_goals
    clear ho
    go_enter Try.func23, Try.ntmps23
    go_wp2
    exact bodyPost_ret (v := .tuple #[.agg #[.int .i64 0, .int .i64 0], .bool false]) (by simp [results, Try.results23, go_sem]) rfl ⟨rfl, (Below.refl _ _).alloc (Nat.le_refl _) _⟩

theorem two_new (w : World) (x y : Value) (T : TypeId) (w1 : World) (hb : Below (w.alloc (.cells #[x, y] T)).heap.size (w.alloc (.cells #[x, y] T)) w1) :
    w1.cell? ⟨w.heap.size, 0, none⟩ = some x ∧ w1.cell? ⟨w.heap.size, 1, none⟩ = some y ∧ w1.frozen? ⟨w.heap.size, 0, none⟩ = false ∧ w1.frozen? ⟨w.heap.size, 1, none⟩ = false ∧ w.heap.size < w1.heap.size := by
  have hlt : w.heap.size < (w.alloc (.cells #[x, y] T)).heap.size := by simp
  refine ⟨?_, ?_, ?_, ?_, ?_⟩
  · rw [hb.cell (p := ⟨w.heap.size, 0, none⟩) hlt, World.cell?_alloc_mark]; rfl
  · rw [hb.cell (p := ⟨w.heap.size, 1, none⟩) hlt, World.cell?_alloc_mark]; rfl
  · rw [hb.frozen (p := ⟨w.heap.size, 0, none⟩) hlt, World.frozen?_alloc_mark]; simp
  · rw [hb.frozen (p := ⟨w.heap.size, 1, none⟩) hlt, World.frozen?_alloc_mark]; simp
  · have := hb.size; omega

set_option maxHeartbeats 800000 in
theorem at23 (s : ByteArray) (off : Nat) (w : World) (hs : s.size ≤ 100000) (ho : off < s.size) : Calls Try.prog 23 #[.string s, .int .i64 off] w fun e w' => e = .returned (.tuple #[.agg #[.int .i64 ((lineNo s.data.toList off : Nat) + 1), .int .i64 ((off : Int) - (lastStart s.data.toList off : Nat) + 1)], .bool true]) ∧ Below w.heap.size w w' := by
  have hl := lineNo_le s.data.toList off
  have hc := lastStart_le s.data.toList off
  obtain ⟨L, hLe⟩ : ∃ L, (starts s.data.toList s.size).length = L := ⟨_, rfl⟩
  have hL : L ≤ 100000 := by rw [← hLe]; exact Nat.le_trans (upto_len _ _) hs
  have hat := starts_at s.data.toList off (by rw [size_list]; exact ho)
  rw [size_list] at hat
  have hlt : lineNo s.data.toList off < L := by rw [← hLe]; exact (List.getElem?_eq_some_iff.1 hat).1
  have HL := hide hLe
  have Hat := hide hat
  clear hLe hat
  go_enter Try.func23, Try.ntmps23
  go_wp2_with (first | (go_at_call 40; refine (line40 _ _ _ hs (by omega)).mono ?_; rintro e w' ⟨rfl, rfl⟩) | fail)
  refine (starts21' s L HL.out _ hs).mono ?_
  rintro e w1 ⟨⟨ao, cap, rfl, hrd⟩, hb1⟩
  obtain ⟨g, rfl, x, hx, hcx⟩ := hrd.at hlt
  obtain ⟨a, ha, rfl⟩ := nums_get _ _ _ hx
  obtain rfl : a = lastStart s.data.toList off := by rw [Hat.out] at ha; exact (Option.some.inj ha).symm
  clear hx ha
  obtain ⟨q0, q1, f0, f1, hsz⟩ := two_new _ _ _ _ _ hb1
  have hb : Below w.heap.size w w1 := ((Below.refl _ _).alloc (Nat.le_refl _) _).trans (hb1.mono (by simp))
  have Hb := hide hb
  clear hb hb1 hrd
  go_wp2
  exact bodyPost_ret (v := .tuple #[.agg #[.int .i64 ((lineNo s.data.toList off : Nat) + 1), .int .i64 ((off : Int) - (lastStart s.data.toList off : Nat) + 1)], .bool true]) (by simp [results, Try.results23, go_sem, q0, q1]) rfl ⟨rfl, ((Hb.out).setCell (Nat.le_refl _) _).setCell (Nat.le_refl _) _⟩

end Go.Proofs.Ytniapakheegijaa
