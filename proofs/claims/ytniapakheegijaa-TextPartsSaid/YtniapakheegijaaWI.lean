/- Fold of the reference. -/
import Derived.Test.YtniapakheegijaaWH
namespace Go.Proofs.Ytniapakheegijaa
open Go.RowKit

def foldsTo (s : ByteArray) (k : Nat) : List Value := (s.data.toList.take k).map fun c => Value.int .u8 (foldI (c.toNat : Int))
theorem foldsTo_succ (s : ByteArray) (k : Nat) (h : k < s.size) : foldsTo s (k + 1) = foldsTo s k ++ [.int .u8 (foldI (s[k].toNat : Int))] := by
  unfold foldsTo
  rw [List.take_succ_eq_append_getElem (by simpa using h), List.map_append]
  rfl

theorem fold_back (s : ByteArray) (B : Nat) (v : Value) (w : World) (hown : w.ownsRow B 5 1 v s.size (foldsTo s s.size)) : (convert 47 9 v).run Try.prog w = .ok (.string (foldA s)) w := by
  rcases hown.2 with ⟨rfl, h0⟩ | ⟨g, cap, cur, rfl, hg, hh, _⟩
  · rw [run_convert_bytes_nil w 47 5 Try.underlying47 Try.underlying5 0 0 9 Try.underlying9]
    have : s = ByteArray.empty := ByteArray.ext (Array.eq_empty_of_size_eq_zero h0)
    rw [this]
    rfl
  · have := run_convert_bytes_back (P := Try.prog) w 47 9 5 ⟨g, 0, none⟩ cap (s.data.toList.map foldB) Try.underlying47 Try.underlying5 Try.underlying9 (fun j hj => by
      simp at hj
      rw [addr0, hown.cellAt j (by omega)]
      unfold foldsTo
      rw [List.getElem?_map, List.getElem?_take, if_pos hj, List.getElem?_eq_getElem (by simpa using hj), List.getElem_map, foldB_int]
      rfl)
    rw [List.length_map, size_list] at this
    exact this

set_option maxHeartbeats 800000 in
theorem fold15 (s : ByteArray) (w : World) (hs : s.size ≤ 100000) : Calls Try.prog 15 #[.string s] w fun e w' => e = .returned (.string (foldA s)) ∧ Below w.heap.size w w' := by
  obtain ⟨i0, hi, hz0, hz1, hz2⟩ := info_parts Try.info5
  go_enter Try.func15, Try.ntmps15
  go_wp2
  go_loopw [3, 4] (fun v i wr => ∃ k : Nat, k ≤ s.size ∧ i = .int .i64 k ∧ wr.ownsRow w.heap.size 5 1 v k (foldsTo s k) ∧ Below w.heap.size w wr) (fun _ i _ => s.size - (intOf i).toNat)
  case atStart => exact ⟨0, Nat.zero_le _, rfl, World.ownsRow_nil _ _ _ _, Below.refl _ _⟩
  case round =>
    obtain ⟨k, hk, rfl, hown, hnx⟩ := hrel
    by_cases hlt : k < s.size
    · have hbb : s[k].toNat < 256 := UInt8.toNat_lt _
      have hsu := foldsTo_succ s k hlt
      have Hsu := hide hsu
      clear hsu
      go_wp2_with (first | (go_at_call 33; refine (fold33 _ _ (by omega) (by omega)).mono ?_; rintro e w' ⟨rfl, rfl⟩) | (at_builtin; refine wpList_append_own _ rfl (.tmp 11) (.tmp 16) 47 rfl w.heap.size 5 i0 (.int .u8 0) 1 1 Try.underlying47 hi hz0 hz1 hz2 rfl (by decide) _ _ _ rfl (hown.alloc _) ⟨wr.heap.size, 0, none⟩ 1 1 [.int .u8 (foldI (s[k].toNat : Int))] rfl rfl (c1_one _ _ _) (c2_one _ _) (by unfold maxLen; omega) (by omega) (c5_one _ _ _ hnx) ?_))
      intro v' w1 hown' hgrow _
      have hbel := below_app hnx hown hgrow
      rw [← Hsu.out] at hown'
      clear hgrow hown
      have Hown' := hide hown'
      clear hown'
      go_wp2
      go_roundw
      case rel => exact ⟨k + 1, by omega, by go_num, Hown'.out, hbel⟩
      case measure => simp [intOf]; omega
    · obtain rfl : k = s.size := by omega
      have hback := fold_back s _ _ _ hown
      go_wp2
      go_ret
      exact ⟨rfl, hnx⟩

end Go.Proofs.Ytniapakheegijaa
