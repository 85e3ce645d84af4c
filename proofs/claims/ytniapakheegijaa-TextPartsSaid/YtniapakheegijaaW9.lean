/- Words of the reference. -/
import Derived.Test.YtniapakheegijaaW8
namespace Go.Proofs.Ytniapakheegijaa
open Go.RowKit

theorem words_no {l : List UInt8} {k : Nat} (h : isWs l k = false) : words l (k + 1) = words l k := by
  unfold words
  rw [upto_no _ _ h]
theorem words_add {l : List UInt8} {k e : Nat} (h : isWs l k = true) (he : wordEnd l k = e) : words l (k + 1) = words l k ++ [(k, e)] := by
  unfold words
  rw [upto_yes _ _ h, List.map_append]
  simp [he]

set_option maxHeartbeats 3200000 in
theorem words28 (s : ByteArray) (w : World) (hs : s.size ≤ 100000) : Calls Try.prog 28 #[.string s] w fun e w' => (∃ v, e = .returned v ∧ w'.ownsRow w.heap.size 42 2 v (words s.data.toList s.size).length (spans (words s.data.toList s.size))) ∧ Below w.heap.size w w' := by
  obtain ⟨i0, hi, hz0, hz1, hz2⟩ := info_parts Try.info42
  go_enter Try.func28, Try.ntmps28
  go_wp2
  go_loopw [3, 4] (fun v i wr => ∃ k : Nat, k ≤ s.size ∧ i = .int .i64 k ∧ wr.ownsRow w.heap.size 42 2 v (words s.data.toList k).length (spans (words s.data.toList k)) ∧ Below w.heap.size w wr) (fun _ i _ => s.size - (intOf i).toNat)
  case atStart => exact ⟨0, Nat.zero_le _, rfl, by simpa [words, upto, spans] using World.ownsRow_nil _ _ _ _, Below.refl _ _⟩
  case round =>
    obtain ⟨k, hk, rfl, hown, hnx⟩ := hrel
    have hle : (words s.data.toList k).length ≤ k := words_len _ _
    obtain ⟨wo, rfl⟩ : ∃ wo : World, wo = wr := ⟨_, rfl⟩
    by_cases hlt : k < s.size
    · have hbk : s[k].toNat < 256 := UInt8.toNat_lt _
      have hwk := wordN_at s k hlt
      cases hw : wordI (s[k].toNat : Int)
      · have hst : isWs s.data.toList k = false := by unfold isWs; rw [hwk, hw]; rfl
        clear hwk
        have hno := words_no hst
        have Hno := hide hno
        clear hno hst
        go_wp2_with (go_at_call 31; refine (word31 _ _ (by omega) (by omega)).mono ?_; rintro e' w' ⟨rfl, rfl⟩)
        go_roundw
        case rel => exact ⟨k + 1, by omega, by go_num, by rw [Hno.out]; exact hown, hnx⟩
        case measure => simp [intOf]; omega
      · rcases Nat.eq_zero_or_pos k with rfl | hpos
        · have hst : isWs s.data.toList 0 = true := by rw [isWs_zero, hwk, hw]
          clear hwk
          have Hst := hide hst
          clear hst
          go_wp2_with (go_at_call 31; refine (word31 _ _ (by omega) (by omega)).mono ?_; rintro e' w' ⟨rfl, rfl⟩)
          go_loop [5] (fun i => ∃ e : Nat, 0 ≤ e ∧ e ≤ s.size ∧ i = .int .i64 e ∧ AllW s (0) e) (fun i => s.size - (intOf i).toNat)
          case atStart => exact ⟨0, Nat.le_refl _, by omega, by go_num, fun j h1 h2 => by omega⟩
          case round =>
            obtain ⟨e, hke, he, rfl, hall⟩ := hrel
            by_cases hes : e < s.size
            · have hbe : s[e].toNat < 256 := UInt8.toNat_lt _
              cases hwe1 : wordI (s[e].toNat : Int)
              · have hwe := hall.stop hke hes hwe1
                have Hwe := hide hwe
                clear hwe hall
                go_wp2_with (first | (go_at_call 31; refine (word31 _ _ (by omega) (by omega)).mono ?_; rintro e' w' ⟨rfl, rfl⟩) | (at_builtin; refine wpList_append_own _ rfl (.tmp 41) (.tmp 45) 39 rfl w.heap.size 42 i0 (.agg #[.int .i64 0, .int .i64 0]) 2 16 Try.underlying39 hi hz0 hz1 hz2 rfl (by decide) _ _ _ rfl (hown.alloc _) ⟨wo.heap.size, 0, none⟩ 1 1 [.int .i64 0, .int .i64 (e : Int)] rfl rfl (c1_two _ _ _ _) (c2_two _ _ _) (by unfold maxLen; omega) (by omega) (c5_one _ _ _ hnx) ?_))
                intro v' w2 hown' hgrow _
                have hbel := below_app hnx hown hgrow
                have hown2 : w2.ownsRow w.heap.size 42 2 v' (words s.data.toList (0 + 1)).length (spans (words s.data.toList (0 + 1))) := by rw [words_add Hst.out Hwe.out, List.length_append, spans_append]; exact hown'
                clear hown' hgrow hown
                go_wp2
                go_roundw
                case rel => exact ⟨0 + 1, by omega, by go_num, hown2, hbel⟩
                case measure => simp [intOf]; omega
              · have hnext := hall.step hes hwe1
                have Hnext := hide hnext
                clear hnext hall
                go_wp2_with (go_at_call 31; refine (word31 _ _ (by omega) (by omega)).mono ?_; rintro e' w' ⟨rfl, rfl⟩)
                go_round
                case rel => exact ⟨e + 1, by omega, by omega, by go_num, Hnext.out⟩
                case measure => simp [intOf]; omega
            · have hwe := hall.all hke (by omega)
              have Hwe := hide hwe
              clear hwe hall
              go_wp2_with (first | (go_at_call 31; refine (word31 _ _ (by omega) (by omega)).mono ?_; rintro e' w' ⟨rfl, rfl⟩) | (at_builtin; refine wpList_append_own _ rfl (.tmp 41) (.tmp 45) 39 rfl w.heap.size 42 i0 (.agg #[.int .i64 0, .int .i64 0]) 2 16 Try.underlying39 hi hz0 hz1 hz2 rfl (by decide) _ _ _ rfl (hown.alloc _) ⟨wo.heap.size, 0, none⟩ 1 1 [.int .i64 0, .int .i64 (e : Int)] rfl rfl (c1_two _ _ _ _) (c2_two _ _ _) (by unfold maxLen; omega) (by omega) (c5_one _ _ _ hnx) ?_))
              intro v' w2 hown' hgrow _
              have hbel := below_app hnx hown hgrow
              have hown2 : w2.ownsRow w.heap.size 42 2 v' (words s.data.toList (0 + 1)).length (spans (words s.data.toList (0 + 1))) := by rw [words_add Hst.out Hwe.out, List.length_append, spans_append]; exact hown'
              clear hown' hgrow hown
              go_wp2
              go_roundw
              case rel => exact ⟨0 + 1, by omega, by go_num, hown2, hbel⟩
              case measure => simp [intOf]; omega
        · obtain ⟨m, rfl⟩ : ∃ m, k = m + 1 := ⟨k - 1, by omega⟩
          have hm : m < s.size := by omega
          have hbm : s[m].toNat < 256 := UInt8.toNat_lt _
          have hwm := wordN_at s m hm
          cases hw2 : wordI (s[m].toNat : Int)
          · have hst : isWs s.data.toList (m + 1) = true := by rw [isWs_succ, hwk, hw, hwm, hw2]; rfl
            clear hwk hwm
            have Hst := hide hst
            clear hst
            go_wp2_with (go_at_call 31; refine (word31 _ _ (by omega) (by omega)).mono ?_; rintro e' w' ⟨rfl, rfl⟩)
            go_loop [5] (fun i => ∃ e : Nat, m + 1 ≤ e ∧ e ≤ s.size ∧ i = .int .i64 e ∧ AllW s (m + 1) e) (fun i => s.size - (intOf i).toNat)
            case atStart => exact ⟨m + 1, Nat.le_refl _, by omega, by go_num, fun j h1 h2 => by omega⟩
            case round =>
              obtain ⟨e, hke, he, rfl, hall⟩ := hrel
              by_cases hes : e < s.size
              · have hbe : s[e].toNat < 256 := UInt8.toNat_lt _
                cases hwe1 : wordI (s[e].toNat : Int)
                · have hwe := hall.stop hke hes hwe1
                  have Hwe := hide hwe
                  clear hwe hall
                  go_wp2_with (first | (go_at_call 31; refine (word31 _ _ (by omega) (by omega)).mono ?_; rintro e' w' ⟨rfl, rfl⟩) | (at_builtin; refine wpList_append_own _ rfl (.tmp 41) (.tmp 45) 39 rfl w.heap.size 42 i0 (.agg #[.int .i64 0, .int .i64 0]) 2 16 Try.underlying39 hi hz0 hz1 hz2 rfl (by decide) _ _ _ rfl (hown.alloc _) ⟨wo.heap.size, 0, none⟩ 1 1 [.int .i64 ((m : Int) + 1), .int .i64 (e : Int)] rfl rfl (c1_two _ _ _ _) (c2_two _ _ _) (by unfold maxLen; omega) (by omega) (c5_one _ _ _ hnx) ?_))
                  intro v' w2 hown' hgrow _
                  have hbel := below_app hnx hown hgrow
                  have hown2 : w2.ownsRow w.heap.size 42 2 v' (words s.data.toList (m + 1 + 1)).length (spans (words s.data.toList (m + 1 + 1))) := by rw [words_add Hst.out Hwe.out, List.length_append, spans_append]; exact hown'
                  clear hown' hgrow hown
                  go_wp2
                  go_roundw
                  case rel => exact ⟨m + 1 + 1, by omega, by go_num, hown2, hbel⟩
                  case measure => simp [intOf]; omega
                · have hnext := hall.step hes hwe1
                  have Hnext := hide hnext
                  clear hnext hall
                  go_wp2_with (go_at_call 31; refine (word31 _ _ (by omega) (by omega)).mono ?_; rintro e' w' ⟨rfl, rfl⟩)
                  go_round
                  case rel => exact ⟨e + 1, by omega, by omega, by go_num, Hnext.out⟩
                  case measure => simp [intOf]; omega
              · have hwe := hall.all hke (by omega)
                have Hwe := hide hwe
                clear hwe hall
                go_wp2_with (first | (go_at_call 31; refine (word31 _ _ (by omega) (by omega)).mono ?_; rintro e' w' ⟨rfl, rfl⟩) | (at_builtin; refine wpList_append_own _ rfl (.tmp 41) (.tmp 45) 39 rfl w.heap.size 42 i0 (.agg #[.int .i64 0, .int .i64 0]) 2 16 Try.underlying39 hi hz0 hz1 hz2 rfl (by decide) _ _ _ rfl (hown.alloc _) ⟨wo.heap.size, 0, none⟩ 1 1 [.int .i64 ((m : Int) + 1), .int .i64 (e : Int)] rfl rfl (c1_two _ _ _ _) (c2_two _ _ _) (by unfold maxLen; omega) (by omega) (c5_one _ _ _ hnx) ?_))
                intro v' w2 hown' hgrow _
                have hbel := below_app hnx hown hgrow
                have hown2 : w2.ownsRow w.heap.size 42 2 v' (words s.data.toList (m + 1 + 1)).length (spans (words s.data.toList (m + 1 + 1))) := by rw [words_add Hst.out Hwe.out, List.length_append, spans_append]; exact hown'
                clear hown' hgrow hown
                go_wp2
                go_roundw
                case rel => exact ⟨m + 1 + 1, by omega, by go_num, hown2, hbel⟩
                case measure => simp [intOf]; omega
          · have hst : isWs s.data.toList (m + 1) = false := by rw [isWs_succ, hwk, hw, hwm, hw2]; rfl
            clear hwk hwm
            have hno := words_no hst
            have Hno := hide hno
            clear hno hst
            go_wp2_with (go_at_call 31; refine (word31 _ _ (by omega) (by omega)).mono ?_; rintro e' w' ⟨rfl, rfl⟩)
            go_roundw
            case rel => exact ⟨m + 1 + 1, by omega, by go_num, by rw [Hno.out]; exact hown, hnx⟩
            case measure => simp [intOf]; omega
    · obtain rfl : k = s.size := by omega
      go_wp2
      go_ret
      exact ⟨⟨_, rfl, hown⟩, hnx⟩

end Go.Proofs.Ytniapakheegijaa
