/- Walks of layer 5's reference: Put, And, Or, Minus. -/
import Derived.Test.YtfljmnjcoagbmaaR1
namespace Go.Proofs.Ytfljmnjcoagbmaa
open Go.RowKit

/-- A literal of no ints. -/
theorem own_none (w : World) : Own (w.alloc (.cells #[] 3)) w.heap.size 3 (.slice (some ⟨w.heap.size, 0, none⟩) 0 0) (numCells []) :=
  World.ownsRow_lit (e := 3) (size := 1) (base := w.heap.size) w #[] 0 (Nat.le_refl _) (Nat.zero_le _) rfl

set_option maxRecDepth 20000 in
set_option maxHeartbeats 1600000 in
theorem rput34 (A : Option Addr) (n c : Nat) (l : List Int) (m : Int) (w : World) (h : Sl w A n c (numCells l)) (hn : n ≤ 100000000) :
    Calls Try.prog 34 #[.slice A n c, .int .i64 m] w (GrewI w (putS l m)) := by
  obtain ⟨i0, hi, hz0, hz1, hz2⟩ := info_parts infoI
  have hlen := h.nlen
  have Hlen := hide hlen
  have H := hide h
  clear hlen h
  go_enter Try.func34, Try.ntmps34
  go_wp2
  go_loopw [5, 6, 7] (fun u d x wr => ∃ (k : Nat) (b : Bool) (out : List Int), k ≤ n ∧ x = .int .i64 k ∧ d = .bool b ∧ PutAt l m k b out ∧ Own wr w.heap.size 3 u (numCells out) ∧ Below w.heap.size w wr) (fun _ _ x _ => n - (intOf x).toNat)
  case atStart => exact ⟨0, false, [], Nat.zero_le _, rfl, rfl, putAt_start l m, own_none w, bnew (Below.refl _ w) _⟩
  case round =>
    obtain ⟨k, b, out, hk, rfl, rfl, hp, hown, hbel⟩ := hrel
    have hsz := hbel.size
    have hol := putAt_len l m k b out hp (by rw [Hlen.out]; exact hk)
    rw [Hlen.out] at hol
    have hnl : (numCells out).length ≤ 100000001 := by rw [num_len]; omega
    have Hp := hide hp
    have Hown := hide hown
    have Hb := hide hbel
    clear hp hown hbel
    by_cases hlt : k < n
    · obtain ⟨ad, z, rfl, hz, hcell⟩ := num_cell (H.out.below Hb.out).reads hlt
      cases b with
      | true =>
        have hd := putAt_done l m k out z hz Hp.out
        have Hd := hide hd
        clear hd hz Hp
        go_wp2_with (at_builtin; refine wp_push_far rfl (.tmp 35) (.tmp 40) 22 rfl 3 i0 (.int .i64 0) 8 Try.underlying22 hi hz0 hz1 hz2 rfl w.heap.size _ (numCells out) rfl _ _ rfl Hown.out hsz _ rfl rfl (by omega) (by unfold maxLen; omega) _ ?_)
        intro v' w' hown' hb' _
        have e : numCells out ++ [.int .i64 z] = numCells (out ++ [z]) := by rw [num_app]; rfl
        rw [e] at hown'
        have Hown' := hide hown'
        have Hb' := hide (Hb.out.trans hb')
        clear hown' hb' e Hown Hb
        go_wp2
        go_roundw
        case rel => exact ⟨k + 1, true, out ++ [z], by omega, by go_num, rfl, Hd.out, Hown'.out, Hb'.out⟩
        case measure => simp [intOf]; omega
      | false =>
        by_cases hzm : z < m
        · have hd := putAt_less l m k out z hz hzm Hp.out
          have Hd := hide hd
          clear hd hz Hp
          go_wp2_with (at_builtin; refine wp_push_far rfl (.tmp 35) (.tmp 40) 22 rfl 3 i0 (.int .i64 0) 8 Try.underlying22 hi hz0 hz1 hz2 rfl w.heap.size _ (numCells out) rfl _ _ rfl Hown.out hsz _ rfl rfl (by omega) (by unfold maxLen; omega) _ ?_)
          intro v' w' hown' hb' _
          have e : numCells out ++ [.int .i64 z] = numCells (out ++ [z]) := by rw [num_app]; rfl
          rw [e] at hown'
          have Hown' := hide hown'
          have Hb' := hide (Hb.out.trans hb')
          clear hown' hb' e Hown Hb
          go_wp2
          go_roundw
          case rel => exact ⟨k + 1, false, out ++ [z], by omega, by go_num, rfl, Hd.out, Hown'.out, Hb'.out⟩
          case measure => simp [intOf]; omega
        · have hge : m ≤ z := by omega
          by_cases hmz : m < z
          · have hd := putAt_more l m k out z hz hmz Hp.out
            have Hd := hide hd
            clear hd hz Hp
            go_wp2_with (at_builtin; refine wp_push_far rfl (.tmp 31) (.tmp 33) 22 rfl 3 i0 (.int .i64 0) 8 Try.underlying22 hi hz0 hz1 hz2 rfl w.heap.size _ (numCells out) rfl _ _ rfl Hown.out hsz _ rfl rfl (by omega) (by unfold maxLen; omega) _ ?_)
            intro v' w' hown' hb' _
            have e : numCells out ++ [.int .i64 m] = numCells (out ++ [m]) := by rw [num_app]; rfl
            rw [e] at hown'
            have Hown' := hide hown'
            have Hb' := hide (Hb.out.trans hb')
            have hcell' := (hb'.cell (p := ad.add k) (by
              obtain ⟨_, _, e, hlt', _, _⟩ := H.out.reads.at_ hlt; cases e; rw [Go.ChangeShapes.block_add]; exact hlt')).trans hcell
            have hsz' := Hb'.out.size
            have hnl' : (numCells (out ++ [m])).length ≤ 100000002 := by rw [num_len, List.length_append]; simp; omega
            clear hown' hb' e Hown Hb
            go_wp2_with (at_builtin; refine wp_push_far rfl (.tmp 35) (.tmp 40) 22 rfl 3 i0 (.int .i64 0) 8 Try.underlying22 hi hz0 hz1 hz2 rfl w.heap.size _ (numCells (out ++ [m])) rfl _ _ rfl Hown'.out hsz' _ rfl rfl (by omega) (by unfold maxLen; omega) _ ?_)
            intro v2 w2 hown2 hb2 _
            have e : numCells (out ++ [m]) ++ [.int .i64 z] = numCells (out ++ [m] ++ [z]) := by rw [num_app (out ++ [m])]; rfl
            rw [e] at hown2
            have Hown2 := hide hown2
            have Hb2 := hide (Hb'.out.trans hb2)
            clear hown2 hb2 e Hown' Hb'
            go_wp2
            go_roundw
            case rel => exact ⟨k + 1, true, out ++ [m] ++ [z], by omega, by go_num, rfl, Hd.out, Hown2.out, Hb2.out⟩
            case measure => simp [intOf]; omega
          · have hmz' : z = m := by omega
            subst hmz'
            have hd := putAt_same l z k out hz Hp.out
            have Hd := hide hd
            clear hd hz Hp
            go_wp2_with (at_builtin; refine wp_push_far rfl (.tmp 35) (.tmp 40) 22 rfl 3 i0 (.int .i64 0) 8 Try.underlying22 hi hz0 hz1 hz2 rfl w.heap.size _ (numCells out) rfl _ _ rfl Hown.out hsz _ rfl rfl (by omega) (by unfold maxLen; omega) _ ?_)
            intro v' w' hown' hb' _
            have e : numCells out ++ [.int .i64 z] = numCells (out ++ [z]) := by rw [num_app]; rfl
            rw [e] at hown'
            have Hown' := hide hown'
            have Hb' := hide (Hb.out.trans hb')
            clear hown' hb' e Hown Hb
            go_wp2
            go_roundw
            case rel => exact ⟨k + 1, true, out ++ [z], by omega, by go_num, rfl, Hd.out, Hown'.out, Hb'.out⟩
            case measure => simp [intOf]; omega
    · obtain rfl : k = n := by omega
      have he := putAt_end l m b out (by rw [Hlen.out]; exact Hp.out)
      cases b with
      | true =>
        rw [if_pos rfl] at he
        have He := hide he
        clear he Hp
        go_wp2
        go_ret
        exact ⟨_, rfl, by rw [He.out]; exact Hown.out, Hb.out⟩
      | false =>
        rw [if_neg (by simp)] at he
        have He := hide he
        clear he Hp
        go_wp2_with (at_builtin; refine wp_push_far rfl (.tmp 44) (.tmp 46) 22 rfl 3 i0 (.int .i64 0) 8 Try.underlying22 hi hz0 hz1 hz2 rfl w.heap.size _ (numCells out) rfl _ _ rfl Hown.out hsz _ rfl rfl (by omega) (by unfold maxLen; omega) _ ?_)
        intro v' w' hown' hb' _
        have e : numCells out ++ [.int .i64 m] = numCells (out ++ [m]) := by rw [num_app]; rfl
        rw [e, ← He.out] at hown'
        have Hown' := hide hown'
        have Hb' := hide (Hb.out.trans hb')
        clear hown' hb' e Hown Hb
        go_wp2
        go_ret
        exact ⟨_, rfl, Hown'.out, Hb'.out⟩

end Go.Proofs.Ytfljmnjcoagbmaa
