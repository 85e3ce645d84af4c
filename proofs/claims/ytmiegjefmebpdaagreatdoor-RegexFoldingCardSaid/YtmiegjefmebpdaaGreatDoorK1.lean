/- Walks of layer 8's reference: sameSet, Has, Same. -/
import Derived.Test.YtmiegjefmebpdaaGreatDoorProg
import Derived.Test.YtmiegjefmebpdaaGreatDoorM1
namespace Go.Proofs.YtmiegjefmebpdaaGreatDoor
open Go.RowKit

theorem set_next {a b : List (UInt8 × UInt8)} {k : Nat} (h : a.take k = b.take k) {x y : UInt8 × UInt8} (hx : a[k]? = some x) (hy : b[k]? = some y) (e : x = y) : a.take (k + 1) = b.take (k + 1) := by
  obtain ⟨h1, e1⟩ := List.getElem?_eq_some_iff.1 hx
  obtain ⟨h2, e2⟩ := List.getElem?_eq_some_iff.1 hy
  rw [List.take_succ_eq_append_getElem h1, List.take_succ_eq_append_getElem h2, h, e1, e2, e]
theorem set_differ {a b : List (UInt8 × UInt8)} {k : Nat} {x y : UInt8 × UInt8} (hx : a[k]? = some x) (hy : b[k]? = some y) (e : x ≠ y) : a ≠ b := fun h => e (by
  rw [h, hy] at hx
  exact (Option.some.inj hx).symm)
theorem byte_ne {a b : UInt8} (h : a ≠ b) : ((a.toNat : Int) != (b.toNat : Int)) = true := by
  rw [bne_iff_ne]
  intro e
  exact h (UInt8.toNat_inj.1 (by omega))

set_option maxRecDepth 20000 in
set_option maxHeartbeats 1600000 in
theorem sameset38 {W : World} {ok ok' : Nat → Prop} {A B : Option Addr} {n c m d : Nat} {a b : List (UInt8 × UInt8)} (h : RgS W ok A n c a) (h' : RgS W ok' B m d b) (r : Bool) (hr : decide (a = b) = r) :
    Calls Tryz.prog 38 #[.slice A n c, .slice B m d] W fun e w' => e = .returned (.bool r) ∧ Drawn W w' := by
  have hnc := h.1
  have hcc := h.2.1
  have hmd := h'.1
  have hdd := h'.2.1
  have ha := h.2.2.1
  have hb := h'.2.2.1
  subst hr
  by_cases hnm : n = m
  · subst hnm
    have H := hide h
    have H' := hide h'
    have Ha := hide ha
    have Hb := hide hb
    clear h h' ha hb
    go_enter Tryz.func38, Tryz.ntmps38
    go_wp2
    go_loopw [5] (fun x wr => ∃ k : Nat, k ≤ n ∧ x = .int .i64 (k : Int) ∧ a.take k = b.take k ∧ Drawn W wr) (fun x _ => n - (intOf x).toNat)
    case atStart => exact ⟨0, Nat.zero_le _, rfl, rfl, Drawn.refl _⟩
    case round =>
      obtain ⟨k, hk, rfl, hm, hd⟩ := hrel
      have Hm := hide hm
      have Hd := hide hd
      have hbel := hd.below W.heap.size
      clear hm hd
      by_cases hlt : k < n
      · obtain ⟨g, o, x, rfl, hx, x0, x1⟩ := (H.out.below hbel).at_ hlt
        obtain ⟨g', o', y, rfl, hy, y0, y1⟩ := (H'.out.below hbel).at_ hlt
        by_cases e0 : x.1 = y.1
        · have q0 : ((x.1.toNat : Int) != (y.1.toNat : Int)) = false := by rw [e0]; simp
          by_cases e1 : x.2 = y.2
          · have q1 : ((x.2.toNat : Int) != (y.2.toNat : Int)) = false := by rw [e1]; simp
            have Hn := hide (set_next Hm.out hx hy (Prod.ext e0 e1))
            clear hx hy e0 e1 hbel
            go_wp2
            go_quiet (fail)
            go_wp2
            go_roundw
            case rel => exact ⟨k + 1, by omega, by go_num, Hn.out, Hd.out.more _⟩
            case measure => simp [intOf]; omega
          · have q1 := byte_ne e1
            have Hn := hide (decide_eq_false (set_differ hx hy fun e => e1 (congrArg Prod.snd e)))
            clear hx hy e0 e1 hbel
            go_wp2
            go_quiet (fail)
            go_wp2
            go_ret
            exact ⟨ret_bool Hn.out.symm, Hd.out.more _⟩
        · have q0 := byte_ne e0
          have Hn := hide (decide_eq_false (set_differ hx hy fun e => e0 (congrArg Prod.fst e)))
          clear hx hy e0 hbel
          go_wp2
          go_quiet (fail)
          go_wp2
          go_ret
          exact ⟨ret_bool Hn.out.symm, Hd.out.more _⟩
      · have hall := Hm.out
        rw [List.take_of_length_le (by rw [Ha.out]; omega), List.take_of_length_le (by rw [Hb.out]; omega)] at hall
        have Hn := hide (decide_eq_true hall)
        clear hall hbel
        go_wp2
        go_ret
        exact ⟨ret_bool Hn.out.symm, Hd.out⟩
  · have hq : ((n : Int) != (m : Int)) = true := by rw [bne_iff_ne]; omega
    have Hn := hide (decide_eq_false (show ¬ a = b from fun e => hnm (by rw [← ha, ← hb, e])))
    clear h h' ha hb hnm
    go_enter Tryz.func38, Tryz.ntmps38
    go_wp2
    go_ret
    exact ⟨ret_bool Hn.out.symm, Drawn.refl _⟩

end Go.Proofs.YtmiegjefmebpdaaGreatDoor
