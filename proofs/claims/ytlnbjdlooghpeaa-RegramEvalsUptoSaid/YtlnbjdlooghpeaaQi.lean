/- Layer 10: walk of the reference: once. -/
import Derived.Test.YtlnbjdlooghpeaaQh
namespace Go.Proofs.Ytlnbjdlooghpeaa
open Go.RowKit

set_option maxRecDepth 100000 in
set_option maxHeartbeats 6400000 in
theorem ronce {W : World} {B : Nat} {ok : Nat → Prop} {v u : Value} {xs : List Nd} {x : Nd} (hown : OwnN W B ok v xs) (hB : B ≤ W.heap.size) (hlen : xs.length ≤ 1000000) (hx : NdV W (fun g => ok g ∧ v.ownBlock ≠ some g) u x) :
    Calls Try.prog 61 #[v, u] W fun e w' => ∃ v', e = .returned v' ∧ OwnN w' B ok v' (onceN xs x) ∧ Below B W w' ∧ Far W w' v v' := by
  obtain ⟨i0, hi0, hz0, hz1, hz2⟩ := info_parts infoN
  obtain ⟨k, g, Bx, mx, dx, rfl, -, -, -, -⟩ := ndv_shape hx
  obtain ⟨A, m, d, vs, rfl, hm, hns, -⟩ := hown.s
  have hmd := hns.1
  have hdd := hns.2.1
  have Hm := hide hm
  have hm6 : m ≤ 1000000 := by omega
  have hb := bel_alloc W (.cells #[.int .i64 k, .int .i64 g, .slice Bx mx dx] 35)
  have HO := hide (hown.below hb)
  have HX := hide (hx.kept hb)
  have F := hide (tri3_new W (.int .i64 k) (.int .i64 g) (.slice Bx mx dx) 35)
  have BB := hide hb
  have HB := hide hB
  have FF := hide (Far.of_below hb : Far W _ (.slice A m d) (.slice A m d))
  clear hown hx hns hm hb
  go_enter Try.func61, Try.ntmps61
  go_wp2
  go_loopw [5] (fun y wr => ∃ i : Nat, i ≤ m ∧ y = .int .i64 (i : Int) ∧ x ∉ xs.take i ∧ Below (W.alloc (.cells #[.int .i64 k, .int .i64 g, .slice Bx mx dx] 35)).heap.size (W.alloc (.cells #[.int .i64 k, .int .i64 g, .slice Bx mx dx] 35)) wr) (fun y _ => m - (intOf y).toNat)
  case atStart => exact ⟨0, Nat.zero_le _, rfl, by simp, Below.refl _ _⟩
  case round =>
    obtain ⟨i, hi, rfl, hn, hbel⟩ := hrel
    obtain ⟨w3, hw3⟩ : ∃ w3, w3 = wr := ⟨wr, rfl⟩
    subst hw3
    have HN := hide hn
    have B3 := hide hbel
    have B4 := hide (bgo BB.out hbel)
    have HO3 := hide (HO.out.below hbel)
    have HX3 := hide (HX.out.kept hbel)
    have F3 := hide (F.out.keep hbel)
    have FF3 := hide (FF.out.trans (Far.of_below hbel))
    have hib : (i : Int) ≤ 1000000 := by omega
    clear hn hbel
    by_cases hlt : i < m
    · have hlt' : (i : Int) < (m : Int) := by omega
      obtain ⟨b, o, c0, c1, c2, y, rfl, hy, hyv, x0, x1, x2⟩ := HO3.out.get hlt
      obtain ⟨_, t0, t1, t2⟩ := F3.out
      have hbd : Below w3.heap.size w3 w3.drew := bel_drew w3
      have HC := hide (fun (q : Bool) (h : q = true ↔ y = x) => rsame y w3.drew _ _ _ _ x (hyv.kept hbd) (HX3.out.kept hbd) q h)
      have Hy := hide hy
      clear hy hyv hbd
      by_cases he : y = x
      · have HC1 := hide (HC.out true (by simp [he]))
        have Hn := hide (show onceN xs x = xs by unfold onceN; rw [if_pos (by rw [← he]; exact List.mem_of_getElem? Hy.out)])
        clear he HC
        go_wp2
        go_still_tail 5, (by kernel_rfl)
        change wpList _ _ _ _ _ w3.drew
        go_wp2_with fail
        with_reducible refine HC1.out.mono ?_
        rintro e w4 ⟨rfl, hb4⟩
        have B5 := hide (bgo (bel_drew w3) hb4)
        clear hb4
        go_wp2
        go_ret
        exact ⟨_, rfl, by rw [Hn.out]; exact HO3.out.below B5.out, (bgo B4.out B5.out).mono HB.out, FF3.out.trans (Far.of_below B5.out)⟩
      · have HC1 := hide (HC.out false (by simp [he]))
        have Hn := hide (show x ∉ xs.take (i + 1) by
          rw [takeN Hy.out, List.mem_append, List.mem_singleton]
          exact fun h => h.elim HN.out fun e => he e.symm)
        clear he HC
        go_wp2
        go_still_tail 5, (by kernel_rfl)
        change wpList _ _ _ _ _ w3.drew
        go_wp2_with fail
        with_reducible refine HC1.out.mono ?_
        rintro e w4 ⟨rfl, hb4⟩
        have B5 := hide (B3.out.trans ((bgo (bel_drew w3) hb4).mono B3.out.size))
        clear hb4
        go_wp2
        go_roundw
        case rel => exact ⟨i + 1, by omega, by go_num, Hn.out, B5.out⟩
        case measure => simp [intOf]; omega
    · have hlt' : ¬ (i : Int) < (m : Int) := by omega
      have hn := HN.out
      rw [takeA xs (by rw [← Hm.out]; omega)] at hn
      have Hn := hide (show onceN xs x = xs ++ [x] by unfold onceN; rw [if_neg hn])
      have hxl : xs.length ≤ 1000000 := hlen
      have hsb : B ≤ w3.heap.size := Nat.le_trans HB.out B4.out.size
      obtain ⟨_, t0, t1, t2⟩ := F3.out
      clear hn
      go_wp2_with (at_builtin; refine wp_push_nd rfl (.tmp 19) (.tmp 21) 33 rfl i0 _ 40 Try.underlying33 hi0 hz0 hz1 hz2 rfl B ok _ xs rfl _ _ _ _ x HO3.out hsb _ rfl rfl HX3.out (by omega) (by unfold maxLen; omega) ?_)
      intro v' w5 ho5 hb5 hf5
      have O5 := hide ho5
      have B5 := hide ((B4.out.mono HB.out).trans hb5)
      have F5 := hide (FF3.out.trans hf5)
      obtain ⟨A7, m7, d7, vs7, rfl, -, -, -⟩ := ho5.s
      clear ho5 hb5 hf5
      go_wp2
      go_ret
      exact ⟨_, rfl, by rw [Hn.out]; exact O5.out, B5.out, F5.out⟩
end Go.Proofs.Ytlnbjdlooghpeaa
