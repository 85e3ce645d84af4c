/- Layer 10: the laws of Of, Right and Eval, Simplify and Same over what they ask of the program. -/
import Derived.Test.YtlnbjdlooghpeaaGreatQn
namespace Go.Proofs.YtlnbjdlooghpeaaGreat
open Go.RowKit

set_option maxRecDepth 100000 in
set_option maxHeartbeats 6400000 in
theorem law4 (A : AliveC) (C : Cs) {ok : Nat → Prop} {v : Value} {r : Rx} (hsz : weightR r ≤ 1000000) (w : World) (hv : RxV w ok v r) :
    Calls Tryz.prog 3 #[v] w fun e w' => e = .returned (.bool true) ∧ Below w.heap.size w w' := by
  have hs1 : sizeR r ≤ 1000000 := Nat.le_trans (size_weight r) hsz
  have hd1 : depthR r ≤ 1000000 := Nat.le_trans (depth_le' r) hs1
  obtain ⟨k, a, b, A', B, n', c', m, d, rfl⟩ := rxv_shape hv
  have hb1 := bel_alloc w (.cells #[.int .i64 k, .slice A' n' c', .int .i64 a, .int .i64 b, .slice B m d] 25)
  have F := hide (five_new w (.int .i64 k) (.slice A' n' c') (.int .i64 a) (.int .i64 b) (.slice B m d) 25)
  have V := hide (hv.kept hb1)
  have B1 := hide hb1
  have HA := hide (A (w.alloc (.cells #[.int .i64 k, .slice A' n' c', .int .i64 a, .int .i64 b, .slice B m d] 25)))
  obtain ⟨z, hz⟩ : ∃ z, szR 200 r = z := ⟨_, rfl⟩
  have hzb : z ≤ 1000000 := by rw [← hz]; have := (sz_ok r 200).2; omega
  have HSz := hide (fun (W : World) (h : RxV W ok (.agg #[.int .i64 k, .slice A' n' c', .int .i64 a, .int .i64 b, .slice B m d]) r) => (show Calls Tryz.prog 5 #[.agg #[.int .i64 k, .slice A' n' c', .int .i64 a, .int .i64 b, .slice B m d], .int .i64 200] W fun e w' => e = .returned (.int .i64 (z : Int)) ∧ Below W.heap.size W w' from by rw [← hz]; exact rsize r W ok _ 200 h (by omega) (by omega)))
  have HOp := hide (fun (W : World) (h : RxV W ok (.agg #[.int .i64 k, .slice A' n' c', .int .i64 a, .int .i64 b, .slice B m d]) r) => C.of_ h hs1 hd1)
  have HOr := hide (fun (W : World) (h : RxV W ok (.agg #[.int .i64 k, .slice A' n' c', .int .i64 a, .int .i64 b, .slice B m d]) r) => (rOf h hs1 hd1).mono (R' := GotA W (needS r)) fun e w' h => h.a)
  have HSm := hide (fun (W : World) (u v : Value) (h : NdV W (fun _ => True) u (needS r)) (h' : NdV W (fun _ => True) v (needS r)) => rsame (needS r) W _ _ u v (needS r) h h' true (by simp))
  clear hv hb1 A C hz hsz hs1 hd1
  go_enter Tryz.func3, Tryz.ntmps3
  go_wp2_with fail
  with_reducible refine HA.out.mono ?_
  rintro e w1 ⟨rfl, hb⟩
  have F1 := hide (F.out.keep hb)
  have V1 := hide (V.out.kept hb)
  have B2 := hide (bgo B1.out hb)
  obtain ⟨-, t0, t1, t2, t3, t4⟩ := F1.out
  clear hb HA F V B1
  by_cases hbig : 200 < z
  · have hbig' : decide ((200 : Int) < (z : Int)) = true := decide_eq_true (by omega)
    go_wp2_with fail
    have HS1 := hide (HSz.out (w1.drew) (V1.out.kept (bel_drew w1)))
    have hbd := hide (bel_drew w1)
    first | (go_region_with (first
        | (go_at_call 5; (with_reducible refine (HS1.out).mono ?_); rintro e w5 ⟨rfl, hb4⟩))) | fail
    all_goals
      have B5 := hide (bgo B2.out (bgo hbd.out hb4))
      go_wp2
      go_ret
      exact ⟨rfl, B5.out⟩
  · have hbig' : decide ((200 : Int) < (z : Int)) = false := decide_eq_false (by omega)
    go_wp2_with fail
    obtain ⟨x, hx⟩ : ∃ x, x = w1 := ⟨_, rfl⟩
    subst hx
    have HK := hide (show ∀ X : World, Below x.heap.size x X → (X.cell? ⟨w.heap.size, 0, none⟩ = some (.int .i64 k) ∧ X.cell? ⟨w.heap.size, 1, none⟩ = some (.slice A' n' c') ∧ X.cell? ⟨w.heap.size, 2, none⟩ = some (.int .i64 a) ∧ X.cell? ⟨w.heap.size, 3, none⟩ = some (.int .i64 b) ∧ X.cell? ⟨w.heap.size, 4, none⟩ = some (.slice B m d)) ∧ Below x.heap.size x X from fun X hb => by
      obtain ⟨-, q00, q01, q02, q03, q04⟩ := F1.out.keep hb
      exact ⟨⟨q00, q01, q02, q03, q04⟩, hb⟩)
    have HS0 := hide (bel_drew x)
    have HKs := hide (show ∀ X Y : World, (X.cell? ⟨w.heap.size, 0, none⟩ = some (.int .i64 k) ∧ X.cell? ⟨w.heap.size, 1, none⟩ = some (.slice A' n' c') ∧ X.cell? ⟨w.heap.size, 2, none⟩ = some (.int .i64 a) ∧ X.cell? ⟨w.heap.size, 3, none⟩ = some (.int .i64 b) ∧ X.cell? ⟨w.heap.size, 4, none⟩ = some (.slice B m d)) ∧ Below x.heap.size x X → Below X.heap.size X Y → (Y.cell? ⟨w.heap.size, 0, none⟩ = some (.int .i64 k) ∧ Y.cell? ⟨w.heap.size, 1, none⟩ = some (.slice A' n' c') ∧ Y.cell? ⟨w.heap.size, 2, none⟩ = some (.int .i64 a) ∧ Y.cell? ⟨w.heap.size, 3, none⟩ = some (.int .i64 b) ∧ Y.cell? ⟨w.heap.size, 4, none⟩ = some (.slice B m d)) ∧ Below x.heap.size x Y from fun X Y h hb => HK.out Y (bgo h.2 hb))
    have HKb := hide (show ∀ X : World, (X.cell? ⟨w.heap.size, 0, none⟩ = some (.int .i64 k) ∧ X.cell? ⟨w.heap.size, 1, none⟩ = some (.slice A' n' c') ∧ X.cell? ⟨w.heap.size, 2, none⟩ = some (.int .i64 a) ∧ X.cell? ⟨w.heap.size, 3, none⟩ = some (.int .i64 b) ∧ X.cell? ⟨w.heap.size, 4, none⟩ = some (.slice B m d)) ∧ Below x.heap.size x X → Below x.heap.size x X from fun X h => h.2)
    have HRv := hide (show ∀ X : World, (X.cell? ⟨w.heap.size, 0, none⟩ = some (.int .i64 k) ∧ X.cell? ⟨w.heap.size, 1, none⟩ = some (.slice A' n' c') ∧ X.cell? ⟨w.heap.size, 2, none⟩ = some (.int .i64 a) ∧ X.cell? ⟨w.heap.size, 3, none⟩ = some (.int .i64 b) ∧ X.cell? ⟨w.heap.size, 4, none⟩ = some (.slice B m d)) ∧ Below x.heap.size x X → RxV X ok (.agg #[.int .i64 k, .slice A' n' c', .int .i64 a, .int .i64 b, .slice B m d]) r from fun X h => V1.out.kept h.2)
    clear t0 t1 t2 t3 t4
    go_region_held3 (fun w' => (w'.cell? ⟨w.heap.size, 0, none⟩ = some (.int .i64 k) ∧ w'.cell? ⟨w.heap.size, 1, none⟩ = some (.slice A' n' c') ∧ w'.cell? ⟨w.heap.size, 2, none⟩ = some (.int .i64 a) ∧ w'.cell? ⟨w.heap.size, 3, none⟩ = some (.int .i64 b) ∧ w'.cell? ⟨w.heap.size, 4, none⟩ = some (.slice B m d)) ∧ Below x.heap.size x w')
      (first | exact HK.out _ HS0.out | exact HKs.out _ _ (by assumption) hb4 | assumption)
      (first
        | (go_at_call 5; (with_reducible refine (HSz.out _ (HRv.out _ ?_)).mono ?_); assumption; rintro e w5 ⟨rfl, hb4⟩)
        | (go_at_call 7; (with_reducible refine (HOp.out _ (HRv.out _ ?_)).mono ?_); assumption; rintro e w5 ⟨va, rfl, hna, hb4⟩; (try have hnb := hnb.kept hb4))
        | (go_at_call 8; (with_reducible refine (HOr.out _ (HRv.out _ ?_)).mono ?_); assumption; rintro e w5 ⟨vb, rfl, hnb, hb4⟩; (try have hna := hna.kept hb4))
        | (go_at_call 6; (with_reducible refine (HSm.out _ _ _ hna hnb).mono ?_); rintro e w5 ⟨rfl, hb4⟩))
    have B5 := hide (bgo B2.out (HKb.out _ (by assumption)))
    clear HK HS0 HKs HKb HRv
    go_wp2
    go_ret
    exact ⟨rfl, B5.out⟩

end Go.Proofs.YtlnbjdlooghpeaaGreat
