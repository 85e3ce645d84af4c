/- Walk of layer 8's reference: Print. -/
import Derived.Test.YtmiegjefmebpdaaGreatDoorKC
namespace Go.Proofs.YtmiegjefmebpdaaGreatDoor
open Go.RowKit

set_option maxRecDepth 100000 in
set_option maxHeartbeats 6400000 in
theorem print19 {W : World} {ok : Nat → Prop} {v : Value} {r : Rx} (hv : RxV W ok v r) (hs : sizeR r ≤ 1000000) (hd : depthR r ≤ 1000000) (ht : Tame r) :
    Calls Tryz.prog 19 #[v] W fun e w' => e = .returned (.tuple #[.string (bs (printS r).1), .int .i64 (printS r).2]) ∧ Below W.heap.size W w' := by
  have hv0 := hv
  cases hv with
  | mk k a b A B n c m d s vs l hset hvs hlen hk ha hb hr =>
  have hB := bnew (Below.refl _ W) (.cells #[.int .i64 k, .slice A n c, .int .i64 a, .int .i64 b, .slice B m d] 25)
  have BB := hide hB
  have F := hide (five_new W (.int .i64 k) (.slice A n c) (.int .i64 a) (.int .i64 b) (.slice B m d) 25)
  have V := hide (hv0.kept hB)
  obtain ⟨r, hr'⟩ : ∃ r, Rx.mk k s a b l = r := ⟨_, rfl⟩
  rw [hr'] at hv0 V hs hd ht ⊢
  have HR := hide (rright13 (V.out) hs hd)
  have Ht := hide ht
  clear hset hvs hr hB hlen hv0 hr' hk ha hb hs hd ht
  by_cases h0 : rightR r = 0
  · have hn : nodeR r = 0 ∧ sizeR r ≤ 10000 := by
      unfold rightR at h0
      split at h0
      · rename_i h
        refine ⟨h, ?_⟩
        split at h0
        · omega
        · omega
      · rename_i h
        exact absurd h0 h
    have HCan := hide (can42 r hn.1 hn.2 Ht.out)
    have Hsz := hide hn.2
    have hp : printS r = (match canR r with | some s => if 300 < s.length then ([], 3) else (s, 0) | none => ([], 3)) := by unfold printS; rw [if_pos h0]; cases canR r <;> rfl
    rw [h0] at HR
    rw [hp]
    clear hn hp h0
    cases hc : canR r with
    | none =>
      have HC := hide (show ∀ (W : World) (ok : Nat → Prop) (v : Value), RxV W ok v r → Calls Tryz.prog 42 #[v] W fun e w' => ∃ X : ByteArray, e = .returned (.tuple #[.string X, .bool false]) ∧ Below W.heap.size W w' from fun W ok v h => (HCan.out W ok v h).mono (by
        rintro e w ⟨X, rfl, _, _, h2⟩
        exact ⟨X, by rw [hc]; rfl, h2⟩))
      clear hc HCan
      go_enter Tryz.func19, Tryz.ntmps19
      go_wp2_with fail
      with_reducible refine HR.out.mono ?_
      rintro e w2 ⟨rfl, hb2⟩
      have B2 := hide (bgo BB.out hb2)
      have V2 := hide (V.out.kept hb2)
      obtain ⟨_, t0, t1, t2, t3, t4⟩ := F.out.keep hb2
      clear hb2 V F
      go_wp2_with fail
      with_reducible refine (HC.out w2 ok _ V2.out).mono ?_
      rintro e w3 ⟨X, rfl, hb3⟩
      have B3 := hide (bgo B2.out hb3)
      clear hb3
      go_wp2
      go_ret2
      exact ⟨rfl, B3.out⟩
    | some s =>
      have HC := hide (show ∀ (W : World) (ok : Nat → Prop) (v : Value), RxV W ok v r → Calls Tryz.prog 42 #[v] W fun e w' => e = .returned (.tuple #[.string (bs s), .bool true]) ∧ Below W.heap.size W w' from fun W ok v h => (HCan.out W ok v h).mono (by
        rintro e w ⟨X, rfl, h1, _, h2⟩
        exact ⟨by rw [h1 s hc, hc]; rfl, h2⟩))
      obtain ⟨X, hX⟩ : ∃ X, bs s = X := ⟨_, rfl⟩
      have hXs : X.size = s.length := by rw [← hX, bs_size]
      rw [hX] at HC
      clear hc HCan
      by_cases hbig : 300 < s.length
      · have hb2 : (300 : Int) < (X.size : Int) := by omega
        simp only [if_pos hbig]
        clear hXs hX hbig
        go_enter Tryz.func19, Tryz.ntmps19
        go_wp2_with fail
        with_reducible refine HR.out.mono ?_
        rintro e w2 ⟨rfl, hb2⟩
        have B2 := hide (bgo BB.out hb2)
        have V2 := hide (V.out.kept hb2)
        obtain ⟨_, t0, t1, t2, t3, t4⟩ := F.out.keep hb2
        clear hb2 V F
        go_wp2_with fail
        with_reducible refine (HC.out w2 ok _ V2.out).mono ?_
        rintro e w3 ⟨rfl, hb3⟩
        have B3 := hide (bgo B2.out hb3)
        clear hb3
        go_wp2
        go_ret2
        exact ⟨rfl, B3.out⟩
      · have hb2 : ¬ (300 : Int) < (X.size : Int) := by omega
        simp only [if_neg hbig, hX]
        clear hXs hX hbig
        go_enter Tryz.func19, Tryz.ntmps19
        go_wp2_with fail
        with_reducible refine HR.out.mono ?_
        rintro e w2 ⟨rfl, hb2⟩
        have B2 := hide (bgo BB.out hb2)
        have V2 := hide (V.out.kept hb2)
        obtain ⟨_, t0, t1, t2, t3, t4⟩ := F.out.keep hb2
        clear hb2 V F
        go_wp2_with fail
        with_reducible refine (HC.out w2 ok _ V2.out).mono ?_
        rintro e w3 ⟨rfl, hb3⟩
        have B3 := hide (bgo B2.out hb3)
        clear hb3
        go_wp2
        go_ret2
        exact ⟨rfl, B3.out⟩
  · have hp : printS r = ([], rightR r) := by unfold printS; rw [if_neg h0]
    rw [hp]
    obtain ⟨y, hy⟩ : ∃ y, rightR r = y := ⟨_, rfl⟩
    rw [hy] at HR h0 ⊢
    have hy0 := int_ne h0
    clear hp hy h0
    go_enter Tryz.func19, Tryz.ntmps19
    go_wp2_with fail
    with_reducible refine HR.out.mono ?_
    rintro e w2 ⟨rfl, hb2⟩
    have B2 := hide (bgo BB.out hb2)
    clear hb2 V F
    go_wp2
    go_ret2
    exact ⟨rfl, B2.out⟩

end Go.Proofs.YtmiegjefmebpdaaGreatDoor
