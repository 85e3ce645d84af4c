/- Layer 8: covers, over the contracts. -/
import Derived.Test.YtmiegjefmebpdaaGreatDoorNV
import Derived.Test.YtmiegjefmebpdaaGreatDoorKV
import Derived.Deep.RegionHeld3
import Derived.Deep.CutRange
namespace Go.Proofs.YtmiegjefmebpdaaGreatDoor
open Go.RowKit

theorem covL_at : ∀ {l l' : List Rx} {i : Nat} {x y : Rx}, covL l l' = true → l[i]? = some x → l'[i]? = some y → covR x y = true
  | [], _, i, x, y, _, h, _ => by simp at h
  | _ :: _, [], i, x, y, _, _, h => by simp at h
  | a :: l, b :: l', 0, x, y, h, hx, hy => by
    simp only [covL, Bool.and_eq_true] at h
    simp at hx hy
    subst hx hy
    exact h.1
  | a :: l, b :: l', i + 1, x, y, h, hx, hy => by
    simp only [covL, Bool.and_eq_true] at h
    simp at hx hy
    exact covL_at h.2 hx hy

set_option maxRecDepth 100000 in
set_option maxHeartbeats 6400000 in
theorem covers26 (C : Cs) : CovC := by
  intro W ok ok' v v' r r' hv hv' ht ht' hcov
  induction r using Rx.ind generalizing W ok ok' v v' r' with
  | h k s a b l ih =>
    cases hv with
    | mk _ _ _ A B n c m d _ vs _ hset hvs hlen hk ha hb hr =>
    cases hv' with
    | mk k' a' b' A' B' n' c' m' d' s' vs' l' hset' hvs' hlen' hk' ha' hb' hr' =>
    simp only [covR, Bool.and_eq_true, decide_eq_true_eq] at hcov
    obtain ⟨⟨⟨rfl, rfl, rfl, hll⟩, hall⟩, hL⟩ := hcov
    obtain rfl : m = m' := by omega
    have Hall := hide (show ∀ i : Nat, i < 256 → hasS s' (UInt8.ofNat i) = (hasS s (UInt8.ofNat i) || hasS s (othB (UInt8.ofNat i))) from fun i hi => by
      have := (List.all_eq_true.1 hall) i (List.mem_range.2 hi)
      simpa using this)
    have HL := hide hL
    obtain ⟨hs5, htl⟩ : s.length ≤ 256 ∧ ∀ x ∈ l, Tame x := by cases ht; exact ⟨by assumption, by assumption⟩
    obtain ⟨hs5', htl'⟩ : s'.length ≤ 256 ∧ ∀ x ∈ l', Tame x := by cases ht'; exact ⟨by assumption, by assumption⟩
    have IH := hide (show ∀ x ∈ l, ∀ y ∈ l', covR x y = true → ∀ (W : World) (v v' : Value), RxV W ok v x → RxV W ok' v' y → Calls Tryz.prog 26 #[v, v'] W fun e w' => e = .returned (.bool true) ∧ Below W.heap.size W w' from fun x hx y hy hc W v v' h h' => ih x hx W ok ok' v v' y h h' (htl x hx) (htl' y hy) hc)
    have hnc := hset.1
    have hcc := hset.2.1
    have hnc' := hset'.1
    have hcc' := hset'.2.1
    have hmd := hvs.1
    have hdd := hvs.2.1
    have hmd' := hvs'.1
    have hdd' := hvs'.2.1
    have Hvs := hide hvs
    have Hvs' := hide hvs'
    have Hlen := hide hlen
    have Hlen' := hide hlen'
    have Hr := hide hr
    have Hr' := hide hr'
    have hB2 := bnew (bnew (Below.refl _ W) (.cells #[.int .i64 k, .slice A n c, .int .i64 a, .int .i64 b, .slice B m d] 25)) (.cells #[.int .i64 k, .slice A' n' c', .int .i64 a, .int .i64 b, .slice B' m d'] 25)
    have S := hide (hset.below hB2)
    have S' := hide (hset'.below hB2)
    have BB := hide hB2
    have f1 := (five_new W (.int .i64 k) (.slice A n c) (.int .i64 a) (.int .i64 b) (.slice B m d) 25).keep (bnew (Below.refl _ _) (.cells #[.int .i64 k, .slice A' n' c', .int .i64 a, .int .i64 b, .slice B' m d'] 25))
    have f2 := five_new (W.alloc (.cells #[.int .i64 k, .slice A n c, .int .i64 a, .int .i64 b, .slice B m d] 25)) (.int .i64 k) (.slice A' n' c') (.int .i64 a) (.int .i64 b) (.slice B' m d') 25
    rw [show (W.alloc (.cells #[.int .i64 k, .slice A n c, .int .i64 a, .int .i64 b, .slice B m d] 25)).heap.size = W.heap.size + 1 by simp] at f2
    have F1 := hide f1
    have F2 := hide f2
    have qk : (k != k) = false := by simp
    have qa : (a != a) = false := by simp
    have qb : (b != b) = false := by simp
    have qm : ((m : Int) != (m : Int)) = false := by simp
    have H20 := hide (fun (set : List (UInt8 × UInt8)) (hl : set.length ≤ 256) (x : UInt8) (W : World) (ok : Nat → Prop) (A : Option Addr) (n c : Nat) (h : RgS W ok A n c set) => C.has W ok A n c set x _ h (by omega) rfl)
    have Hs5 := hide hs5
    have Hs5' := hide hs5'
    clear hset hset' hvs hvs' hr hr' hB2 f1 f2 hall hL hlen hlen' ih C ht ht' hs5 hs5' htl htl' hll
    go_enter Tryz.func26, Tryz.ntmps26
    go_wp2_with fail
    obtain ⟨w2, hw2⟩ : ∃ w2, (W.alloc (.cells #[.int .i64 k, .slice A n c, .int .i64 a, .int .i64 b, .slice B m d] 25)).alloc (.cells #[.int .i64 k, .slice A' n' c', .int .i64 a, .int .i64 b, .slice B' m d'] 25) = w2 := ⟨_, rfl⟩
    rw [hw2] at S S' BB F1 F2 ⊢
    clear hw2
    obtain ⟨-, t0, t1, t2, t3, t4⟩ := F1.out
    obtain ⟨-, u0, u1, u2, u3, u4⟩ := F2.out
    go_wp2_with fail
    clear t0 t1 t2 t3 t4 u0 u1 u2 u3 u4
    go_loopw [5] (fun y wr => ∃ i : Nat, i ≤ 256 ∧ y = .int .i64 (i : Int) ∧ Below w2.heap.size w2 wr) (fun y _ => 256 - (intOf y).toNat)
    case atStart => exact ⟨0, Nat.zero_le _, rfl, Below.refl _ _⟩
    case round =>
      obtain ⟨i, hi, rfl, hbel⟩ := hrel
      obtain ⟨w3, hw3⟩ : ∃ w3, w3 = wr := ⟨wr, rfl⟩
      subst hw3
      have HB3 := hide hbel
      have G3 := hide (F1.out.keep hbel)
      have G4 := hide (F2.out.keep hbel)
      have S3 := hide (S.out.below hbel)
      have S4 := hide (S'.out.below hbel)
      clear hbel
      by_cases hlt : i < 256
      · have hx : ((UInt8.ofNat i).toNat : Int) = (i : Int) := by simp; omega
        have hxn : (UInt8.ofNat i).toNat = i := by simp; omega
        have hgo := Hall.out i hlt
        obtain ⟨q2, hq2⟩ : ∃ q, hasS s (UInt8.ofNat i) = q := ⟨_, rfl⟩
        obtain ⟨q3, hq3⟩ : ∃ q, hasS s (othB (UInt8.ofNat i)) = q := ⟨_, rfl⟩
        have Hbc := hide (fun (W : World) (ok : Nat → Prop) (h : RgS W ok A' n' c' s') => H20.out s' Hs5'.out (UInt8.ofNat i) W ok A' n' c' h)
        have Hac := hide (show ∀ (W : World) (z : Int), RgS W ok A n c s → z = ((UInt8.ofNat i).toNat : Int) → Calls Tryz.prog 20 #[.slice A n c, .int .u8 z] W (fun e w' => e = .returned (.bool (hasS s (UInt8.ofNat i))) ∧ Below W.heap.size W w') from fun W z h hz => by rw [hz]; exact H20.out s Hs5.out (UInt8.ofNat i) W ok A n c h)
        have Had := hide (show ∀ (W : World) (z : Int), RgS W ok A n c s → z = ((othB (UInt8.ofNat i)).toNat : Int) → Calls Tryz.prog 20 #[.slice A n c, .int .u8 z] W (fun e w' => e = .returned (.bool (hasS s (othB (UInt8.ofNat i)))) ∧ Below W.heap.size W w') from fun W z h hz => by rw [hz]; exact H20.out s Hs5.out (othB (UInt8.ofNat i)) W ok A n c h)
        rw [hgo, hq2, hq3, hx] at Hbc
        rw [hq2, hx] at Hac
        rw [hq3] at Had
        have hqq : (q3 != q3) = false := by simp
        have hcs : (97 ≤ i ∧ i ≤ 122 ∧ ((othB (UInt8.ofNat i)).toNat : Int) = (i : Int) - 32) ∨ (¬ 97 ≤ i ∧ 65 ≤ i ∧ i ≤ 90 ∧ ((othB (UInt8.ofNat i)).toNat : Int) = (i : Int) + 32) ∨ (¬ (97 ≤ i ∧ i ≤ 122) ∧ ¬ (65 ≤ i ∧ i ≤ 90) ∧ q3 = q2 ∧ ((othB (UInt8.ofNat i)).toNat : Int) = (i : Int)) := by
          unfold othB at hq3 ⊢
          rw [hxn] at hq3 ⊢
          by_cases h1 : 97 ≤ i ∧ i ≤ 122
          · rw [if_pos h1]
            refine Or.inl ⟨h1.1, h1.2, ?_⟩
            simp; omega
          · rw [if_neg h1] at hq3 ⊢
            by_cases h2 : 65 ≤ i ∧ i ≤ 90
            · rw [if_pos h2]
              refine Or.inr (Or.inl ⟨by omega, h2.1, h2.2, ?_⟩)
              simp; omega
            · rw [if_neg h2] at hq3 ⊢
              exact Or.inr (Or.inr ⟨h1, h2, by rw [← hq3, ← hq2], hx⟩)
        obtain ⟨zo, hzo⟩ : ∃ z : Int, ((othB (UInt8.ofNat i)).toNat : Int) = z := ⟨_, rfl⟩
        rw [hzo] at Had hcs
        clear hq2 hq3 hzo hgo hx hxn
        have hii : (i : Int) ≤ 255 := by omega
        go_upto_region 8 with (fail)
        go_cut [49] from 37 to 76 (fun q wx => wx = w3 ∧ q = .bool (decide (97 ≤ i) && decide (i ≤ 122)))
        case first =>
          by_cases a1 : 97 ≤ i
          · have g1 : (97 : Int) ≤ (i : Int) := by omega
            by_cases a2 : i ≤ 122
            · have g2 : (i : Int) ≤ 122 := by omega
              have Hb := hide (show (decide (97 ≤ i) && decide (i ≤ 122)) = true by rw [decide_eq_true a1, decide_eq_true a2]; rfl)
              clear hcs
              go_wp2
              go_meet
              exact ⟨rfl, by rw [Hb.out]⟩
            · have g2 : ¬ (i : Int) ≤ 122 := by omega
              have Hb := hide (show (decide (97 ≤ i) && decide (i ≤ 122)) = false by rw [decide_eq_true a1, decide_eq_false a2]; rfl)
              clear hcs
              go_wp2
              go_meet
              exact ⟨rfl, by rw [Hb.out]⟩
          · have g1 : ¬ (97 : Int) ≤ (i : Int) := by omega
            have Hb := hide (show (decide (97 ≤ i) && decide (i ≤ 122)) = false by rw [decide_eq_false a1]; rfl)
            clear hcs
            go_wp2
            go_meet
            exact ⟨rfl, by rw [Hb.out]⟩
        case rest =>
          obtain ⟨rfl, rfl⟩ := hcut
          go_upto_if 49 with (fail)
          go_cut [7] from 37 to 76 (fun z wx => wx = wc ∧ z = .int .u8 zo)
          case first =>
            rcases hcs with ⟨l1, l2, l3⟩ | ⟨l1, l2, l3, l4⟩ | ⟨l1, l2, rfl, l4⟩
            · have Hb : (decide (97 ≤ i) && decide (i ≤ 122)) = true := by rw [decide_eq_true l1, decide_eq_true l2]; rfl
              rw [Hb]
              have g1 : (97 : Int) ≤ (i : Int) := by omega
              have g2 : (i : Int) ≤ 122 := by omega
              have Hl := hide l3
              clear l3 Hb
              go_wp2
              go_meet
              exact ⟨rfl, by rw [Hl.out]; first | rfl | (congr 1; omega)⟩
            · have Hb : (decide (97 ≤ i) && decide (i ≤ 122)) = false := by rw [decide_eq_false l1]; rfl
              rw [Hb]
              have g1 : (65 : Int) ≤ (i : Int) := by omega
              have g2 : (i : Int) ≤ 90 := by omega
              have Hl := hide l4
              clear l4 Hb
              go_wp2
              go_meet
              exact ⟨rfl, by rw [Hl.out]; first | rfl | (congr 1; omega)⟩
            · have Hb : (decide (97 ≤ i) && decide (i ≤ 122)) = false := by
                by_cases a1 : 97 ≤ i
                · rw [decide_eq_true a1, decide_eq_false (fun h => l1 ⟨a1, h⟩)]; rfl
                · rw [decide_eq_false a1]; rfl
              rw [Hb]
              have Hl := hide l4
              by_cases a1 : 65 ≤ i
              · have g1 : (65 : Int) ≤ (i : Int) := by omega
                have g2 : ¬ (i : Int) ≤ 90 := by omega
                clear l4 Hb
                go_wp2
                go_meet
                exact ⟨rfl, by rw [Hl.out]⟩
              · have g1 : ¬ (65 : Int) ≤ (i : Int) := by omega
                clear l4 Hb
                go_wp2
                go_meet
                exact ⟨rfl, by rw [Hl.out]⟩
          case rest =>
            obtain ⟨rfl, rfl⟩ := hcut
            have hq23 : True := trivial
            clear hcs hq23
            cases q2 with
            | true =>
              go_wp2_with fail
              obtain ⟨x, hx⟩ : ∃ x, x = wc := ⟨_, rfl⟩
              subst hx
              have HK := hide (show ∀ X : World, Below x.heap.size x X → (X.cell? ⟨W.heap.size, 1, none⟩ = some (.slice A n c) ∧ X.cell? ⟨W.heap.size + 1, 1, none⟩ = some (.slice A' n' c')) ∧ Below x.heap.size x X from fun X hb => by
                obtain ⟨-, -, t1, -⟩ := G3.out.keep hb
                obtain ⟨-, -, u1, -⟩ := G4.out.keep hb
                exact ⟨⟨t1, u1⟩, hb⟩)
              have HS0 := hide (bel_drew x)
              have HKs := hide (show ∀ X Y : World, (X.cell? ⟨W.heap.size, 1, none⟩ = some (.slice A n c) ∧ X.cell? ⟨W.heap.size + 1, 1, none⟩ = some (.slice A' n' c')) ∧ Below x.heap.size x X → Below X.heap.size X Y → (Y.cell? ⟨W.heap.size, 1, none⟩ = some (.slice A n c) ∧ Y.cell? ⟨W.heap.size + 1, 1, none⟩ = some (.slice A' n' c')) ∧ Below x.heap.size x Y from fun X Y h hb => HK.out Y (bgo h.2 hb))
              have HK0 := hide (show ∀ X : World, (X.cell? ⟨W.heap.size, 1, none⟩ = some (.slice A n c) ∧ X.cell? ⟨W.heap.size + 1, 1, none⟩ = some (.slice A' n' c')) ∧ Below x.heap.size x X → Below x.heap.size x X from fun X h => h.2)
              have HRa := hide (show ∀ X : World, (X.cell? ⟨W.heap.size, 1, none⟩ = some (.slice A n c) ∧ X.cell? ⟨W.heap.size + 1, 1, none⟩ = some (.slice A' n' c')) ∧ Below x.heap.size x X → RgS X ok A n c s from fun X h => S3.out.below h.2)
              have HRb := hide (show ∀ X : World, (X.cell? ⟨W.heap.size, 1, none⟩ = some (.slice A n c) ∧ X.cell? ⟨W.heap.size + 1, 1, none⟩ = some (.slice A' n' c')) ∧ Below x.heap.size x X → RgS X ok' A' n' c' s' from fun X h => S4.out.below h.2)
              obtain ⟨-, -, t1, -⟩ := G3.out
              obtain ⟨-, -, u1, -⟩ := G4.out
              first
              | (go_region_with (first
                  | (go_at_call 20; refine (Hbc.out _ _ (HRb.out _ (HK.out _ HS0.out))).mono ?_; rintro e w4 ⟨rfl, hb4⟩; obtain ⟨⟨k1, k2⟩, kb⟩ := HKs.out _ _ (HK.out _ HS0.out) hb4)
                  | (go_at_call 20; refine (Hbc.out _ _ (HRb.out _ ⟨⟨k1, k2⟩, kb⟩)).mono ?_; rintro e w4 ⟨rfl, hb4⟩; obtain ⟨⟨k1, k2⟩, kb⟩ := HKs.out _ _ ⟨⟨k1, k2⟩, kb⟩ hb4)
                  | (go_at_call 20; refine (Hac.out _ _ (HRa.out _ (HK.out _ HS0.out)) ?_).mono ?_; omega; rintro e w4 ⟨rfl, hb4⟩; obtain ⟨⟨k1, k2⟩, kb⟩ := HKs.out _ _ (HK.out _ HS0.out) hb4)
                  | (go_at_call 20; refine (Hac.out _ _ (HRa.out _ ⟨⟨k1, k2⟩, kb⟩) ?_).mono ?_; omega; rintro e w4 ⟨rfl, hb4⟩; obtain ⟨⟨k1, k2⟩, kb⟩ := HKs.out _ _ ⟨⟨k1, k2⟩, kb⟩ hb4)))
              | fail
              all_goals
                have Bfin := hide (HB3.out.trans (kb.mono HB3.out.size))
                clear HK HS0 HKs HK0 HRa HRb
                go_wp2
                go_roundw
                case rel => exact ⟨i + 1, by omega, by go_num, Bfin.out⟩
                case measure => simp [intOf]; omega

            | false =>
              go_wp2_with fail
              obtain ⟨x, hx⟩ : ∃ x, x = wc := ⟨_, rfl⟩
              subst hx
              have HK := hide (show ∀ X : World, Below x.heap.size x X → (X.cell? ⟨W.heap.size, 1, none⟩ = some (.slice A n c) ∧ X.cell? ⟨W.heap.size + 1, 1, none⟩ = some (.slice A' n' c')) ∧ Below x.heap.size x X from fun X hb => by
                obtain ⟨-, -, t1, -⟩ := G3.out.keep hb
                obtain ⟨-, -, u1, -⟩ := G4.out.keep hb
                exact ⟨⟨t1, u1⟩, hb⟩)
              have HS0 := hide (bel_drew x)
              have HKs := hide (show ∀ X Y : World, (X.cell? ⟨W.heap.size, 1, none⟩ = some (.slice A n c) ∧ X.cell? ⟨W.heap.size + 1, 1, none⟩ = some (.slice A' n' c')) ∧ Below x.heap.size x X → Below X.heap.size X Y → (Y.cell? ⟨W.heap.size, 1, none⟩ = some (.slice A n c) ∧ Y.cell? ⟨W.heap.size + 1, 1, none⟩ = some (.slice A' n' c')) ∧ Below x.heap.size x Y from fun X Y h hb => HK.out Y (bgo h.2 hb))
              have HK0 := hide (show ∀ X : World, (X.cell? ⟨W.heap.size, 1, none⟩ = some (.slice A n c) ∧ X.cell? ⟨W.heap.size + 1, 1, none⟩ = some (.slice A' n' c')) ∧ Below x.heap.size x X → Below x.heap.size x X from fun X h => h.2)
              have HRa := hide (show ∀ X : World, (X.cell? ⟨W.heap.size, 1, none⟩ = some (.slice A n c) ∧ X.cell? ⟨W.heap.size + 1, 1, none⟩ = some (.slice A' n' c')) ∧ Below x.heap.size x X → RgS X ok A n c s from fun X h => S3.out.below h.2)
              have HRb := hide (show ∀ X : World, (X.cell? ⟨W.heap.size, 1, none⟩ = some (.slice A n c) ∧ X.cell? ⟨W.heap.size + 1, 1, none⟩ = some (.slice A' n' c')) ∧ Below x.heap.size x X → RgS X ok' A' n' c' s' from fun X h => S4.out.below h.2)
              first
              | (go_region_held3 (fun w' => (w'.cell? ⟨W.heap.size, 1, none⟩ = some (.slice A n c) ∧ w'.cell? ⟨W.heap.size + 1, 1, none⟩ = some (.slice A' n' c')) ∧ Below x.heap.size x w')
                (first | assumption | exact HK.out _ HS0.out | exact HKs.out _ _ (by assumption) hb4)
                (first
                  | (go_at_call 20; with_reducible refine (Hbc.out _ _ (HRb.out _ ?_)).mono ?_; assumption; rintro e w4 ⟨rfl, hb4⟩)
                  | (go_at_call 20; with_reducible refine (Hac.out _ _ (HRa.out _ ?_) ?_).mono ?_; assumption; omega; rintro e w4 ⟨rfl, hb4⟩)
                  | (go_at_call 20; with_reducible refine (Had.out _ _ (HRa.out _ ?_) ?_).mono ?_; assumption; omega; rintro e w4 ⟨rfl, hb4⟩)))
              | fail
              all_goals
                have Bfin := hide (HB3.out.trans ((HK0.out w4 (by assumption)).mono HB3.out.size))
                clear HK HS0 HKs HK0 HRa HRb
                go_wp2
                go_roundw
                case rel => exact ⟨i + 1, by omega, by go_num, Bfin.out⟩
                case measure => simp [intOf]; omega

      · have hi256 : ¬ (i : Int) < 256 := by omega
        have HW3 := hide (BB.out.trans (HB3.out.mono BB.out.size))
        have hw3s := HB3.out.size
        obtain ⟨-, t0, t1, t2, t3, t4⟩ := G3.out
        obtain ⟨-, u0, u1, u2, u3, u4'⟩ := G4.out
        clear S3 S4 Hall H20 Hs5 Hs5' HB3
        go_wp2_with fail
        clear t0 t1 t2 t3 t4 u0 u1 u2 u3 u4'
        go_loopw [8] (fun y wr => ∃ j : Nat, j ≤ m ∧ y = .int .i64 (j : Int) ∧ Below w3.heap.size w3 wr) (fun y _ => m - (intOf y).toNat)
        case atStart => exact ⟨0, Nat.zero_le _, rfl, Below.refl _ _⟩
        case round =>
          obtain ⟨j, hj, rfl, hbel⟩ := hrel
          obtain ⟨w5, hw5⟩ : ∃ w5, w5 = wr := ⟨wr, rfl⟩
          subst hw5
          have G5 := hide (G3.out.keep hbel)
          have G6 := hide (G4.out.keep hbel)
          have HB5 := hide hbel
          have HW5 := hide (bgo HW3.out hbel)
          clear hbel
          obtain ⟨-, t0, t1, t2, t3, t4⟩ := G5.out
          obtain ⟨-, u0, u1, u2, u3, u4'⟩ := G6.out
          by_cases hlt2 : j < m
          · have hlt2' : (j : Int) < (m : Int) := by omega
            obtain ⟨g, o, p0, p1, p2, p3, p4, rfl, hp, z0, z1, z2, z3, z4⟩ := (Hvs.out.map (W' := w5) (ok' := ok) (fun q _ hq => HW5.out.cell hq) (fun g h _ => h)).at_ hlt2
            obtain ⟨g', o', e0, e1, e2, e3, e4, rfl, he, y0, y1, y2, y3, y4⟩ := (Hvs'.out.map (W' := w5) (ok' := ok') (fun q _ hq => HW5.out.cell hq) (fun g h _ => h)).at_ hlt2
            obtain ⟨X, hX⟩ : ∃ X, l[j]? = some X := ⟨_, List.getElem?_eq_getElem (by rw [Hlen.out]; exact hlt2)⟩
            obtain ⟨Y, hY⟩ : ∃ Y, l'[j]? = some Y := ⟨_, List.getElem?_eq_getElem (by rw [Hlen'.out]; exact hlt2)⟩
            have rx := (Hr.out j _ X hp hX).map (W' := w5) (ok' := ok) (fun q _ hq => HW5.out.cell hq) (fun g h _ => h)
            have ry := (Hr'.out j _ Y he hY).map (W' := w5) (ok' := ok') (fun q _ hq => HW5.out.cell hq) (fun g h _ => h)
            have HC := hide (fun X' (hb : Below w5.heap.size w5 X') => IH.out X (List.mem_of_getElem? hX) Y (List.mem_of_getElem? hY) (covL_at HL.out hX hY) X' _ _ (rx.kept hb) (ry.kept hb))
            obtain ⟨q0, qA, qn, qc, q1', q2', qB, qm, qd, hag⟩ := rx.agg9
            injection hag with hag
            injection hag with hag
            simp only [List.cons.injEq, and_true] at hag
            obtain ⟨rfl, rfl, rfl, rfl, rfl⟩ := hag
            obtain ⟨r0, rA, rn, rc, r1', r2', rB, rm, rd, hag⟩ := ry.agg9
            injection hag with hag
            injection hag with hag
            simp only [List.cons.injEq, and_true] at hag
            obtain ⟨rfl, rfl, rfl, rfl, rfl⟩ := hag
            have HB5x := hide (show ∀ X' : World, Below w5.heap.size w5 X' → X'.cell? ⟨g, o + j * 5, none⟩ = some (.int .i64 q0) from fun X' hb => (hb.cell (p := ⟨g, o + j * 5, none⟩) (World.block_lt_of_cell? _ _ z0)).trans z0)
            obtain ⟨x, hx⟩ : ∃ x, x = w5 := ⟨_, rfl⟩
            subst hx
            have cel : ∀ (q : Addr) (v : Value), x.cell? q = some v → ∀ X' : World, Below x.heap.size x X' → X'.cell? q = some v := fun q v h X' hb => (hb.cell (p := q) (World.block_lt_of_cell? _ _ h)).trans h
            have HK := hide (show ∀ X' : World, Below x.heap.size x X' → ((X'.cell? ⟨W.heap.size, 4, none⟩ = some (.slice (some ⟨g, o, none⟩) m d) ∧ X'.cell? ⟨W.heap.size + 1, 4, none⟩ = some (.slice (some ⟨g', o', none⟩) m d') ∧ X'.cell? ⟨g, o + j * 5, none⟩ = some (.int .i64 q0) ∧ X'.cell? ⟨g, o + j * 5 + 1, none⟩ = some (.slice qA qn qc) ∧ X'.cell? ⟨g, o + j * 5 + 2, none⟩ = some (.int .i64 q1') ∧ X'.cell? ⟨g, o + j * 5 + 3, none⟩ = some (.int .i64 q2') ∧ X'.cell? ⟨g, o + j * 5 + 4, none⟩ = some (.slice qB qm qd) ∧ X'.cell? ⟨g', o' + j * 5, none⟩ = some (.int .i64 r0) ∧ X'.cell? ⟨g', o' + j * 5 + 1, none⟩ = some (.slice rA rn rc) ∧ X'.cell? ⟨g', o' + j * 5 + 2, none⟩ = some (.int .i64 r1') ∧ X'.cell? ⟨g', o' + j * 5 + 3, none⟩ = some (.int .i64 r2') ∧ X'.cell? ⟨g', o' + j * 5 + 4, none⟩ = some (.slice rB rm rd)) ∧ Below x.heap.size x X') from fun X' hb => ⟨⟨cel _ _ t4 X' hb, cel _ _ u4' X' hb, cel _ _ z0 X' hb, cel _ _ z1 X' hb, cel _ _ z2 X' hb, cel _ _ z3 X' hb, cel _ _ z4 X' hb, cel _ _ y0 X' hb, cel _ _ y1 X' hb, cel _ _ y2 X' hb, cel _ _ y3 X' hb, cel _ _ y4 X' hb⟩, hb⟩)
            have HS0 := hide (bel_drew x)
            have HKs := hide (show ∀ X' Y' : World, ((X'.cell? ⟨W.heap.size, 4, none⟩ = some (.slice (some ⟨g, o, none⟩) m d) ∧ X'.cell? ⟨W.heap.size + 1, 4, none⟩ = some (.slice (some ⟨g', o', none⟩) m d') ∧ X'.cell? ⟨g, o + j * 5, none⟩ = some (.int .i64 q0) ∧ X'.cell? ⟨g, o + j * 5 + 1, none⟩ = some (.slice qA qn qc) ∧ X'.cell? ⟨g, o + j * 5 + 2, none⟩ = some (.int .i64 q1') ∧ X'.cell? ⟨g, o + j * 5 + 3, none⟩ = some (.int .i64 q2') ∧ X'.cell? ⟨g, o + j * 5 + 4, none⟩ = some (.slice qB qm qd) ∧ X'.cell? ⟨g', o' + j * 5, none⟩ = some (.int .i64 r0) ∧ X'.cell? ⟨g', o' + j * 5 + 1, none⟩ = some (.slice rA rn rc) ∧ X'.cell? ⟨g', o' + j * 5 + 2, none⟩ = some (.int .i64 r1') ∧ X'.cell? ⟨g', o' + j * 5 + 3, none⟩ = some (.int .i64 r2') ∧ X'.cell? ⟨g', o' + j * 5 + 4, none⟩ = some (.slice rB rm rd)) ∧ Below x.heap.size x X') → Below X'.heap.size X' Y' → ((Y'.cell? ⟨W.heap.size, 4, none⟩ = some (.slice (some ⟨g, o, none⟩) m d) ∧ Y'.cell? ⟨W.heap.size + 1, 4, none⟩ = some (.slice (some ⟨g', o', none⟩) m d') ∧ Y'.cell? ⟨g, o + j * 5, none⟩ = some (.int .i64 q0) ∧ Y'.cell? ⟨g, o + j * 5 + 1, none⟩ = some (.slice qA qn qc) ∧ Y'.cell? ⟨g, o + j * 5 + 2, none⟩ = some (.int .i64 q1') ∧ Y'.cell? ⟨g, o + j * 5 + 3, none⟩ = some (.int .i64 q2') ∧ Y'.cell? ⟨g, o + j * 5 + 4, none⟩ = some (.slice qB qm qd) ∧ Y'.cell? ⟨g', o' + j * 5, none⟩ = some (.int .i64 r0) ∧ Y'.cell? ⟨g', o' + j * 5 + 1, none⟩ = some (.slice rA rn rc) ∧ Y'.cell? ⟨g', o' + j * 5 + 2, none⟩ = some (.int .i64 r1') ∧ Y'.cell? ⟨g', o' + j * 5 + 3, none⟩ = some (.int .i64 r2') ∧ Y'.cell? ⟨g', o' + j * 5 + 4, none⟩ = some (.slice rB rm rd)) ∧ Below x.heap.size x Y') from fun X' Y' h hb => HK.out Y' (bgo h.2 hb))
            have HK0 := hide (show ∀ X' : World, ((X'.cell? ⟨W.heap.size, 4, none⟩ = some (.slice (some ⟨g, o, none⟩) m d) ∧ X'.cell? ⟨W.heap.size + 1, 4, none⟩ = some (.slice (some ⟨g', o', none⟩) m d') ∧ X'.cell? ⟨g, o + j * 5, none⟩ = some (.int .i64 q0) ∧ X'.cell? ⟨g, o + j * 5 + 1, none⟩ = some (.slice qA qn qc) ∧ X'.cell? ⟨g, o + j * 5 + 2, none⟩ = some (.int .i64 q1') ∧ X'.cell? ⟨g, o + j * 5 + 3, none⟩ = some (.int .i64 q2') ∧ X'.cell? ⟨g, o + j * 5 + 4, none⟩ = some (.slice qB qm qd) ∧ X'.cell? ⟨g', o' + j * 5, none⟩ = some (.int .i64 r0) ∧ X'.cell? ⟨g', o' + j * 5 + 1, none⟩ = some (.slice rA rn rc) ∧ X'.cell? ⟨g', o' + j * 5 + 2, none⟩ = some (.int .i64 r1') ∧ X'.cell? ⟨g', o' + j * 5 + 3, none⟩ = some (.int .i64 r2') ∧ X'.cell? ⟨g', o' + j * 5 + 4, none⟩ = some (.slice rB rm rd)) ∧ Below x.heap.size x X') → Below x.heap.size x X' from fun X' h => h.2)
            clear hX hY rx ry hp he cel
            go_wp2_with fail
            clear t0 t1 t2 t3 t4 u0 u1 u2 u3 u4' z0 z1 z2 z3 z4 y0 y1 y2 y3 y4
            go_region_held3 (fun w' => ((w'.cell? ⟨W.heap.size, 4, none⟩ = some (.slice (some ⟨g, o, none⟩) m d) ∧ w'.cell? ⟨W.heap.size + 1, 4, none⟩ = some (.slice (some ⟨g', o', none⟩) m d') ∧ w'.cell? ⟨g, o + j * 5, none⟩ = some (.int .i64 q0) ∧ w'.cell? ⟨g, o + j * 5 + 1, none⟩ = some (.slice qA qn qc) ∧ w'.cell? ⟨g, o + j * 5 + 2, none⟩ = some (.int .i64 q1') ∧ w'.cell? ⟨g, o + j * 5 + 3, none⟩ = some (.int .i64 q2') ∧ w'.cell? ⟨g, o + j * 5 + 4, none⟩ = some (.slice qB qm qd) ∧ w'.cell? ⟨g', o' + j * 5, none⟩ = some (.int .i64 r0) ∧ w'.cell? ⟨g', o' + j * 5 + 1, none⟩ = some (.slice rA rn rc) ∧ w'.cell? ⟨g', o' + j * 5 + 2, none⟩ = some (.int .i64 r1') ∧ w'.cell? ⟨g', o' + j * 5 + 3, none⟩ = some (.int .i64 r2') ∧ w'.cell? ⟨g', o' + j * 5 + 4, none⟩ = some (.slice rB rm rd)) ∧ Below x.heap.size x w'))
              (first | assumption | exact HK.out _ HS0.out | exact HKs.out _ _ (by assumption) hb4)
              (first
                | (go_at_call 26; (with_reducible refine (HC.out _ (HK0.out _ ?_)).mono ?_); assumption; rintro e w4 ⟨rfl, hb4⟩))
            all_goals
              have Bfin := hide (HB5.out.trans ((HK0.out w4 (by assumption)).mono HB5.out.size))
              go_wp2
              go_roundw
              case rel => exact ⟨j + 1, by omega, by go_num, Bfin.out⟩
              case measure => simp [intOf]; omega
          · have hlt2' : ¬ (j : Int) < (m : Int) := by omega
            go_wp2
            go_ret
            exact ⟨rfl, HW5.out⟩

theorem l9 {ok : Nat → Prop} {v : Value} {r : Rx} (w : World) (hv : RxV w ok v r) : Calls Tryz.prog 9 #[v] w fun e w' => e = .returned (.bool true) ∧ Below w.heap.size w w' := law9 cs (covers26 cs) alive w hv
end Go.Proofs.YtmiegjefmebpdaaGreatDoor
