/- Layer 9: DC, S1, T1. -/
import Derived.Test.YtkghbhcjgogaeaaDoorDB
import Derived.Test.YtkghbhcjgogaeaaDoorGg
import Derived.Test.YtkghbhcjgogaeaaDoorGu
import Derived.Deep.RegionHeld3
/-! ### DC -/
namespace Go.Proofs.YtkghbhcjgogaeaaDoor
open Go.RowKit

theorem all_mirror : AllMirror := fun r _ hs W _ v hv =>
  (mirrored65 r hs W W.heap.size v (hv.map (fun _ _ _ => rfl) (fun _ _ hlt => hlt)) (Nat.le_refl _)).mono fun _ _ ⟨v', h1, h2, h3⟩ => ⟨v', h1, h2.map (fun _ _ _ => rfl) (fun _ _ _ => trivial), h3⟩
end Go.Proofs.YtkghbhcjgogaeaaDoor
/-! ### S1 -/
namespace Go.Proofs.YtkghbhcjgogaeaaDoor
open Go.RowKit
open Go.ChangeShapes (block_add)

set_option maxRecDepth 100000 in
set_option maxHeartbeats 2000000 in
theorem has25 (a : List Int) (A : Option Addr) (n c : Nat) (x : Int) (hn : n ≤ 1000000) (W : World) (ha : Sl W A n c (numCells a)) :
    Calls Tryd.prog 25 #[.slice A n c, .int .i64 x] W fun e w' => e = .returned (.bool (decide (x ∈ a))) ∧ W = w' := by
  have hla := ha.nlen
  have SA := hide ha
  obtain ⟨q, hq⟩ : ∃ q, decide (x ∈ a) = q := ⟨_, rfl⟩
  rw [hq]
  have Hq := hide hq
  clear ha hq
  go_enter Tryd.func25, Tryd.ntmps25
  go_wp2
  go_loopw [5] (fun y wr => ∃ k : Nat, k ≤ n ∧ y = .int .i64 (k : Int) ∧ (∀ z ∈ a.take k, z ≠ x) ∧ W = wr) (fun y _ => n - (intOf y).toNat)
  case atStart => exact ⟨0, Nat.zero_le _, rfl, fun z hz => (by simp at hz), rfl⟩
  case round =>
    obtain ⟨k, hk, rfl, hs, rfl⟩ := hrel
    have Hs := hide hs
    by_cases hlt : k < n
    · obtain ⟨p1, z, rfl, hz, hcz⟩ := num_cell SA.out.reads hlt
      have hd : decide ((k : Int) < (n : Int)) = true := decide_eq_true (by omega)
      have hd2 : decide (k < n) = true := decide_eq_true hlt
      have Hz := hide hz
      clear hs hz
      by_cases hxy : z = x
      · have heq : (z == x) = true := by rw [beq_iff_eq]; exact hxy
        have hqt : q = true := by
          rw [← Hq.out]
          exact decide_eq_true (by rw [← hxy]; exact List.mem_of_getElem? Hz.out)
        subst hqt
        go_wp2
        go_ret
        exact ⟨rfl, rfl⟩
      · have heq : (z == x) = false := by rw [beq_eq_false_iff_ne]; exact hxy
        go_wp2
        go_roundw
        case rel =>
          refine ⟨k + 1, by omega, by go_num, fun y hy => ?_, trivial⟩
          rw [take_next Hz.out, List.mem_append, List.mem_singleton] at hy
          rcases hy with hy | rfl
          · exact Hs.out y hy
          · exact hxy
        case measure => simp [intOf]; omega
    · obtain rfl : k = n := by omega
      have hqf : q = false := by
        rw [← Hq.out]
        refine decide_eq_false fun h => ?_
        rw [List.take_of_length_le (by omega)] at hs
        exact hs x h rfl
      subst hqf
      clear hs
      go_wp2
      go_ret
      exact ⟨rfl, rfl⟩
set_option maxRecDepth 100000 in
set_option maxHeartbeats 2000000 in
theorem set26 (x : UInt8) (W : World) : Calls Tryd.prog 26 #[.int .u8 (x.toNat : Int)] W fun e w' => ∃ v, e = .returned v ∧ RxV w' (fun _ => True) v (.mk 1 [(x, x)] 0 0 []) ∧ Below W.heap.size W w' := by
  go_enter Tryd.func26, Tryd.ntmps26
  go_wp2
  obtain ⟨w1, hw1⟩ : ∃ w1, W.alloc (.cells #[.int .i64 1, .slice (some ⟨W.heap.size + 1, 0, none⟩) 1 1, .int .i64 0, .int .i64 0, .slice none 0 0] 25) = w1 := ⟨_, rfl⟩
  have hF : Five w1 W.heap.size (.int .i64 1) (.slice (some ⟨W.heap.size + 1, 0, none⟩) 1 1) (.int .i64 0) (.int .i64 0) (.slice none 0 0) := by rw [← hw1]; exact five_new W _ _ _ _ _ 25
  have hs1 : w1.heap.size = W.heap.size + 1 := by rw [← hw1]; simp
  have hb1 : Below W.heap.size W w1 := by rw [← hw1]; exact bnew (Below.refl _ _) _
  rw [hw1]
  have hb2 := bnew (Below.refl _ w1) (.cells #[.int .u8 (x.toNat : Int), .int .u8 (x.toNat : Int)] 66)
  have q2 := heap_alloc_new w1 (.cells #[.int .u8 (x.toNat : Int), .int .u8 (x.toNat : Int)] 66)
  rw [hs1] at q2
  obtain ⟨z0, z1, -, -⟩ := two_cell q2
  refine bodyPost_ret (res_box25 rfl _ _ W.heap.size _ _ _ _ _ rfl (hF.keep hb2)) rfl ⟨_, rfl, ?_, bgo hb1 hb2⟩
  refine RxV.mk 1 0 0 _ _ 1 1 0 0 [(x, x)] [] [] ⟨Nat.le_refl _, by omega, rfl, fun i r hr => ?_⟩ ⟨Nat.le_refl _, by omega, rfl, fun i v hv => (by simp at hv)⟩ rfl (by omega) (by omega) (by omega) (fun i v y hv _ => (by simp at hv))
  obtain rfl : i = 0 := by
    have := (List.getElem?_eq_some_iff.1 hr).1
    simp at this
    exact this
  simp at hr
  subst hr
  exact ⟨_, 0, rfl, trivial, z0, z1⟩
set_option maxRecDepth 100000 in
set_option maxHeartbeats 2000000 in
theorem cat23 (B : Option Addr) (m d : Nat) (l : List Rx) (vs : List Value) (W : World) (ok : Nat → Prop) (hvs : VsS W ok B m d vs) (hlen : l.length = m) (hr : ∀ (i : Nat) (v : Value) (x : Rx), vs[i]? = some v → l[i]? = some x → RxV W ok v x) :
    Calls Tryd.prog 23 #[.slice B m d] W fun e w' => ∃ v, e = .returned v ∧ RxV w' (fun _ => True) v (.mk 2 [] 0 0 l) ∧ Below W.heap.size W w' := by
  have Hvs := hide hvs
  have Hr := hide hr
  clear hvs hr
  go_enter Tryd.func23, Tryd.ntmps23
  go_wp2
  obtain ⟨w1, hw1⟩ : ∃ w1, W.alloc (.cells #[.int .i64 2, .slice none 0 0, .int .i64 0, .int .i64 0, .slice B m d] 25) = w1 := ⟨_, rfl⟩
  have hF : Five w1 W.heap.size (.int .i64 2) (.slice none 0 0) (.int .i64 0) (.int .i64 0) (.slice B m d) := by rw [← hw1]; exact five_new W _ _ _ _ _ 25
  have hb1 : Below W.heap.size W w1 := by rw [← hw1]; exact bnew (Below.refl _ _) _
  rw [hw1]
  refine bodyPost_ret (res_box25 rfl _ _ W.heap.size _ _ _ _ _ rfl hF) rfl ⟨_, rfl, ?_, hb1⟩
  have hv : RxV W ok (.agg #[.int .i64 2, .slice none 0 0, .int .i64 0, .int .i64 0, .slice B m d]) (.mk 2 [] 0 0 l) :=
    RxV.mk 2 0 0 _ _ 0 0 m d [] vs l ⟨Nat.le_refl _, by omega, rfl, fun i r hr => (by simp at hr)⟩ Hvs.out hlen (by omega) (by omega) (by omega) Hr.out
  exact hv.map (fun p _ hp => hb1.cell hp) (fun _ _ _ => trivial)
end Go.Proofs.YtkghbhcjgogaeaaDoor
/-! ### T1 -/
namespace Go.Proofs.YtkghbhcjgogaeaaDoor
open Go.RowKit

def AliveC : Prop := ∀ w : World, HasT w → Calls Tryd.prog 10 #[] w fun e w' => e = .returned (.bool true) ∧ Below w.heap.size w w'
theorem grew_n {w w' : World} {l : List Int} {e : Ending} {N : Nat} (h : GrewI w l e w') (hN : l.length = N) : ∃ A c, e = .returned (.slice A N c) ∧ Sl w' A N c (numCells l) ∧ Below w.heap.size w w' := by
  subst hN
  obtain ⟨A, m, c, rfl, rfl, hs, hb⟩ := h.sl
  exact ⟨A, c, rfl, hs, hb⟩

set_option maxRecDepth 100000 in
set_option maxHeartbeats 6400000 in
theorem law3 (A : AliveC) {ok : Nat → Prop} {v : Value} {r : Rx} (s : ByteArray) (hs : s.size ≤ 9223372036854775807) (h1 : sizeR r ≤ 1000000) (h2 : depthR r ≤ 1000000) (at_ : Int) (w : World) (hv : RxV w ok v r) (hT : HasT w) :
    Calls Tryd.prog 3 #[v, .string s, .int .i64 at_] w fun e w' => e = .returned (.bool true) ∧ Below w.heap.size w w' := by
  obtain ⟨qa, ya, za, Aa, Da, na, ca, ma, da, rfl⟩ := rxv_shape hv
  have hbA := bnew (Below.refl _ w) (.cells #[.int .i64 qa, .slice Aa na ca, .int .i64 ya, .int .i64 za, .slice Da ma da] 25)
  have HA := hide (A _ (hT.below hbA))
  have Ra := hide (hv.kept hbA)
  have Ta := hide (hT.below hbA)
  have Fa := hide (five_new w (.int .i64 qa) (.slice Aa na ca) (.int .i64 ya) (.int .i64 za) (.slice Da ma da) 25)
  have Ba := hide hbA
  have hsb : (s.size : Int) ≤ 9223372036854775807 := by omega
  clear hv hT hbA A
  by_cases h6 : 60 < s.size
  · have h6' : (60 : Int) < (s.size : Int) := by omega
    go_enter Tryd.func3, Tryd.ntmps3
    go_wp2_with fail
    with_reducible refine HA.out.mono ?_
    rintro e w1 ⟨rfl, hb⟩
    have B1 := hide (bgo Ba.out hb)
    clear hb
    go_wp2
    go_ret
    exact ⟨rfl, B1.out⟩
  · have h6' : ¬ (60 : Int) < (s.size : Int) := by omega
    have hs6 : s.size ≤ 60 := by omega
    obtain ⟨L, hL⟩ : ∃ L, natI (endsA r s.data.toList at_) = L := ⟨_, rfl⟩
    obtain ⟨M, hM⟩ : ∃ M, L.length = M := ⟨_, rfl⟩
    have hLl : M ≤ 1000000 := by rw [← hM, ← hL, natI_len]; have := endsA_len r s.data.toList at_; have := strlen s; omega
    have H12 := hide (fun (W : World) (h : RxV W ok (.agg #[.int .i64 qa, .slice Aa na ca, .int .i64 ya, .int .i64 za, .slice Da ma da]) r) (hT : HasT W) => (ends12 s hs6 r h1 h2 at_ W ok _ h hT).mono (R' := fun e w' => ∃ A c, e = .returned (.slice A M c) ∧ Sl w' A M c (numCells L) ∧ Below W.heap.size W w') (fun e w' h => grew_n (hL ▸ h) hM))
    have H13 := hide (fun (W : World) (h : RxV W ok (.agg #[.int .i64 qa, .slice Aa na ca, .int .i64 ya, .int .i64 za, .slice Da ma da]) r) => (rends13 s hs6 r h1 h2 at_ W ok _ h).mono (R' := fun e w' => ∃ A c, e = .returned (.slice A M c) ∧ Sl w' A M c (numCells L) ∧ Below W.heap.size W w') (fun e w' h => grew_n (hL ▸ h) hM))
    have H11 := hide (fun (W : World) (A B : Option Addr) (c d : Nat) (ha : Sl W A M c (numCells L)) (hb : Sl W B M d (numCells L)) => sameints11 L L A B M M c d hLl W ha hb true (by simp))
    clear h1 h2 hL hM
    go_enter Tryd.func3, Tryd.ntmps3
    go_wp2_with fail
    with_reducible refine HA.out.mono ?_
    rintro e w1 ⟨rfl, hb⟩
    have B1 := hide (bgo Ba.out hb)
    have Ra1 := hide (Ra.out.kept hb)
    have Ta1 := hide (Ta.out.below hb)
    have Fa1 := hide (Fa.out.keep hb)
    clear hb Ba Ra Fa Ta
    go_wp2_with fail
    obtain ⟨x, hx⟩ : ∃ x, x = w1 := ⟨_, rfl⟩
    subst hx
    have HK := hide (show ∀ X : World, Below x.heap.size x X → (X.cell? ⟨w.heap.size, 0, none⟩ = some (.int .i64 qa) ∧ X.cell? ⟨w.heap.size, 1, none⟩ = some (.slice Aa na ca) ∧ X.cell? ⟨w.heap.size, 2, none⟩ = some (.int .i64 ya) ∧ X.cell? ⟨w.heap.size, 3, none⟩ = some (.int .i64 za) ∧ X.cell? ⟨w.heap.size, 4, none⟩ = some (.slice Da ma da)) ∧ Below x.heap.size x X from fun X hb => by
      obtain ⟨-, t0, t1, t2, t3, t4⟩ := Fa1.out.keep hb
      exact ⟨⟨t0, t1, t2, t3, t4⟩, hb⟩)
    have HS0 := hide (bel_drew x)
    have HKs := hide (show ∀ X Y : World, (X.cell? ⟨w.heap.size, 0, none⟩ = some (.int .i64 qa) ∧ X.cell? ⟨w.heap.size, 1, none⟩ = some (.slice Aa na ca) ∧ X.cell? ⟨w.heap.size, 2, none⟩ = some (.int .i64 ya) ∧ X.cell? ⟨w.heap.size, 3, none⟩ = some (.int .i64 za) ∧ X.cell? ⟨w.heap.size, 4, none⟩ = some (.slice Da ma da)) ∧ Below x.heap.size x X → Below X.heap.size X Y → (Y.cell? ⟨w.heap.size, 0, none⟩ = some (.int .i64 qa) ∧ Y.cell? ⟨w.heap.size, 1, none⟩ = some (.slice Aa na ca) ∧ Y.cell? ⟨w.heap.size, 2, none⟩ = some (.int .i64 ya) ∧ Y.cell? ⟨w.heap.size, 3, none⟩ = some (.int .i64 za) ∧ Y.cell? ⟨w.heap.size, 4, none⟩ = some (.slice Da ma da)) ∧ Below x.heap.size x Y from fun X Y h hb => HK.out Y (bgo h.2 hb))
    have HKb := hide (show ∀ X : World, (X.cell? ⟨w.heap.size, 0, none⟩ = some (.int .i64 qa) ∧ X.cell? ⟨w.heap.size, 1, none⟩ = some (.slice Aa na ca) ∧ X.cell? ⟨w.heap.size, 2, none⟩ = some (.int .i64 ya) ∧ X.cell? ⟨w.heap.size, 3, none⟩ = some (.int .i64 za) ∧ X.cell? ⟨w.heap.size, 4, none⟩ = some (.slice Da ma da)) ∧ Below x.heap.size x X → Below w.heap.size w X from fun X h => bgo B1.out h.2)
    have HRa := hide (show ∀ X : World, (X.cell? ⟨w.heap.size, 0, none⟩ = some (.int .i64 qa) ∧ X.cell? ⟨w.heap.size, 1, none⟩ = some (.slice Aa na ca) ∧ X.cell? ⟨w.heap.size, 2, none⟩ = some (.int .i64 ya) ∧ X.cell? ⟨w.heap.size, 3, none⟩ = some (.int .i64 za) ∧ X.cell? ⟨w.heap.size, 4, none⟩ = some (.slice Da ma da)) ∧ Below x.heap.size x X → RxV X ok (.agg #[.int .i64 qa, .slice Aa na ca, .int .i64 ya, .int .i64 za, .slice Da ma da]) r from fun X h => Ra1.out.kept h.2)
    have HTa := hide (show ∀ X : World, (X.cell? ⟨w.heap.size, 0, none⟩ = some (.int .i64 qa) ∧ X.cell? ⟨w.heap.size, 1, none⟩ = some (.slice Aa na ca) ∧ X.cell? ⟨w.heap.size, 2, none⟩ = some (.int .i64 ya) ∧ X.cell? ⟨w.heap.size, 3, none⟩ = some (.int .i64 za) ∧ X.cell? ⟨w.heap.size, 4, none⟩ = some (.slice Da ma da)) ∧ Below x.heap.size x X → HasT X from fun X h => Ta1.out.below h.2)
    go_region_held3 (fun w' => (w'.cell? ⟨w.heap.size, 0, none⟩ = some (.int .i64 qa) ∧ w'.cell? ⟨w.heap.size, 1, none⟩ = some (.slice Aa na ca) ∧ w'.cell? ⟨w.heap.size, 2, none⟩ = some (.int .i64 ya) ∧ w'.cell? ⟨w.heap.size, 3, none⟩ = some (.int .i64 za) ∧ w'.cell? ⟨w.heap.size, 4, none⟩ = some (.slice Da ma da)) ∧ Below x.heap.size x w')
      (first | exact HK.out _ HS0.out | exact HKs.out _ _ (by assumption) hb4)
      (first
        | (go_at_call 12; (with_reducible refine (H12.out _ (HRa.out _ ?_) (HTa.out _ ?_)).mono ?_); assumption; assumption; rintro e w4 ⟨AA, ca2, rfl, hsA, hb4⟩; (try have hsB := hsB.below hb4))
        | (go_at_call 13; (with_reducible refine (H13.out _ (HRa.out _ ?_)).mono ?_); assumption; rintro e w4 ⟨AB, cb2, rfl, hsB, hb4⟩; (try have hsA := hsA.below hb4))
        | (go_at_call 11; (with_reducible refine (H11.out _ _ _ _ _ hsA hsB).mono ?_); rintro e w4 ⟨rfl, hb4⟩))
    all_goals
      have Bfin := HKb.out _ (by assumption)
      go_wp2
      go_ret
      exact ⟨rfl, Bfin⟩

theorem allN_len (r : Rx) (s : List UInt8) : ∀ (n i : Nat), (allN r s n i).length ≤ n
  | 0, _ => by simp [allN]
  | n + 1, i => by
    unfold allN
    cases findP r s i with
    | none => simp
    | some p =>
      obtain ⟨a, b⟩ := p
      have := allN_len r s n (if a = b then b + 1 else b)
      simp only [List.length_cons]
      omega
theorem allP_len (r : Rx) (s : List UInt8) : (allP r s).length ≤ s.length + 2 := allN_len r s _ _
theorem owns_n {w : World} {B : Nat} {v : Value} {l : List (Nat × Nat)} {N : Nat} (h : OwnS w B v l) (hN : l.length = N) : ∃ A c, v = .slice A N c ∧ SlS w A N c l := by
  subst hN
  exact h.sl
set_option maxRecDepth 100000 in
set_option maxHeartbeats 6400000 in
theorem law5 (A : AliveC) {ok : Nat → Prop} {v : Value} {r : Rx} (s : ByteArray) (hs : s.size ≤ 9223372036854775807) (h1 : sizeR r ≤ 1000000) (h2 : depthR r ≤ 1000000) (w : World) (hv : RxV w ok v r) (hT : HasT w) :
    Calls Tryd.prog 5 #[v, .string s] w fun e w' => e = .returned (.bool true) ∧ Below w.heap.size w w' := by
  obtain ⟨qa, ya, za, Aa, Da, na, ca, ma, da, rfl⟩ := rxv_shape hv
  have hbA := bnew (Below.refl _ w) (.cells #[.int .i64 qa, .slice Aa na ca, .int .i64 ya, .int .i64 za, .slice Da ma da] 25)
  have HA := hide (A _ (hT.below hbA))
  have Ra := hide (hv.kept hbA)
  have Ta := hide (hT.below hbA)
  have Fa := hide (five_new w (.int .i64 qa) (.slice Aa na ca) (.int .i64 ya) (.int .i64 za) (.slice Da ma da) 25)
  have Ba := hide hbA
  have hsb : (s.size : Int) ≤ 9223372036854775807 := by omega
  clear hv hT hbA A
  by_cases h6 : 60 < s.size
  · have h6' : (60 : Int) < (s.size : Int) := by omega
    go_enter Tryd.func5, Tryd.ntmps5
    go_wp2_with fail
    with_reducible refine HA.out.mono ?_
    rintro e w1 ⟨rfl, hb⟩
    have B1 := hide (bgo Ba.out hb)
    clear hb
    go_wp2
    go_ret
    exact ⟨rfl, B1.out⟩
  · have h6' : ¬ (60 : Int) < (s.size : Int) := by omega
    have hs6 : s.size ≤ 60 := by omega
    obtain ⟨L, hL⟩ : ∃ L, allP r s.data.toList = L := ⟨_, rfl⟩
    obtain ⟨M, hM⟩ : ∃ M, L.length = M := ⟨_, rfl⟩
    have hLl : M ≤ 1000000 := by rw [← hM, ← hL]; have := allP_len r s.data.toList; have := strlen s; omega
    have H12 := hide (fun (W : World) (h : RxV W ok (.agg #[.int .i64 qa, .slice Aa na ca, .int .i64 ya, .int .i64 za, .slice Da ma da]) r) (hT : HasT W) => (all21 all_mirror s hs6 r h1 h2 W ok _ h hT).mono (R' := fun e w' => ∃ A c, e = .returned (.slice A M c) ∧ SlS w' A M c L ∧ Below W.heap.size W w') (fun e w' ⟨u, h1, h2, h3⟩ => by obtain ⟨A, c, rfl, h4⟩ := owns_n (hL ▸ h2) hM; exact ⟨A, c, h1, h4, h3⟩))
    have H13 := hide (fun (W : World) (h : RxV W ok (.agg #[.int .i64 qa, .slice Aa na ca, .int .i64 ya, .int .i64 za, .slice Da ma da]) r) => (rall22 s hs6 r h1 h2 W ok _ h).mono (R' := fun e w' => ∃ A c, e = .returned (.slice A M c) ∧ SlS w' A M c L ∧ Below W.heap.size W w') (fun e w' ⟨u, h1, h2, h3⟩ => by obtain ⟨A, c, rfl, h4⟩ := owns_n (hL ▸ h2) hM; exact ⟨A, c, h1, h4, h3⟩))
    have H11 := hide (fun (W : World) (A B : Option Addr) (c d : Nat) (ha : SlS W A M c L) (hb : SlS W B M d L) => samespans20 L L A B M M c d hLl W ha hb true (by simp))
    clear h1 h2 hL hM
    go_enter Tryd.func5, Tryd.ntmps5
    go_wp2_with fail
    with_reducible refine HA.out.mono ?_
    rintro e w1 ⟨rfl, hb⟩
    have B1 := hide (bgo Ba.out hb)
    have Ra1 := hide (Ra.out.kept hb)
    have Ta1 := hide (Ta.out.below hb)
    have Fa1 := hide (Fa.out.keep hb)
    clear hb Ba Ra Fa Ta
    go_wp2_with fail
    obtain ⟨x, hx⟩ : ∃ x, x = w1 := ⟨_, rfl⟩
    subst hx
    have HK := hide (show ∀ X : World, Below x.heap.size x X → (X.cell? ⟨w.heap.size, 0, none⟩ = some (.int .i64 qa) ∧ X.cell? ⟨w.heap.size, 1, none⟩ = some (.slice Aa na ca) ∧ X.cell? ⟨w.heap.size, 2, none⟩ = some (.int .i64 ya) ∧ X.cell? ⟨w.heap.size, 3, none⟩ = some (.int .i64 za) ∧ X.cell? ⟨w.heap.size, 4, none⟩ = some (.slice Da ma da)) ∧ Below x.heap.size x X from fun X hb => by
      obtain ⟨-, t0, t1, t2, t3, t4⟩ := Fa1.out.keep hb
      exact ⟨⟨t0, t1, t2, t3, t4⟩, hb⟩)
    have HS0 := hide (bel_drew x)
    have HKs := hide (show ∀ X Y : World, (X.cell? ⟨w.heap.size, 0, none⟩ = some (.int .i64 qa) ∧ X.cell? ⟨w.heap.size, 1, none⟩ = some (.slice Aa na ca) ∧ X.cell? ⟨w.heap.size, 2, none⟩ = some (.int .i64 ya) ∧ X.cell? ⟨w.heap.size, 3, none⟩ = some (.int .i64 za) ∧ X.cell? ⟨w.heap.size, 4, none⟩ = some (.slice Da ma da)) ∧ Below x.heap.size x X → Below X.heap.size X Y → (Y.cell? ⟨w.heap.size, 0, none⟩ = some (.int .i64 qa) ∧ Y.cell? ⟨w.heap.size, 1, none⟩ = some (.slice Aa na ca) ∧ Y.cell? ⟨w.heap.size, 2, none⟩ = some (.int .i64 ya) ∧ Y.cell? ⟨w.heap.size, 3, none⟩ = some (.int .i64 za) ∧ Y.cell? ⟨w.heap.size, 4, none⟩ = some (.slice Da ma da)) ∧ Below x.heap.size x Y from fun X Y h hb => HK.out Y (bgo h.2 hb))
    have HKb := hide (show ∀ X : World, (X.cell? ⟨w.heap.size, 0, none⟩ = some (.int .i64 qa) ∧ X.cell? ⟨w.heap.size, 1, none⟩ = some (.slice Aa na ca) ∧ X.cell? ⟨w.heap.size, 2, none⟩ = some (.int .i64 ya) ∧ X.cell? ⟨w.heap.size, 3, none⟩ = some (.int .i64 za) ∧ X.cell? ⟨w.heap.size, 4, none⟩ = some (.slice Da ma da)) ∧ Below x.heap.size x X → Below w.heap.size w X from fun X h => bgo B1.out h.2)
    have HRa := hide (show ∀ X : World, (X.cell? ⟨w.heap.size, 0, none⟩ = some (.int .i64 qa) ∧ X.cell? ⟨w.heap.size, 1, none⟩ = some (.slice Aa na ca) ∧ X.cell? ⟨w.heap.size, 2, none⟩ = some (.int .i64 ya) ∧ X.cell? ⟨w.heap.size, 3, none⟩ = some (.int .i64 za) ∧ X.cell? ⟨w.heap.size, 4, none⟩ = some (.slice Da ma da)) ∧ Below x.heap.size x X → RxV X ok (.agg #[.int .i64 qa, .slice Aa na ca, .int .i64 ya, .int .i64 za, .slice Da ma da]) r from fun X h => Ra1.out.kept h.2)
    have HTa := hide (show ∀ X : World, (X.cell? ⟨w.heap.size, 0, none⟩ = some (.int .i64 qa) ∧ X.cell? ⟨w.heap.size, 1, none⟩ = some (.slice Aa na ca) ∧ X.cell? ⟨w.heap.size, 2, none⟩ = some (.int .i64 ya) ∧ X.cell? ⟨w.heap.size, 3, none⟩ = some (.int .i64 za) ∧ X.cell? ⟨w.heap.size, 4, none⟩ = some (.slice Da ma da)) ∧ Below x.heap.size x X → HasT X from fun X h => Ta1.out.below h.2)
    go_region_held3 (fun w' => (w'.cell? ⟨w.heap.size, 0, none⟩ = some (.int .i64 qa) ∧ w'.cell? ⟨w.heap.size, 1, none⟩ = some (.slice Aa na ca) ∧ w'.cell? ⟨w.heap.size, 2, none⟩ = some (.int .i64 ya) ∧ w'.cell? ⟨w.heap.size, 3, none⟩ = some (.int .i64 za) ∧ w'.cell? ⟨w.heap.size, 4, none⟩ = some (.slice Da ma da)) ∧ Below x.heap.size x w')
      (first | exact HK.out _ HS0.out | exact HKs.out _ _ (by assumption) hb4)
      (first
        | (go_at_call 21; (with_reducible refine (H12.out _ (HRa.out _ ?_) (HTa.out _ ?_)).mono ?_); assumption; assumption; rintro e w4 ⟨AA, ca2, rfl, hsA, hb4⟩; (try have hsB := hsB.below hb4))
        | (go_at_call 22; (with_reducible refine (H13.out _ (HRa.out _ ?_)).mono ?_); assumption; rintro e w4 ⟨AB, cb2, rfl, hsB, hb4⟩; (try have hsA := hsA.below hb4))
        | (go_at_call 20; (with_reducible refine (H11.out _ _ _ _ _ hsA hsB).mono ?_); rintro e w4 ⟨rfl, hb4⟩))
    all_goals
      have Bfin := HKb.out _ (by assumption)
      go_wp2
      go_ret
      exact ⟨rfl, Bfin⟩
end Go.Proofs.YtkghbhcjgogaeaaDoor
