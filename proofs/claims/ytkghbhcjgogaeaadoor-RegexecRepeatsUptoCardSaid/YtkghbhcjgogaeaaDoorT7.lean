/- Layer 9: law 7 (Joins) over the contracts. -/
import Derived.Test.YtkghbhcjgogaeaaDoorGv
import Derived.Test.YtkghbhcjgogaeaaDoorTC
import Derived.Test.YtkghbhcjgogaeaaDoorU1
import Derived.Test.YtkghbhcjgogaeaaDoorT9
import Derived.BigQuiet
import Derived.Deep.Cut
import Derived.Deep.RegionHeld3
import Derived.IntWalk
namespace Go.Proofs.YtkghbhcjgogaeaaDoor
open Go.RowKit

/-- The ten cells of the boxed array. -/
def Ten (X : World) (H : Nat) (a0 a1 a2 a3 a4 b0 b1 b2 b3 b4 : Value) : Prop := H < X.heap.size ∧ (X.cell? ⟨H, 0, none⟩ = some a0 ∧ X.cell? ⟨H, 1, none⟩ = some a1 ∧ X.cell? ⟨H, 2, none⟩ = some a2 ∧ X.cell? ⟨H, 3, none⟩ = some a3 ∧ X.cell? ⟨H, 4, none⟩ = some a4) ∧
  (X.cell? ⟨H, 5, none⟩ = some b0 ∧ X.cell? ⟨H, 6, none⟩ = some b1 ∧ X.cell? ⟨H, 7, none⟩ = some b2 ∧ X.cell? ⟨H, 8, none⟩ = some b3 ∧ X.cell? ⟨H, 9, none⟩ = some b4)
theorem ten_new (w : World) (a0 a1 a2 a3 a4 b0 b1 b2 b3 b4 : Value) (T : TypeId) : Ten (w.alloc (.cells #[a0, a1, a2, a3, a4, b0, b1, b2, b3, b4] T)) w.heap.size a0 a1 a2 a3 a4 b0 b1 b2 b3 b4 := by
  refine ⟨by simp, ⟨?_, ?_, ?_, ?_, ?_⟩, ?_, ?_, ?_, ?_, ?_⟩ <;> (rw [World.cell?_alloc_mark]; rfl)
theorem Ten.keep {w w' : World} {H : Nat} {a0 a1 a2 a3 a4 b0 b1 b2 b3 b4 : Value} (h : Ten w H a0 a1 a2 a3 a4 b0 b1 b2 b3 b4) (hb : Below w.heap.size w w') : Ten w' H a0 a1 a2 a3 a4 b0 b1 b2 b3 b4 := by
  have key : ∀ (k : Nat) (u : Value), w.cell? ⟨H, k, none⟩ = some u → w'.cell? ⟨H, k, none⟩ = some u := fun k u hu => (hb.cell (p := ⟨H, k, none⟩) h.1).trans hu
  obtain ⟨h0, ⟨h1, h2, h3, h4, h5⟩, k1, k2, k3, k4, k5⟩ := h
  exact ⟨Nat.lt_of_lt_of_le h0 hb.size, ⟨key _ _ h1, key _ _ h2, key _ _ h3, key _ _ h4, key _ _ h5⟩, key _ _ k1, key _ _ k2, key _ _ k3, key _ _ k4, key _ _ k5⟩
/-- Whether k is reached by v from one of the first i ends of u. -/
def reachB (u v : Rx) (s : List UInt8) (at_ : Int) (k i : Nat) : Bool := ((endsA u s at_).take i).any fun q => decide (k ∈ endsA v s (q : Int))
theorem reach_next {u v : Rx} {s : List UInt8} {at_ : Int} {k i q : Nat} (h : (endsA u s at_)[i]? = some q) : reachB u v s at_ k (i + 1) = (reachB u v s at_ k i || decide (k ∈ endsA v s (q : Int))) := by
  unfold reachB
  rw [take_next h, List.any_append]
  simp
theorem reach_all {u v : Rx} (h : rightR (seqR [u, v]) = 0) (s : List UInt8) (at_ : Int) (k : Nat) : reachB u v s at_ k (endsA u s at_).length = decide (k ∈ endsA (seqR [u, v]) s at_) := by
  have hu := right_subs h u (by simp)
  have hv := right_subs h v (by simp)
  unfold reachB
  rw [List.take_of_length_le (Nat.le_refl _), Bool.eq_iff_iff, List.any_eq_true, decide_eq_true_eq, endsA_mem h]
  simp only [decide_eq_true_eq]
  constructor
  · rintro ⟨q, h1, h2⟩
    obtain ⟨k1, k2, k3⟩ := (endsA_mem hu s at_ q).1 h1
    obtain ⟨-, -, k6⟩ := (endsA_mem hv s (q : Int) k).1 h2
    exact ⟨k1, k2, (mt_cat2 u v s _ k).2 ⟨q, k3, by simpa using k6⟩⟩
  · rintro ⟨k1, k2, k3⟩
    obtain ⟨q, h1, h2⟩ := (mt_cat2 u v s _ k).1 k3
    have hq := mt_le u s _ q (by omega) h1
    exact ⟨q, (endsA_mem hu s at_ q).2 ⟨k1, k2, h1⟩, (endsA_mem hv s (q : Int) k).2 ⟨by omega, by omega, by simpa using h2⟩⟩
theorem alt_all {u v : Rx} (h : rightR (.mk 3 [] 0 0 [u, v]) = 0) (s : List UInt8) (at_ : Int) (k : Nat) : decide (k ∈ endsA (.mk 3 [] 0 0 [u, v]) s at_) = (decide (k ∈ endsA u s at_) || decide (k ∈ endsA v s at_)) := by
  have hu := right_subs h u (by simp)
  have hv := right_subs h v (by simp)
  rw [Bool.eq_iff_iff, Bool.or_eq_true, decide_eq_true_eq, decide_eq_true_eq, decide_eq_true_eq, endsA_mem h, endsA_mem hu, endsA_mem hv, mt_alt2]
  constructor
  · rintro ⟨h1, h2, h3 | h3⟩
    · exact Or.inl ⟨h1, h2, h3⟩
    · exact Or.inr ⟨h1, h2, h3⟩
  · rintro (⟨h1, h2, h3⟩ | ⟨h1, h2, h3⟩)
    · exact ⟨h1, h2, Or.inl h3⟩
    · exact ⟨h1, h2, Or.inr h3⟩
theorem has_nat (L : List Nat) (k : Nat) (q : Bool) (hq : decide (k ∈ L) = q) (W : World) (A : Option Addr) (n c : Nat) (hn : n ≤ 1000000) (h : Sl W A n c (numCells (natI L))) : Calls Tryd.prog 25 #[.slice A n c, .int .i64 (k : Int)] W fun e w' => e = .returned (.bool q) ∧ W = w' :=
  (has25 (natI L) A n c (k : Int) hn W h).mono fun e w' ⟨h1, h2⟩ => ⟨by rw [h1, ← hq]; congr 2; exact decide_eq_decide.2 (natI_mem L k), h2⟩

set_option maxRecDepth 100000 in
set_option maxHeartbeats 12800000 in
theorem law7 (A : AliveC) {ok ok' : Nat → Prop} {v0 v1 v2 v3 v4 u0 u1 u2 u3 u4 : Value} {r r' : Rx} (s : ByteArray) (hs : s.size ≤ 9223372036854775807) (hsz : sizeR r + sizeR r' ≤ 900000) (at_ : Int) (w : World)
    (hv : RxV w ok (.agg #[v0, v1, v2, v3, v4]) r) (hv' : RxV w ok' (.agg #[u0, u1, u2, u3, u4]) r') (hd : depthR r ≤ 900000 ∧ depthR r' ≤ 900000) (hT : HasT w) :
    Calls Tryd.prog 7 #[.agg #[v0, v1, v2, v3, v4, u0, u1, u2, u3, u4], .string s, .int .i64 at_] w fun e w' => e = .returned (.bool true) ∧ Below w.heap.size w w' := by
  obtain ⟨a0, a1, a2, aA, aB, an, ac, am, ad, ea⟩ := rxv_shape hv
  obtain ⟨b0, b1, b2, bA, bB, bn, bc, bm, bd, eb⟩ := rxv_shape hv'
  cases ea
  cases eb
  have hbA := bnew (Below.refl _ w) (.cells #[.int .i64 a0, .slice aA an ac, .int .i64 a1, .int .i64 a2, .slice aB am ad, .int .i64 b0, .slice bA bn bc, .int .i64 b1, .int .i64 b2, .slice bB bm bd] 39)
  have HA := hide (A _ (hT.below hbA))
  have Ta := hide (hT.below hbA)
  have Ra := hide (hv.any.kept hbA)
  have Rb := hide (hv'.any.kept hbA)
  have Te := hide (ten_new w (.int .i64 a0) (.slice aA an ac) (.int .i64 a1) (.int .i64 a2) (.slice aB am ad) (.int .i64 b0) (.slice bA bn bc) (.int .i64 b1) (.int .i64 b2) (.slice bB bm bd) 39)
  have B := hide hbA
  have hsb : (s.size : Int) ≤ 9223372036854775807 := by omega
  have hzx : sizeR (seqR [r, r']) ≤ 1000000 ∧ depthR (seqR [r, r']) ≤ 1000000 := by
    unfold seqR sizeR depthR
    unfold sizeL sizeL sizeL depthL depthL depthL
    omega
  have hzy : sizeR (.mk 3 [] 0 0 [r, r']) ≤ 1000000 ∧ depthR (.mk 3 [] 0 0 [r, r']) ≤ 1000000 := by
    unfold sizeR depthR
    unfold sizeL sizeL sizeL depthL depthL depthL
    omega
  obtain ⟨qx, hqx⟩ : ∃ qx, rightR (seqR [r, r']) = qx := ⟨_, rfl⟩
  obtain ⟨qy, hqy⟩ : ∃ qy, rightR (.mk 3 [] 0 0 [r, r']) = qy := ⟨_, rfl⟩
  have HRx := hide (fun (W : World) (v : Value) (h : RxV W anyB v (seqR [r, r'])) => (hqx ▸ rright24 h hzx.1 hzx.2 : Calls Tryd.prog 24 #[v] W fun e w' => e = .returned (.int .i64 qx) ∧ Below W.heap.size W w'))
  have HRy := hide (fun (W : World) (v : Value) (h : RxV W anyB v (.mk 3 [] 0 0 [r, r'])) => (hqy ▸ rright24 h hzy.1 hzy.2 : Calls Tryd.prog 24 #[v] W fun e w' => e = .returned (.int .i64 qy) ∧ Below W.heap.size W w'))
  have HCat := hide cat23'
  clear hv hv' hT hbA A
  go_enter Tryd.func7, Tryd.ntmps7
  go_wp2_with fail
  with_reducible refine HA.out.mono ?_
  rintro e w1 ⟨rfl, hb⟩
  replace B := hide (bgo B.out hb)
  replace Ta := hide (Ta.out.below hb)
  replace Ra := hide (Ra.out.kept hb)
  replace Rb := hide (Rb.out.kept hb)
  replace Te := hide (Te.out.keep hb)
  clear hb HA
  have hE := els2 w1 _ _ _ _ _ _ _ _ _ _ _ _ Ra.out Rb.out
  have hbx := bel_alloc w1 (.cells #[.int .i64 a0, .slice aA an ac, .int .i64 a1, .int .i64 a2, .slice aB am ad, .int .i64 b0, .slice bA bn bc, .int .i64 b1, .int .i64 b2, .slice bB bm bd] 25)
  replace B := hide (bgo B.out hbx)
  replace Ta := hide (Ta.out.below hbx)
  obtain ⟨-, ⟨i0, i1, i2, i3, i4⟩, j0, j1, j2, j3, j4⟩ := Te.out
  go_wp2_with fail
  with_reducible refine (HCat.out _ _ _ _ _ hE).mono ?_
  rintro e w2 ⟨e0, e1, e2, eA, eB, en, ec, em, ed, rfl, hr, hb⟩
  clear i0 i1 i2 i3 i4 j0 j1 j2 j3 j4
  replace B := hide (bgo B.out hb)
  replace Ta := hide (Ta.out.below hb)
  replace Ra := hide (Ra.out.kept (bgo hbx hb))
  replace Rb := hide (Rb.out.kept (bgo hbx hb))
  replace Te := hide (Te.out.keep (bgo hbx hb))
  have hx := bx_new hr
  have hbx2 := bel_alloc w2 (.cells #[.int .i64 e0, .slice eA en ec, .int .i64 e1, .int .i64 e2, .slice eB em ed] 25)
  go_upto_region 4 with fail
  obtain ⟨x2, hx2⟩ : ∃ x2, w2.alloc (.cells #[.int .i64 e0, .slice eA en ec, .int .i64 e1, .int .i64 e2, .slice eB em ed] 25) = x2 := ⟨_, rfl⟩
  obtain ⟨p7, hp7⟩ : ∃ p7, w2.heap.size = p7 := ⟨_, rfl⟩
  rw [hx2] at hx hbx2 ⊢
  rw [hp7] at hx ⊢
  replace B := hide (bgo B.out hbx2)
  replace Ta := hide (Ta.out.below hbx2)
  replace Ra := hide (Ra.out.kept hbx2)
  replace Rb := hide (Rb.out.kept hbx2)
  replace Te := hide (Te.out.keep hbx2)
  have P7 := hide hx
  clear hx hbx hbx2 hx2 hp7 hb hr hE
  obtain ⟨-, ⟨i0, i1, i2, i3, i4⟩, j0, j1, j2, j3, j4⟩ := Te.out
  obtain ⟨hx, hbx⟩ := alt_box Ra.out Rb.out
  go_upto_region 5 with fail
  obtain ⟨x3, hx3⟩ : ∃ x3, (x2.alloc (.cells #[.int .i64 a0, .slice aA an ac, .int .i64 a1, .int .i64 a2, .slice aB am ad, .int .i64 b0, .slice bA bn bc, .int .i64 b1, .int .i64 b2, .slice bB bm bd] 25)).alloc (.cells #[.int .i64 3, .slice none 0 0, .int .i64 0, .int .i64 0, .slice (some ⟨x2.heap.size, 0, none⟩) 2 2] 25) = x3 := ⟨_, rfl⟩
  obtain ⟨p8, hp8⟩ : ∃ p8, x2.heap.size + 1 = p8 := ⟨_, rfl⟩
  obtain ⟨g8, hg8⟩ : ∃ g8, x2.heap.size = g8 := ⟨_, rfl⟩
  rw [hx3] at hx hbx ⊢
  rw [hp8] at hx ⊢
  rw [hg8] at hx ⊢
  clear i0 i1 i2 i3 i4 j0 j1 j2 j3 j4
  replace B := hide (bgo B.out hbx)
  replace Ta := hide (Ta.out.below hbx)
  replace Ra := hide (Ra.out.kept hbx)
  replace Rb := hide (Rb.out.kept hbx)
  replace Te := hide (Te.out.keep hbx)
  replace P7 := hide (P7.out.below hbx)
  have P8 := hide hx
  clear hx hbx hx3 hp8 hg8
  obtain ⟨-, i0, i1, i2, i3, i4⟩ := P7.out.five
  by_cases h6 : 60 < s.size
  · have h6' : (60 : Int) < (s.size : Int) := by omega
    go_wp2
    go_ret
    exact ⟨rfl, B.out⟩
  have h6' : ¬ (60 : Int) < (s.size : Int) := by omega
  have hs6 : s.size ≤ 60 := by omega
  by_cases hx0 : qx = 0
  case neg =>
    have hxn : (qx != 0) = true := bne_iff_ne.2 hx0
    have HC := hide (HRx.out x3 _ P7.out.rx)
    go_wp2_with fail
    with_reducible refine HC.out.mono ?_
    rintro e w3 ⟨rfl, hb⟩
    have B2 := hide (bgo B.out hb)
    clear hb i0 i1 i2 i3 i4
    go_wp2
    go_ret
    exact ⟨rfl, B2.out⟩
  have hxn : (qx != 0) = false := by rw [hx0]; rfl
  have HC := hide (HRx.out x3 _ P7.out.rx)
  go_wp2_with fail
  with_reducible refine HC.out.mono ?_
  rintro e w3 ⟨rfl, hb⟩
  clear i0 i1 i2 i3 i4 HC
  replace B := hide (bgo B.out hb)
  replace Ta := hide (Ta.out.below hb)
  replace Ra := hide (Ra.out.kept hb)
  replace Rb := hide (Rb.out.kept hb)
  replace Te := hide (Te.out.keep hb)
  replace P7 := hide (P7.out.below hb)
  replace P8 := hide (P8.out.below hb)
  clear hb
  obtain ⟨-, i0, i1, i2, i3, i4⟩ := P8.out.five
  have HC := hide (HRy.out w3 _ P8.out.rx)
  by_cases hy0 : qy = 0
  case neg =>
    have hyn : (qy != 0) = true := bne_iff_ne.2 hy0
    go_wp2_with fail
    with_reducible refine HC.out.mono ?_
    rintro e w4 ⟨rfl, hb⟩
    have B2 := hide (bgo B.out hb)
    clear hb i0 i1 i2 i3 i4
    go_wp2
    go_ret
    exact ⟨rfl, B2.out⟩
  have hyn : (qy != 0) = false := by rw [hy0]; rfl
  go_wp2_with fail
  with_reducible refine HC.out.mono ?_
  rintro e w4 ⟨rfl, hb⟩
  clear i0 i1 i2 i3 i4 HC
  replace B := hide (bgo B.out hb)
  replace Ta := hide (Ta.out.below hb)
  replace Ra := hide (Ra.out.kept hb)
  replace Rb := hide (Rb.out.kept hb)
  replace Te := hide (Te.out.keep hb)
  replace P7 := hide (P7.out.below hb)
  replace P8 := hide (P8.out.below hb)
  clear hb
  rw [hx0] at hqx
  rw [hy0] at hqy
  -- the four lists of ends
  obtain ⟨LA, hLA⟩ : ∃ LA, endsA r s.data.toList at_ = LA := ⟨_, rfl⟩
  obtain ⟨LB, hLB⟩ : ∃ LB, endsA r' s.data.toList at_ = LB := ⟨_, rfl⟩
  obtain ⟨LC, hLC⟩ : ∃ LC, endsA (seqR [r, r']) s.data.toList at_ = LC := ⟨_, rfl⟩
  obtain ⟨LD, hLD⟩ : ∃ LD, endsA (.mk 3 [] 0 0 [r, r']) s.data.toList at_ = LD := ⟨_, rfl⟩
  have lenA : LA.length ≤ 1000000 := by rw [← hLA]; have := endsA_len r s.data.toList at_; have := strlen s; omega
  have lenB : LB.length ≤ 1000000 := by rw [← hLB]; have := endsA_len r' s.data.toList at_; have := strlen s; omega
  have lenC : LC.length ≤ 1000000 := by rw [← hLC]; have := endsA_len (seqR [r, r']) s.data.toList at_; have := strlen s; omega
  have lenD : LD.length ≤ 1000000 := by rw [← hLD]; have := endsA_len (.mk 3 [] 0 0 [r, r']) s.data.toList at_; have := strlen s; omega
  obtain ⟨MA, hMA⟩ : ∃ MA, LA.length = MA := ⟨_, rfl⟩
  obtain ⟨MB, hMB⟩ : ∃ MB, LB.length = MB := ⟨_, rfl⟩
  obtain ⟨MC, hMC⟩ : ∃ MC, LC.length = MC := ⟨_, rfl⟩
  obtain ⟨MD, hMD⟩ : ∃ MD, LD.length = MD := ⟨_, rfl⟩
  have HEa := hide (fun (W : World) (h : RxV W anyB (.agg #[.int .i64 a0, .slice aA an ac, .int .i64 a1, .int .i64 a2, .slice aB am ad]) r) (hT : HasT W) => (ends12 s hs6 r (by omega) (by omega) at_ W anyB _ h hT).mono (R' := fun e w' => ∃ A c, e = .returned (.slice A MA c) ∧ Sl w' A MA c (numCells (natI LA)) ∧ Below W.heap.size W w') (fun e w' h => by rw [hLA] at h; exact grew_n h (by rw [natI_len]; exact hMA)))
  have HEb := hide (fun (W : World) (h : RxV W anyB (.agg #[.int .i64 b0, .slice bA bn bc, .int .i64 b1, .int .i64 b2, .slice bB bm bd]) r') (hT : HasT W) => (ends12 s hs6 r' (by omega) (by omega) at_ W anyB _ h hT).mono (R' := fun e w' => ∃ A c, e = .returned (.slice A MB c) ∧ Sl w' A MB c (numCells (natI LB)) ∧ Below W.heap.size W w') (fun e w' h => by rw [hLB] at h; exact grew_n h (by rw [natI_len]; exact hMB)))
  have HEc := hide (fun (W : World) (v : Value) (h : RxV W anyB v (seqR [r, r'])) (hT : HasT W) => (ends12 s hs6 _ hzx.1 hzx.2 at_ W anyB v h hT).mono (R' := fun e w' => ∃ A c, e = .returned (.slice A MC c) ∧ Sl w' A MC c (numCells (natI LC)) ∧ Below W.heap.size W w') (fun e w' h => by rw [hLC] at h; exact grew_n h (by rw [natI_len]; exact hMC)))
  have HEd := hide (fun (W : World) (v : Value) (h : RxV W anyB v (.mk 3 [] 0 0 [r, r'])) (hT : HasT W) => (ends12 s hs6 _ hzy.1 hzy.2 at_ W anyB v h hT).mono (R' := fun e w' => ∃ A c, e = .returned (.slice A MD c) ∧ Sl w' A MD c (numCells (natI LD)) ∧ Below W.heap.size W w') (fun e w' h => by rw [hLD] at h; exact grew_n h (by rw [natI_len]; exact hMD)))
  have HEq := hide (fun (W : World) (q m : Nat) (hm : (natI (endsA r' s.data.toList (q : Int))).length = m) (h : RxV W anyB (.agg #[.int .i64 b0, .slice bA bn bc, .int .i64 b1, .int .i64 b2, .slice bB bm bd]) r') (hT : HasT W) => (ends12 s hs6 r' (by omega) (by omega) (q : Int) W anyB _ h hT).mono (R' := fun e w' => ∃ A c, e = .returned (.slice A m c) ∧ Sl w' A m c (numCells (natI (endsA r' s.data.toList (q : Int)))) ∧ Below W.heap.size W w') (fun e w' h => grew_n h hm))
  have HQl := hide (fun (q : Nat) => show (natI (endsA r' s.data.toList (q : Int))).length ≤ 1000000 by rw [natI_len]; have := endsA_len r' s.data.toList (q : Int); have := strlen s; omega)
  have HRc := hide (fun (k : Nat) => show reachB r r' s.data.toList at_ k LA.length = decide (k ∈ LC) by rw [← hLC, ← hLA]; exact reach_all hqx _ _ _)
  have HAd := hide (fun (k : Nat) => show decide (k ∈ LD) = (decide (k ∈ LA) || decide (k ∈ LB)) by rw [← hLD, ← hLA, ← hLB]; exact alt_all hqy _ _ _)
  have HNx := hide (fun (k i q : Nat) (h : LA[i]? = some q) => show reachB r r' s.data.toList at_ k (i + 1) = (reachB r r' s.data.toList at_ k i || decide (k ∈ endsA r' s.data.toList (q : Int))) from reach_next (by rw [hLA]; exact h))
  have HA0 := hide (fun (k : Nat) => show reachB r r' s.data.toList at_ k 0 = false by unfold reachB; simp)
  have HMA := hide hMA
  rw [hMA] at lenA
  rw [hMB] at lenB
  rw [hMC] at lenC
  rw [hMD] at lenD
  clear hLA hLB hLC hLD hMA hMB hMC hMD hqx hqy hzx hzy hsz hd hx0 hy0 HRx HRy HCat h6
  go_wp2_with fail
  obtain ⟨x, hx⟩ : ∃ x, x = w4 := ⟨_, rfl⟩
  subst hx
  have HK := hide (show ∀ X : World, Below x.heap.size x X → (X.cell? ⟨w.heap.size, 0, none⟩ = some (.int .i64 a0) ∧ X.cell? ⟨w.heap.size, 1, none⟩ = some (.slice aA an ac) ∧ X.cell? ⟨w.heap.size, 2, none⟩ = some (.int .i64 a1) ∧ X.cell? ⟨w.heap.size, 3, none⟩ = some (.int .i64 a2) ∧ X.cell? ⟨w.heap.size, 4, none⟩ = some (.slice aB am ad) ∧ X.cell? ⟨w.heap.size, 5, none⟩ = some (.int .i64 b0) ∧ X.cell? ⟨w.heap.size, 6, none⟩ = some (.slice bA bn bc) ∧ X.cell? ⟨w.heap.size, 7, none⟩ = some (.int .i64 b1) ∧ X.cell? ⟨w.heap.size, 8, none⟩ = some (.int .i64 b2) ∧ X.cell? ⟨w.heap.size, 9, none⟩ = some (.slice bB bm bd)) ∧ Below x.heap.size x X from fun X hb => by
    obtain ⟨-, ⟨k0, k1, k2, k3, k4⟩, l0, l1, l2, l3, l4⟩ := Te.out.keep hb
    exact ⟨⟨k0, k1, k2, k3, k4, l0, l1, l2, l3, l4⟩, hb⟩)
  have HS0 := hide (bel_drew x)
  have HKs := hide (show ∀ X Y : World, (X.cell? ⟨w.heap.size, 0, none⟩ = some (.int .i64 a0) ∧ X.cell? ⟨w.heap.size, 1, none⟩ = some (.slice aA an ac) ∧ X.cell? ⟨w.heap.size, 2, none⟩ = some (.int .i64 a1) ∧ X.cell? ⟨w.heap.size, 3, none⟩ = some (.int .i64 a2) ∧ X.cell? ⟨w.heap.size, 4, none⟩ = some (.slice aB am ad) ∧ X.cell? ⟨w.heap.size, 5, none⟩ = some (.int .i64 b0) ∧ X.cell? ⟨w.heap.size, 6, none⟩ = some (.slice bA bn bc) ∧ X.cell? ⟨w.heap.size, 7, none⟩ = some (.int .i64 b1) ∧ X.cell? ⟨w.heap.size, 8, none⟩ = some (.int .i64 b2) ∧ X.cell? ⟨w.heap.size, 9, none⟩ = some (.slice bB bm bd)) ∧ Below x.heap.size x X → Below X.heap.size X Y → (Y.cell? ⟨w.heap.size, 0, none⟩ = some (.int .i64 a0) ∧ Y.cell? ⟨w.heap.size, 1, none⟩ = some (.slice aA an ac) ∧ Y.cell? ⟨w.heap.size, 2, none⟩ = some (.int .i64 a1) ∧ Y.cell? ⟨w.heap.size, 3, none⟩ = some (.int .i64 a2) ∧ Y.cell? ⟨w.heap.size, 4, none⟩ = some (.slice aB am ad) ∧ Y.cell? ⟨w.heap.size, 5, none⟩ = some (.int .i64 b0) ∧ Y.cell? ⟨w.heap.size, 6, none⟩ = some (.slice bA bn bc) ∧ Y.cell? ⟨w.heap.size, 7, none⟩ = some (.int .i64 b1) ∧ Y.cell? ⟨w.heap.size, 8, none⟩ = some (.int .i64 b2) ∧ Y.cell? ⟨w.heap.size, 9, none⟩ = some (.slice bB bm bd)) ∧ Below x.heap.size x Y from fun X Y h hb => HK.out Y (bgo h.2 hb))
  have HKb := hide (show ∀ X : World, (X.cell? ⟨w.heap.size, 0, none⟩ = some (.int .i64 a0) ∧ X.cell? ⟨w.heap.size, 1, none⟩ = some (.slice aA an ac) ∧ X.cell? ⟨w.heap.size, 2, none⟩ = some (.int .i64 a1) ∧ X.cell? ⟨w.heap.size, 3, none⟩ = some (.int .i64 a2) ∧ X.cell? ⟨w.heap.size, 4, none⟩ = some (.slice aB am ad) ∧ X.cell? ⟨w.heap.size, 5, none⟩ = some (.int .i64 b0) ∧ X.cell? ⟨w.heap.size, 6, none⟩ = some (.slice bA bn bc) ∧ X.cell? ⟨w.heap.size, 7, none⟩ = some (.int .i64 b1) ∧ X.cell? ⟨w.heap.size, 8, none⟩ = some (.int .i64 b2) ∧ X.cell? ⟨w.heap.size, 9, none⟩ = some (.slice bB bm bd)) ∧ Below x.heap.size x X → Below x.heap.size x X from fun X h => h.2)
  have HTa := hide (show ∀ X : World, (X.cell? ⟨w.heap.size, 0, none⟩ = some (.int .i64 a0) ∧ X.cell? ⟨w.heap.size, 1, none⟩ = some (.slice aA an ac) ∧ X.cell? ⟨w.heap.size, 2, none⟩ = some (.int .i64 a1) ∧ X.cell? ⟨w.heap.size, 3, none⟩ = some (.int .i64 a2) ∧ X.cell? ⟨w.heap.size, 4, none⟩ = some (.slice aB am ad) ∧ X.cell? ⟨w.heap.size, 5, none⟩ = some (.int .i64 b0) ∧ X.cell? ⟨w.heap.size, 6, none⟩ = some (.slice bA bn bc) ∧ X.cell? ⟨w.heap.size, 7, none⟩ = some (.int .i64 b1) ∧ X.cell? ⟨w.heap.size, 8, none⟩ = some (.int .i64 b2) ∧ X.cell? ⟨w.heap.size, 9, none⟩ = some (.slice bB bm bd)) ∧ Below x.heap.size x X → HasT X from fun X h => Ta.out.below h.2)
  have HRa := hide (show ∀ X : World, (X.cell? ⟨w.heap.size, 0, none⟩ = some (.int .i64 a0) ∧ X.cell? ⟨w.heap.size, 1, none⟩ = some (.slice aA an ac) ∧ X.cell? ⟨w.heap.size, 2, none⟩ = some (.int .i64 a1) ∧ X.cell? ⟨w.heap.size, 3, none⟩ = some (.int .i64 a2) ∧ X.cell? ⟨w.heap.size, 4, none⟩ = some (.slice aB am ad) ∧ X.cell? ⟨w.heap.size, 5, none⟩ = some (.int .i64 b0) ∧ X.cell? ⟨w.heap.size, 6, none⟩ = some (.slice bA bn bc) ∧ X.cell? ⟨w.heap.size, 7, none⟩ = some (.int .i64 b1) ∧ X.cell? ⟨w.heap.size, 8, none⟩ = some (.int .i64 b2) ∧ X.cell? ⟨w.heap.size, 9, none⟩ = some (.slice bB bm bd)) ∧ Below x.heap.size x X → RxV X anyB (.agg #[.int .i64 a0, .slice aA an ac, .int .i64 a1, .int .i64 a2, .slice aB am ad]) r from fun X h => Ra.out.kept h.2)
  have HRb := hide (show ∀ X : World, (X.cell? ⟨w.heap.size, 0, none⟩ = some (.int .i64 a0) ∧ X.cell? ⟨w.heap.size, 1, none⟩ = some (.slice aA an ac) ∧ X.cell? ⟨w.heap.size, 2, none⟩ = some (.int .i64 a1) ∧ X.cell? ⟨w.heap.size, 3, none⟩ = some (.int .i64 a2) ∧ X.cell? ⟨w.heap.size, 4, none⟩ = some (.slice aB am ad) ∧ X.cell? ⟨w.heap.size, 5, none⟩ = some (.int .i64 b0) ∧ X.cell? ⟨w.heap.size, 6, none⟩ = some (.slice bA bn bc) ∧ X.cell? ⟨w.heap.size, 7, none⟩ = some (.int .i64 b1) ∧ X.cell? ⟨w.heap.size, 8, none⟩ = some (.int .i64 b2) ∧ X.cell? ⟨w.heap.size, 9, none⟩ = some (.slice bB bm bd)) ∧ Below x.heap.size x X → RxV X anyB (.agg #[.int .i64 b0, .slice bA bn bc, .int .i64 b1, .int .i64 b2, .slice bB bm bd]) r' from fun X h => Rb.out.kept h.2)
  go_region_held3 (fun w' => (w'.cell? ⟨w.heap.size, 0, none⟩ = some (.int .i64 a0) ∧ w'.cell? ⟨w.heap.size, 1, none⟩ = some (.slice aA an ac) ∧ w'.cell? ⟨w.heap.size, 2, none⟩ = some (.int .i64 a1) ∧ w'.cell? ⟨w.heap.size, 3, none⟩ = some (.int .i64 a2) ∧ w'.cell? ⟨w.heap.size, 4, none⟩ = some (.slice aB am ad) ∧ w'.cell? ⟨w.heap.size, 5, none⟩ = some (.int .i64 b0) ∧ w'.cell? ⟨w.heap.size, 6, none⟩ = some (.slice bA bn bc) ∧ w'.cell? ⟨w.heap.size, 7, none⟩ = some (.int .i64 b1) ∧ w'.cell? ⟨w.heap.size, 8, none⟩ = some (.int .i64 b2) ∧ w'.cell? ⟨w.heap.size, 9, none⟩ = some (.slice bB bm bd)) ∧ Below x.heap.size x w')
    (first | exact HK.out _ HS0.out | exact HKs.out _ _ (by assumption) hb4)
    (first
      | (go_at_call 12; (with_reducible refine (HEa.out _ (HRa.out _ ?_) (HTa.out _ ?_)).mono ?_); assumption; assumption; rintro e w5 ⟨A1, c1, rfl, hsA, hb4⟩; (try have hsB := hsB.below hb4))
      | (go_at_call 12; (with_reducible refine (HEb.out _ (HRb.out _ ?_) (HTa.out _ ?_)).mono ?_); assumption; assumption; rintro e w6 ⟨A2, c2, rfl, hsB, hb4⟩; (try have hsA := hsA.below hb4)))
  have hX := HKb.out _ (by assumption)
  clear HK HS0 HKs HKb HTa HRa HRb HEa HEb
  replace B := hide (bgo B.out hX)
  replace Ta := hide (Ta.out.below hX)
  replace Ra := hide (Ra.out.kept hX)
  replace Rb := hide (Rb.out.kept hX)
  replace Te := hide (Te.out.keep hX)
  replace P7 := hide (P7.out.below hX)
  replace P8 := hide (P8.out.below hX)
  have SA := hide hsA
  have SB := hide hsB
  clear hX hsA hsB hb4
  go_wp2_with fail
  obtain ⟨x8, hx8⟩ : ∃ x8, x8 = w6 := ⟨_, rfl⟩
  subst hx8
  have HK := hide (show ∀ X : World, Below x8.heap.size x8 X → (X.cell? ⟨p7, 0, none⟩ = some (.int .i64 e0) ∧ X.cell? ⟨p7, 1, none⟩ = some (.slice eA en ec) ∧ X.cell? ⟨p7, 2, none⟩ = some (.int .i64 e1) ∧ X.cell? ⟨p7, 3, none⟩ = some (.int .i64 e2) ∧ X.cell? ⟨p7, 4, none⟩ = some (.slice eB em ed) ∧ X.cell? ⟨p8, 0, none⟩ = some (.int .i64 3) ∧ X.cell? ⟨p8, 1, none⟩ = some (.slice none 0 0) ∧ X.cell? ⟨p8, 2, none⟩ = some (.int .i64 0) ∧ X.cell? ⟨p8, 3, none⟩ = some (.int .i64 0) ∧ X.cell? ⟨p8, 4, none⟩ = some (.slice (some ⟨g8, 0, none⟩) 2 2)) ∧ Below x8.heap.size x8 X from fun X hb => by
    obtain ⟨-, k0, k1, k2, k3, k4⟩ := (P7.out.below hb).five
    obtain ⟨-, l0, l1, l2, l3, l4⟩ := (P8.out.below hb).five
    exact ⟨⟨k0, k1, k2, k3, k4, l0, l1, l2, l3, l4⟩, hb⟩)
  have HS0 := hide (bel_drew x8)
  have HKs := hide (show ∀ X Y : World, (X.cell? ⟨p7, 0, none⟩ = some (.int .i64 e0) ∧ X.cell? ⟨p7, 1, none⟩ = some (.slice eA en ec) ∧ X.cell? ⟨p7, 2, none⟩ = some (.int .i64 e1) ∧ X.cell? ⟨p7, 3, none⟩ = some (.int .i64 e2) ∧ X.cell? ⟨p7, 4, none⟩ = some (.slice eB em ed) ∧ X.cell? ⟨p8, 0, none⟩ = some (.int .i64 3) ∧ X.cell? ⟨p8, 1, none⟩ = some (.slice none 0 0) ∧ X.cell? ⟨p8, 2, none⟩ = some (.int .i64 0) ∧ X.cell? ⟨p8, 3, none⟩ = some (.int .i64 0) ∧ X.cell? ⟨p8, 4, none⟩ = some (.slice (some ⟨g8, 0, none⟩) 2 2)) ∧ Below x8.heap.size x8 X → Below X.heap.size X Y → (Y.cell? ⟨p7, 0, none⟩ = some (.int .i64 e0) ∧ Y.cell? ⟨p7, 1, none⟩ = some (.slice eA en ec) ∧ Y.cell? ⟨p7, 2, none⟩ = some (.int .i64 e1) ∧ Y.cell? ⟨p7, 3, none⟩ = some (.int .i64 e2) ∧ Y.cell? ⟨p7, 4, none⟩ = some (.slice eB em ed) ∧ Y.cell? ⟨p8, 0, none⟩ = some (.int .i64 3) ∧ Y.cell? ⟨p8, 1, none⟩ = some (.slice none 0 0) ∧ Y.cell? ⟨p8, 2, none⟩ = some (.int .i64 0) ∧ Y.cell? ⟨p8, 3, none⟩ = some (.int .i64 0) ∧ Y.cell? ⟨p8, 4, none⟩ = some (.slice (some ⟨g8, 0, none⟩) 2 2)) ∧ Below x8.heap.size x8 Y from fun X Y h hb => HK.out Y (bgo h.2 hb))
  have HKb := hide (show ∀ X : World, (X.cell? ⟨p7, 0, none⟩ = some (.int .i64 e0) ∧ X.cell? ⟨p7, 1, none⟩ = some (.slice eA en ec) ∧ X.cell? ⟨p7, 2, none⟩ = some (.int .i64 e1) ∧ X.cell? ⟨p7, 3, none⟩ = some (.int .i64 e2) ∧ X.cell? ⟨p7, 4, none⟩ = some (.slice eB em ed) ∧ X.cell? ⟨p8, 0, none⟩ = some (.int .i64 3) ∧ X.cell? ⟨p8, 1, none⟩ = some (.slice none 0 0) ∧ X.cell? ⟨p8, 2, none⟩ = some (.int .i64 0) ∧ X.cell? ⟨p8, 3, none⟩ = some (.int .i64 0) ∧ X.cell? ⟨p8, 4, none⟩ = some (.slice (some ⟨g8, 0, none⟩) 2 2)) ∧ Below x8.heap.size x8 X → Below x8.heap.size x8 X from fun X h => h.2)
  have HTa := hide (show ∀ X : World, (X.cell? ⟨p7, 0, none⟩ = some (.int .i64 e0) ∧ X.cell? ⟨p7, 1, none⟩ = some (.slice eA en ec) ∧ X.cell? ⟨p7, 2, none⟩ = some (.int .i64 e1) ∧ X.cell? ⟨p7, 3, none⟩ = some (.int .i64 e2) ∧ X.cell? ⟨p7, 4, none⟩ = some (.slice eB em ed) ∧ X.cell? ⟨p8, 0, none⟩ = some (.int .i64 3) ∧ X.cell? ⟨p8, 1, none⟩ = some (.slice none 0 0) ∧ X.cell? ⟨p8, 2, none⟩ = some (.int .i64 0) ∧ X.cell? ⟨p8, 3, none⟩ = some (.int .i64 0) ∧ X.cell? ⟨p8, 4, none⟩ = some (.slice (some ⟨g8, 0, none⟩) 2 2)) ∧ Below x8.heap.size x8 X → HasT X from fun X h => Ta.out.below h.2)
  have HP7 := hide (show ∀ X : World, (X.cell? ⟨p7, 0, none⟩ = some (.int .i64 e0) ∧ X.cell? ⟨p7, 1, none⟩ = some (.slice eA en ec) ∧ X.cell? ⟨p7, 2, none⟩ = some (.int .i64 e1) ∧ X.cell? ⟨p7, 3, none⟩ = some (.int .i64 e2) ∧ X.cell? ⟨p7, 4, none⟩ = some (.slice eB em ed) ∧ X.cell? ⟨p8, 0, none⟩ = some (.int .i64 3) ∧ X.cell? ⟨p8, 1, none⟩ = some (.slice none 0 0) ∧ X.cell? ⟨p8, 2, none⟩ = some (.int .i64 0) ∧ X.cell? ⟨p8, 3, none⟩ = some (.int .i64 0) ∧ X.cell? ⟨p8, 4, none⟩ = some (.slice (some ⟨g8, 0, none⟩) 2 2)) ∧ Below x8.heap.size x8 X → RxV X anyB (.agg #[.int .i64 e0, .slice eA en ec, .int .i64 e1, .int .i64 e2, .slice eB em ed]) (seqR [r, r']) from fun X h => P7.out.rx.kept h.2)
  have HP8 := hide (show ∀ X : World, (X.cell? ⟨p7, 0, none⟩ = some (.int .i64 e0) ∧ X.cell? ⟨p7, 1, none⟩ = some (.slice eA en ec) ∧ X.cell? ⟨p7, 2, none⟩ = some (.int .i64 e1) ∧ X.cell? ⟨p7, 3, none⟩ = some (.int .i64 e2) ∧ X.cell? ⟨p7, 4, none⟩ = some (.slice eB em ed) ∧ X.cell? ⟨p8, 0, none⟩ = some (.int .i64 3) ∧ X.cell? ⟨p8, 1, none⟩ = some (.slice none 0 0) ∧ X.cell? ⟨p8, 2, none⟩ = some (.int .i64 0) ∧ X.cell? ⟨p8, 3, none⟩ = some (.int .i64 0) ∧ X.cell? ⟨p8, 4, none⟩ = some (.slice (some ⟨g8, 0, none⟩) 2 2)) ∧ Below x8.heap.size x8 X → RxV X anyB (.agg #[.int .i64 3, .slice none 0 0, .int .i64 0, .int .i64 0, .slice (some ⟨g8, 0, none⟩) 2 2]) (.mk 3 [] 0 0 [r, r']) from fun X h => P8.out.rx.kept h.2)
  go_region_held3 (fun w' => (w'.cell? ⟨p7, 0, none⟩ = some (.int .i64 e0) ∧ w'.cell? ⟨p7, 1, none⟩ = some (.slice eA en ec) ∧ w'.cell? ⟨p7, 2, none⟩ = some (.int .i64 e1) ∧ w'.cell? ⟨p7, 3, none⟩ = some (.int .i64 e2) ∧ w'.cell? ⟨p7, 4, none⟩ = some (.slice eB em ed) ∧ w'.cell? ⟨p8, 0, none⟩ = some (.int .i64 3) ∧ w'.cell? ⟨p8, 1, none⟩ = some (.slice none 0 0) ∧ w'.cell? ⟨p8, 2, none⟩ = some (.int .i64 0) ∧ w'.cell? ⟨p8, 3, none⟩ = some (.int .i64 0) ∧ w'.cell? ⟨p8, 4, none⟩ = some (.slice (some ⟨g8, 0, none⟩) 2 2)) ∧ Below x8.heap.size x8 w')
    (first | exact HK.out _ HS0.out | exact HKs.out _ _ (by assumption) hb4)
    (first
      | (go_at_call 12; (with_reducible refine (HEc.out _ _ (HP7.out _ ?_) (HTa.out _ ?_)).mono ?_); assumption; assumption; rintro e w7 ⟨A3, c3, rfl, hsC, hb4⟩; (try have hsD := hsD.below hb4))
      | (go_at_call 12; (with_reducible refine (HEd.out _ _ (HP8.out _ ?_) (HTa.out _ ?_)).mono ?_); assumption; assumption; rintro e w8 ⟨A4, c4, rfl, hsD, hb4⟩; (try have hsC := hsC.below hb4)))
  have hX := HKb.out _ (by assumption)
  clear HK HS0 HKs HKb HTa HP7 HP8 HEc HEd
  replace B := hide (bgo B.out hX)
  replace Ta := hide (Ta.out.below hX)
  replace Ra := hide (Ra.out.kept hX)
  replace Rb := hide (Rb.out.kept hX)
  replace Te := hide (Te.out.keep hX)
  replace SA := hide (SA.out.below hX)
  replace SB := hide (SB.out.below hX)
  have SC := hide hsC
  have SD := hide hsD
  clear hX hsC hsD hb4 P7 P8
  go_wp2_with fail
  go_loopw [13, 14, 15] (fun y _ _ wr => ∃ k : Nat, k ≤ s.size + 1 ∧ y = .int .i64 (k : Int) ∧ Below w8.heap.size w8 wr) (fun y _ _ _ => s.size + 1 - (intOf y).toNat)
  case atStart => exact ⟨0, Nat.zero_le _, rfl, Below.refl _ _⟩
  case round =>
    obtain ⟨k, hk, rfl, hbel⟩ := hrel
    obtain ⟨xk, hxk⟩ : ∃ xk, xk = wr := ⟨wr, rfl⟩
    subst hxk
    have Hk8 := hide hbel
    have Bk := hide (bgo B.out hbel)
    have Tak := hide (Ta.out.below hbel)
    have Rbk := hide (Rb.out.kept hbel)
    have Tek := hide (Te.out.keep hbel)
    have SAk := hide (SA.out.below hbel)
    have SBk := hide (SB.out.below hbel)
    have SCk := hide (SC.out.below hbel)
    have SDk := hide (SD.out.below hbel)
    clear hbel
    by_cases hks : k ≤ s.size
    · have hks' : (k : Int) ≤ (s.size : Int) := by omega
      have hk60 : (k : Int) ≤ 60 := by omega
      obtain ⟨RB, hRB⟩ : ∃ RB : Nat → Bool, (fun i => reachB r r' s.data.toList at_ k i) = RB := ⟨_, rfl⟩
      have HR0 := hide (show RB 0 = false by rw [← hRB]; exact HA0.out k)
      have HRn := hide (show ∀ (i q : Nat), LA[i]? = some q → RB (i + 1) = (RB i || decide (k ∈ endsA r' s.data.toList (q : Int))) by rw [← hRB]; exact fun i q h => HNx.out k i q h)
      have HRe := hide (show RB MA = decide (k ∈ LC) by rw [← hRB, ← HMA.out]; exact HRc.out k)
      clear hRB
      go_wp2_with fail
      go_loopw [14, 15] (fun rb y wr => ∃ i : Nat, i ≤ MA ∧ y = .int .i64 (i : Int) ∧ rb = .bool (RB i) ∧ Below xk.heap.size xk wr) (fun _ y _ => MA - (intOf y).toNat)
      case atStart => exact ⟨0, Nat.zero_le _, rfl, by rw [HR0.out], Below.refl _ _⟩
      case round =>
        obtain ⟨i, hi, rfl, rfl, hbel⟩ := hrel
        obtain ⟨xi, hxi⟩ : ∃ xi, xi = wr := ⟨wr, rfl⟩
        subst hxi
        have Hki := hide hbel
        have Tai := hide (Tak.out.below hbel)
        have Rbi := hide (Rbk.out.kept hbel)
        have Tei := hide (Tek.out.keep hbel)
        have SAi := hide (SAk.out.below hbel)
        clear hbel
        have hib : (i : Int) ≤ 1000000 := by omega
        by_cases hlt : i < MA
        · have hlt' : (i : Int) < (MA : Int) := by omega
          obtain ⟨q, hq⟩ : ∃ q, LA[i]? = some q := ⟨_, List.getElem?_eq_getElem (by rw [HMA.out]; exact hlt)⟩
          have hn := HRn.out i q hq
          obtain ⟨ad, z, rfl, hz, hcz⟩ := num_cell SAi.out.reads hlt
          obtain rfl : z = (q : Int) := by
            unfold natI at hz
            rw [List.getElem?_map, hq] at hz
            exact (Option.some.inj hz).symm
          have Hn := hide hn
          have Hq := hide hq
          clear hn hq hz
          obtain ⟨rb, hrb⟩ : ∃ rb, RB i = rb := ⟨_, rfl⟩
          rw [hrb] at Hn ⊢
          clear hrb
          cases rb with
          | true =>
            have Hn2 := hide (show RB (i + 1) = true by rw [Hn.out]; rfl)
            clear Hn hcz
            go_wp2_with fail
            go_quiet (fail)
            go_wp2
            go_roundw
            case rel => exact ⟨i + 1, by omega, by go_num, by rw [Hn2.out], bdr Hki.out _⟩
            case measure => simp [intOf]; omega
          | false =>
            have Hn2 := hide (show RB (i + 1) = decide (k ∈ endsA r' s.data.toList (q : Int)) by rw [Hn.out]; rfl)
            obtain ⟨m, hm⟩ : ∃ m, (natI (endsA r' s.data.toList (q : Int))).length = m := ⟨_, rfl⟩
            have hm6 : m ≤ 1000000 := by rw [← hm]; exact HQl.out q
            have Hm := hide hm
            obtain ⟨qb, hqb⟩ : ∃ qb, decide (k ∈ endsA r' s.data.toList (q : Int)) = qb := ⟨_, rfl⟩
            have HH := hide (fun (W : World) (A : Option Addr) (c : Nat) (h : Sl W A m c (numCells (natI (endsA r' s.data.toList (q : Int))))) => has_nat _ k qb hqb W A m c hm6 h)
            rw [hqb] at Hn2
            have hi1 : ¬ (MA : Int) ≤ (i : Int) := by omega
            have hi2 : ¬ MA ≤ i := by omega
            clear Hn hm hqb
            go_wp2_with fail
            have HK := hide (show ∀ X : World, Below xi.heap.size xi X → (X.cell? ⟨w.heap.size, 5, none⟩ = some (.int .i64 b0) ∧ X.cell? ⟨w.heap.size, 6, none⟩ = some (.slice bA bn bc) ∧ X.cell? ⟨w.heap.size, 7, none⟩ = some (.int .i64 b1) ∧ X.cell? ⟨w.heap.size, 8, none⟩ = some (.int .i64 b2) ∧ X.cell? ⟨w.heap.size, 9, none⟩ = some (.slice bB bm bd) ∧ X.cell? (ad.add i) = some (.int .i64 (q : Int))) ∧ Below xi.heap.size xi X from fun X hb => by
              obtain ⟨-, -, l0, l1, l2, l3, l4⟩ := Tei.out.keep hb
              exact ⟨⟨l0, l1, l2, l3, l4, (hb.cell (World.block_lt_of_cell? _ _ hcz)).trans hcz⟩, hb⟩)
            have HS0 := hide (bel_drew xi)
            have HKs := hide (show ∀ X Y : World, (X.cell? ⟨w.heap.size, 5, none⟩ = some (.int .i64 b0) ∧ X.cell? ⟨w.heap.size, 6, none⟩ = some (.slice bA bn bc) ∧ X.cell? ⟨w.heap.size, 7, none⟩ = some (.int .i64 b1) ∧ X.cell? ⟨w.heap.size, 8, none⟩ = some (.int .i64 b2) ∧ X.cell? ⟨w.heap.size, 9, none⟩ = some (.slice bB bm bd) ∧ X.cell? (ad.add i) = some (.int .i64 (q : Int))) ∧ Below xi.heap.size xi X → Below X.heap.size X Y → (Y.cell? ⟨w.heap.size, 5, none⟩ = some (.int .i64 b0) ∧ Y.cell? ⟨w.heap.size, 6, none⟩ = some (.slice bA bn bc) ∧ Y.cell? ⟨w.heap.size, 7, none⟩ = some (.int .i64 b1) ∧ Y.cell? ⟨w.heap.size, 8, none⟩ = some (.int .i64 b2) ∧ Y.cell? ⟨w.heap.size, 9, none⟩ = some (.slice bB bm bd) ∧ Y.cell? (ad.add i) = some (.int .i64 (q : Int))) ∧ Below xi.heap.size xi Y from fun X Y h hb => HK.out Y (bgo h.2 hb))
            have HKb := hide (show ∀ X : World, (X.cell? ⟨w.heap.size, 5, none⟩ = some (.int .i64 b0) ∧ X.cell? ⟨w.heap.size, 6, none⟩ = some (.slice bA bn bc) ∧ X.cell? ⟨w.heap.size, 7, none⟩ = some (.int .i64 b1) ∧ X.cell? ⟨w.heap.size, 8, none⟩ = some (.int .i64 b2) ∧ X.cell? ⟨w.heap.size, 9, none⟩ = some (.slice bB bm bd) ∧ X.cell? (ad.add i) = some (.int .i64 (q : Int))) ∧ Below xi.heap.size xi X → Below xi.heap.size xi X from fun X h => h.2)
            have HTa := hide (show ∀ X : World, (X.cell? ⟨w.heap.size, 5, none⟩ = some (.int .i64 b0) ∧ X.cell? ⟨w.heap.size, 6, none⟩ = some (.slice bA bn bc) ∧ X.cell? ⟨w.heap.size, 7, none⟩ = some (.int .i64 b1) ∧ X.cell? ⟨w.heap.size, 8, none⟩ = some (.int .i64 b2) ∧ X.cell? ⟨w.heap.size, 9, none⟩ = some (.slice bB bm bd) ∧ X.cell? (ad.add i) = some (.int .i64 (q : Int))) ∧ Below xi.heap.size xi X → HasT X from fun X h => Tai.out.below h.2)
            have HRb := hide (show ∀ X : World, (X.cell? ⟨w.heap.size, 5, none⟩ = some (.int .i64 b0) ∧ X.cell? ⟨w.heap.size, 6, none⟩ = some (.slice bA bn bc) ∧ X.cell? ⟨w.heap.size, 7, none⟩ = some (.int .i64 b1) ∧ X.cell? ⟨w.heap.size, 8, none⟩ = some (.int .i64 b2) ∧ X.cell? ⟨w.heap.size, 9, none⟩ = some (.slice bB bm bd) ∧ X.cell? (ad.add i) = some (.int .i64 (q : Int))) ∧ Below xi.heap.size xi X → RxV X anyB (.agg #[.int .i64 b0, .slice bA bn bc, .int .i64 b1, .int .i64 b2, .slice bB bm bd]) r' from fun X h => Rbi.out.kept h.2)
            go_region_held3 (fun w' => (w'.cell? ⟨w.heap.size, 5, none⟩ = some (.int .i64 b0) ∧ w'.cell? ⟨w.heap.size, 6, none⟩ = some (.slice bA bn bc) ∧ w'.cell? ⟨w.heap.size, 7, none⟩ = some (.int .i64 b1) ∧ w'.cell? ⟨w.heap.size, 8, none⟩ = some (.int .i64 b2) ∧ w'.cell? ⟨w.heap.size, 9, none⟩ = some (.slice bB bm bd) ∧ w'.cell? (ad.add i) = some (.int .i64 (q : Int))) ∧ Below xi.heap.size xi w')
              (first | exact HK.out _ HS0.out | exact HKs.out _ _ (by assumption) hb4 | assumption)
              (first
                | (go_at_call 12; (with_reducible refine (HEq.out _ q m Hm.out (HRb.out _ ?_) (HTa.out _ ?_)).mono ?_); assumption; assumption; rintro e w9 ⟨AE, cE, rfl, hsE, hb4⟩)
                | (go_at_call 25; (with_reducible refine (HH.out _ _ _ hsE).mono ?_); rintro e w10 ⟨rfl, rfl⟩))
            have B5 := hide (bgo Hki.out (HKb.out _ (by assumption)))
            clear HK HS0 HKs HKb HRb HTa
            go_wp2
            go_roundw
            case rel => exact ⟨i + 1, by omega, by go_num, by rw [Hn2.out], B5.out⟩
            case measure => simp [intOf]; omega
        · obtain rfl : i = MA := by omega
          have hlt' : ¬ (i : Int) < (i : Int) := by omega
          obtain ⟨cq, hcq⟩ : ∃ cq, decide (k ∈ LC) = cq := ⟨_, rfl⟩
          obtain ⟨aq, haq⟩ : ∃ aq, decide (k ∈ LA) = aq := ⟨_, rfl⟩
          obtain ⟨bq, hbq⟩ : ∃ bq, decide (k ∈ LB) = bq := ⟨_, rfl⟩
          have hdq := HAd.out k
          rw [haq, hbq] at hdq
          rw [HRe.out, hcq]
          have HC1 := hide (has_nat LC k cq hcq xi _ _ _ lenC ((SCk.out.below Hki.out)))
          have HC2 := hide (has_nat LD k _ hdq xi _ _ _ lenD ((SDk.out.below Hki.out)))
          have HC3 := hide (has_nat LA k aq haq xi _ _ _ lenA ((SAk.out.below Hki.out)))
          have HC4 := hide (has_nat LB k bq hbq xi _ _ _ lenB ((SBk.out.below Hki.out)))
          have hcc : (cq != cq) = false := by simp
          clear hcq haq hbq hdq
          have B6 := hide (bgo Hk8.out Hki.out)
          go_wp2_with fail
          with_reducible refine HC1.out.mono ?_
          rintro e w9 ⟨rfl, rfl⟩
          go_wp2_with fail
          with_reducible refine HC2.out.mono ?_
          rintro e w9 ⟨rfl, rfl⟩
          go_wp2_with fail
          with_reducible refine HC3.out.mono ?_
          rintro e w9 ⟨rfl, rfl⟩
          cases aq with
          | true =>
            have h1 : ((true || bq) != true) = false := by simp
            go_wp2
            go_roundw
            case rel => exact ⟨k + 1, by omega, by go_num, B6.out⟩
            case measure => simp [intOf]; omega
          | false =>
            go_wp2_with fail
            with_reducible refine HC4.out.mono ?_
            rintro e w9 ⟨rfl, rfl⟩
            have h1 : ((false || bq) != bq) = false := by simp
            have h2 : (bq != bq) = false := by simp
            go_wp2
            go_roundw
            case rel => exact ⟨k + 1, by omega, by go_num, B6.out⟩
            case measure => simp [intOf]; omega
    · have hks' : ¬ (k : Int) ≤ (s.size : Int) := by omega
      go_wp2
      go_ret
      exact ⟨rfl, Bk.out⟩
end Go.Proofs.YtkghbhcjgogaeaaDoor
