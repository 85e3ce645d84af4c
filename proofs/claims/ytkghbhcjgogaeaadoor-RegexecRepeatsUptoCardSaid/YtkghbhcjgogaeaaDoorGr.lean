/- Layer 9: R1, R2, R3. -/
import Derived.Test.YtkghbhcjgogaeaaDoorGs
import Derived.Test.YtkghbhcjgogaeaaDoorGg
/-! ### R1 -/
namespace Go.Proofs.YtkghbhcjgogaeaaDoor
open Go.RowKit
open Go.ChangeShapes (block_add)

/-- True up to i. -/
def upC (N i : Nat) : List Bool := (List.range (N + 1)).map fun q => decide (q < i)
theorem upC_len (N i : Nat) : (upC N i).length = N + 1 := by simp [upC]
theorem upC_zero (N : Nat) : upC N 0 = noneC N := by
  refine List.ext_getElem (by rw [upC_len, noneC_len]) fun j h1 h2 => ?_
  simp [upC, noneC]
theorem upC_all (N : Nat) : upC N (N + 1) = allC N := by
  refine List.ext_getElem (by rw [upC_len, all_len]) fun j h1 h2 => ?_
  rw [upC_len] at h1
  simp [upC, allC]
  omega
theorem upC_next (N i : Nat) : (upC N i).set i true = upC N (i + 1) := by
  refine List.ext_getElem (by rw [List.length_set, upC_len, upC_len]) fun j h1 h2 => ?_
  rw [List.getElem_set]
  simp only [upC, List.getElem_map, List.getElem_range]
  by_cases e : i = j
  · subst e; simp
  · rw [if_neg e]
    rw [Bool.eq_iff_iff, decide_eq_true_eq, decide_eq_true_eq]
    omega
set_option maxRecDepth 100000 in
set_option maxHeartbeats 4000000 in
theorem rmatch17 (s : ByteArray) (hs : s.size ≤ 60) (r : Rx) (h1 : sizeR r ≤ 1000000) (h2 : depthR r ≤ 1000000) (W : World) (ok : Nat → Prop) (v : Value) (hv : RxV W ok v r) :
    Calls Tryd.prog 17 #[v, .string s] W fun e w' => e = .returned (.bool (matchA r s.data.toList)) ∧ Below W.heap.size W w' := by
  have hlen := strlen s
  have hv0 := hv
  cases hv with
  | mk k a b A B n c m d set vs l hset hvs hl hk ha hb hr =>
  have hB := bnew (Below.refl _ W) (.cells #[.int .i64 k, .slice A n c, .int .i64 a, .int .i64 b, .slice B m d] 25)
  have F := hide (five_new W (.int .i64 k) (.slice A n c) (.int .i64 a) (.int .i64 b) (.slice B m d) 25)
  have V := hide (hv0.kept hB)
  have BB := hide hB
  obtain ⟨_, t0, t1, t2, t3, t4⟩ := F.out
  obtain ⟨r, hr'⟩ : ∃ r, Rx.mk k set a b l = r := ⟨_, rfl⟩
  rw [hr'] at V h1 h2 ⊢
  clear hset hvs hl hk ha hb hr hB hv0 hr'
  have HR := hide (rright24 V.out h1 h2)
  obtain ⟨q, hq⟩ : ∃ q, rightR r = q := ⟨_, rfl⟩
  rw [hq] at HR
  by_cases c3 : q = 0
  · have hne : (q != 0) = false := int_eq c3
    subst c3
    obtain ⟨hn, hsz⟩ := right_node hq
    have he : matchA r s.data.toList = someC (stepC r s.data.toList (allC s.size)) := by unfold matchA; rw [hq, hlen, some_mask]; rfl
    rw [he]
    have HM := hide (show ∀ (W : World) (ok : Nat → Prop) (v : Value) (A : Option Addr) (n c : Nat) (f : List Bool), RxV W ok v r → f.length = s.size + 1 → Sl W A n c (boolC f) → Calls Tryd.prog 33 #[v, .string s, .slice A n c] W (RetS W (stepC r s.data.toList f)) from refstep s hs r hn)
    have HN := hide (fun w => none32 s hs w)
    clear he hq
    go_enter Tryd.func17, Tryd.ntmps17
    go_wp2_with fail
    with_reducible refine HR.out.mono ?_
    rintro e w2 ⟨rfl, hb2⟩
    have B2 := hide (bgo BB.out hb2)
    have B02 := hide hb2
    clear t0 t1 t2 t3 t4 hb2
    go_wp2_with fail
    with_reducible refine (HN.out _).mono ?_
    rintro e w3 ⟨v3, rfl, ho3, hb3⟩
    have ho3' : w3.ownsRow w2.heap.size 4 1 v3 (s.size + 1) (boolC (upC s.size 0)) := by
      have := ho3
      unfold Own at this
      rw [upC_zero]
      rwa [boolC_len, noneC_len] at this
    obtain ⟨g, cap, rfl, hgB, hgl⟩ := World.ownsRow.form ho3' (by omega)
    have O3 := hide ho3'
    have B3 := hide hb3
    clear ho3 ho3' hb3
    go_wp2
    go_loopw [6] (fun y wr => ∃ i : Nat, i ≤ s.size + 1 ∧ y = .int .i64 (i : Int) ∧ wr.ownsRow w2.heap.size 4 1 (.slice (some ⟨g, 0, none⟩) (s.size + 1) cap) (s.size + 1) (boolC (upC s.size i)) ∧ Below w2.heap.size w2 wr) (fun y _ => s.size + 1 - (intOf y).toNat)
    case atStart => exact ⟨0, Nat.zero_le _, rfl, O3.out, B3.out⟩
    case round =>
      obtain ⟨i, hi, rfl, hown, hbel⟩ := hrel
      obtain ⟨w, hw⟩ : ∃ w, w = wr := ⟨wr, rfl⟩
      subst hw
      have O := hide hown
      have Bw := hide hbel
      by_cases hlt : i < s.size + 1
      · have hd : decide ((i : Int) < ((s.size + 1 : Nat) : Int)) = true := decide_eq_true (by omega)
        have hd2 : decide (i < s.size + 1) = true := decide_eq_true hlt
        obtain ⟨u9, hu9⟩ : ∃ u, (boolC (upC s.size i))[i]? = some u := ⟨_, List.getElem?_eq_getElem (by rw [boolC_len, upC_len]; omega)⟩
        have cg := row_at hown hu9
        have fg := row_free hown i
        clear hown hbel hu9
        go_wp2
        go_roundw
        case rel =>
          refine ⟨i + 1, by omega, by go_num, ?_, Bw.out.setCell hgB _⟩
          rw [← upC_next, ← boolC_set]
          exact own1_set O.out i _
        case measure => simp [intOf]; omega
      · obtain rfl : i = s.size + 1 := by omega
        have hb04 := bgo B02.out hbel
        rw [upC_all] at hown
        obtain ⟨A4, c4, e4, hs4⟩ := Own.sl (show Own w w2.heap.size 4 (.slice (some ⟨g, 0, none⟩) (s.size + 1) cap) (boolC (allC s.size)) by
          unfold Own
          rw [boolC_len, all_len]
          exact hown)
        rw [boolC_len, all_len] at e4 hs4
        simp only [Value.slice.injEq] at e4
        obtain ⟨rfl, -, rfl⟩ := e4
        have HC := hide (HM.out w ok _ _ _ _ _ (V.out.kept hb04) (all_len s.size) hs4)
        obtain ⟨_, t0, t1, t2, t3, t4⟩ := F.out.keep hb04
        have B4 := hide (bgo B2.out hbel)
        clear hown hbel hb04 hs4 O
        go_wp2_with fail
        with_reducible refine HC.out.mono ?_
        rintro e w5 ⟨A5, n5, c5, rfl, hs5, hb5⟩
        have hL5 : (stepC r s.data.toList (allC s.size)).length = s.size + 1 := by rw [stepC_len r _ _ (by rw [hlen]; exact all_len _), hlen]
        obtain rfl : n5 = s.size + 1 := by rw [← hs5.blen, hL5]
        obtain ⟨f5, hf5⟩ : ∃ f5, stepC r s.data.toList (allC s.size) = f5 := ⟨_, rfl⟩
        rw [hf5] at hs5 hL5
        have Hf5 := hide hf5
        have S5 := hide hs5
        have B5 := hide (bgo B4.out hb5)
        clear hs5 hb5 hf5 t0 t1 t2 t3 t4
        go_wp2_with fail
        with_reducible refine (HN.out _).mono ?_
        rintro e w6 hgr6
        obtain ⟨A6, n6, c6, rfl, hn6, hs6, hb6⟩ := hgr6.sl
        rw [noneC_len] at hn6
        subst hn6
        have HF := hide (fresh38 f5 (noneC s.size) A5 A6 (s.size + 1) c5 c6 (by omega) w6 (S5.out.below hb6) hs6)
        have B6 := hide (bgo B5.out hb6)
        clear hgr6 hs6 hb6
        go_wp2_with fail
        with_reducible refine HF.out.mono ?_
        rintro e w7 ⟨v7, rfl, ho7, hb7⟩
        rw [fresh_of_none hL5]
        have B7 := hide (bgo B6.out hb7)
        clear ho7 hb7
        go_wp2
        go_ret
        exact ⟨congrArg (fun l => Ending.returned (Value.bool (someC l))) Hf5.out.symm, B7.out⟩
  · have hne : (q != 0) = true := int_ne c3
    have he : matchA r s.data.toList = false := by unfold matchA; rw [hq, decide_eq_false c3]; rfl
    rw [he]
    clear he hq
    go_enter Tryd.func17, Tryd.ntmps17
    go_wp2_with fail
    with_reducible refine HR.out.mono ?_
    rintro e w2 ⟨rfl, hb2⟩
    have B2 := hide (bgo BB.out hb2)
    clear hb2
    go_wp2
    go_ret
    exact ⟨rfl, B2.out⟩
end Go.Proofs.YtkghbhcjgogaeaaDoor
/-! ### R2 -/
namespace Go.Proofs.YtkghbhcjgogaeaaDoor
open Go.RowKit
open Go.ChangeShapes (block_add)

theorem findP_at (r : Rx) (s : List UInt8) (from_ : Int) (i : Nat) (hi : i ≤ s.length) (hfi : from_.toNat ≤ i) (hno : ∀ q, from_.toNat ≤ q → q < i → endsA r s (q : Int) = []) (b : Nat) (hb : (endsA r s (i : Int)).getLast? = some b) : findP r s from_ = some (i, b) := by
  have h0 : rightR r = 0 := by
    by_cases h : rightR r = 0
    · exact h
    · unfold endsA at hb
      rw [if_pos (Or.inr (Or.inr h))] at hb
      cases hb
  have e : ∀ q : Nat, q ≤ s.length → endsA r s (q : Int) = endsC r s q := fun q hq => by
    unfold endsA
    rw [if_neg (by omega)]
    rfl
  unfold findP
  rw [if_pos ⟨h0, by omega⟩]
  exact findN_at r s _ _ i hfi (by omega) (fun q h1 h2 => by rw [← e q (by omega)]; exact hno q h1 h2) b (by rw [← e i hi]; exact hb)
theorem findP_no (r : Rx) (s : List UInt8) (from_ : Int) (hno : ∀ q, from_.toNat ≤ q → q ≤ s.length → endsA r s (q : Int) = []) : findP r s from_ = none := by
  unfold findP
  split
  · rename_i h
    refine findN_no r s _ _ fun q h1 h2 => ?_
    have hq : q ≤ s.length := by omega
    have := hno q h1 hq
    unfold endsA at this
    rw [if_neg (by omega)] at this
    exact this
  · rfl
theorem endsA_len2 (r : Rx) (s : List UInt8) (at_ : Int) : (endsA r s at_).length ≤ s.length + 1 := by
  unfold endsA
  split
  · simp
  · unfold endsC offsC
    refine Nat.le_trans (List.length_filter_le _ _) ?_
    rw [List.length_range, stepC_len r s _ (by simp [noneC_len])]
    omega
set_option maxRecDepth 100000 in
set_option maxHeartbeats 4000000 in
theorem rfind15 (s : ByteArray) (hs : s.size ≤ 60) (r : Rx) (h1 : sizeR r ≤ 1000000) (h2 : depthR r ≤ 1000000) (from_ : Int) (hf64 : -9223372036854775808 ≤ from_ ∧ from_ ≤ 9223372036854775807) (W : World) (ok : Nat → Prop) (v : Value) (hv : RxV W ok v r) :
    Calls Tryd.prog 15 #[v, .string s, .int .i64 from_] W fun e w' => e = .returned (findV (findP r s.data.toList from_)) ∧ Below W.heap.size W w' := by
  have hlen := strlen s
  have hv0 := hv
  cases hv with
  | mk k a b A B n c m d set vs l hset hvs hl hk ha hb hr =>
  have hB := bnew (bnew (Below.refl _ W) (.cells #[.int .i64 k, .slice A n c, .int .i64 a, .int .i64 b, .slice B m d] 25)) (.cells #[.int .i64 0, .int .i64 0] 32)
  obtain ⟨W1, hW1⟩ : ∃ W1, (W.alloc (.cells #[.int .i64 k, .slice A n c, .int .i64 a, .int .i64 b, .slice B m d] 25)).alloc (.cells #[.int .i64 0, .int .i64 0] 32) = W1 := ⟨_, rfl⟩
  have f1 : Five W1 W.heap.size (.int .i64 k) (.slice A n c) (.int .i64 a) (.int .i64 b) (.slice B m d) := by rw [← hW1]; exact (five_new W _ _ _ _ _ 25).keep (bnew (Below.refl _ _) _)
  have q1 : W1.heap[W.heap.size + 1]? = some (.cells #[.int .i64 0, .int .i64 0] 32 (0, 0)) := by
    rw [← hW1]
    have := heap_alloc_new (W.alloc (.cells #[.int .i64 k, .slice A n c, .int .i64 a, .int .i64 b, .slice B m d] 25)) (.cells #[.int .i64 0, .int .i64 0] 32)
    rw [World.size_alloc] at this
    exact this
  rw [hW1] at hB
  obtain ⟨r, hr'⟩ : ∃ r, Rx.mk k set a b l = r := ⟨_, rfl⟩
  rw [hr'] at hv0 h1 h2 ⊢
  have V1 := hide (hv0.kept hB)
  have B1 := hide hB
  have HE := hide (fun (i : Nat) (w : World) (hb : Below W1.heap.size W1 w) => rends13 s hs r h1 h2 (i : Int) w ok _ ((hv0.kept hB).kept hb))
  have HW1 := hide hW1
  have F1 := hide f1
  have Q1 := hide q1
  obtain ⟨i0, hi0⟩ : ∃ i0 : Nat, from_.toNat = i0 := ⟨_, rfl⟩
  clear hset hvs hl hk ha hb hr hB hv0 hr' hW1 q1 f1
  go_enter Tryd.func15, Tryd.ntmps15
  go_wp2
  rw [show max from_ 0 = ((i0 : Nat) : Int) by omega, HW1.out]
  go_loopw [8] (fun y wr => ∃ i : Nat, y = .int .i64 (i : Int) ∧ i0 ≤ i ∧ (i ≤ s.size + 1 ∨ i = i0) ∧ (∀ q, i0 ≤ q → q < i → endsA r s.data.toList (q : Int) = []) ∧ Below W1.heap.size W1 wr) (fun y _ => s.size + 1 - (intOf y).toNat)
  case atStart => exact ⟨i0, rfl, Nat.le_refl _, Or.inr rfl, fun q h1 h2 => (by omega), Below.refl _ _⟩
  case round =>
    obtain ⟨i, rfl, hii, hib, hno, hbel⟩ := hrel
    obtain ⟨w, hw⟩ : ∃ w, w = wr := ⟨wr, rfl⟩
    subst hw
    have Bw := hide hbel
    have Hno := hide hno
    have hi64 : (i : Int) ≤ 9223372036854775807 := by omega
    obtain ⟨_, t0, t1, t2, t3, t4⟩ := F1.out.keep hbel
    by_cases hlt : i ≤ s.size
    · have hd : decide ((i : Int) ≤ (s.size : Int)) = true := decide_eq_true (by omega)
      have hd2 : decide (i ≤ s.size) = true := decide_eq_true hlt
      have HC := hide (HE.out i w hbel)
      clear hno hbel
      go_wp2_with fail
      with_reducible refine HC.out.mono ?_
      rintro e w4 hgr
      obtain ⟨A4, n4, c4, rfl, hn4, hs4, hb4⟩ := hgr.sl
      have hel := endsA_len2 r s.data.toList (i : Int)
      rw [natI_len] at hn4
      rw [hlen] at hel
      have S4 := hide hs4
      have hb14 := bgo Bw.out hb4
      have B4 := hide hb14
      have Q4 := hide ((hb14.block _ (lt_of_block Q1.out)).trans Q1.out)
      obtain ⟨z0, z1, g0, g1⟩ := two_cell Q4.out
      clear hgr hs4 hb4 hb14 t0 t1 t2 t3 t4
      by_cases hz : n4 = 0
      · subst hz
        have he : endsA r s.data.toList (i : Int) = [] := List.eq_nil_of_length_eq_zero hn4.symm
        have He := hide he
        clear he hn4
        go_wp2
        go_roundw
        case rel =>
          refine ⟨i + 1, by go_num, by omega, Or.inl (by omega), fun q h3 h4 => ?_, B4.out⟩
          rcases Nat.lt_or_ge q i with h | h
          · exact Hno.out q h3 h
          · obtain rfl : q = i := by omega
            exact He.out
        case measure => simp [intOf]; omega
      · obtain ⟨j, rfl⟩ : ∃ j, n4 = j + 1 := ⟨n4 - 1, by omega⟩
        have hpos : decide ((0 : Int) < ((j + 1 : Nat) : Int)) = true := decide_eq_true (by omega)
        obtain ⟨ad, z, rfl, hzz, hcz⟩ := num_cell S4.out.reads (show j < j + 1 by omega)
        obtain ⟨bb, hbb⟩ : ∃ bb, (endsA r s.data.toList (i : Int))[j]? = some bb := ⟨_, List.getElem?_eq_getElem (by omega)⟩
        have hzb : z = (bb : Int) := by
          have := natI_at hbb
          rw [hzz] at this
          exact Option.some.inj this
        subst hzb
        have hlast : (endsA r s.data.toList (i : Int)).getLast? = some bb := by rw [List.getLast?_eq_getElem?, ← hn4]; exact hbb
        have Hres := hide (findP_at r s.data.toList from_ i (by rw [hlen]; exact hlt) (by omega) (by rw [hi0]; exact Hno.out) bb hlast)
        have hjb : j ≤ 60 := by omega
        have hw64 : IntKind.i64.wrap (j : Int) = (j : Int) := IntWalk.i64_in _ (by omega)
        have hjb2 : (j : Int) ≤ 60 := by omega
        have hjb3 : (0 : Int) ≤ (j : Int) := by omega
        clear hlast hbb hzz hn4
        go_wp2
        refine bodyPost_ret (res_pair rfl _ _ (W.heap.size + 1) _ _ _ rfl rfl (two_set (two_set0 Q4.out))) rfl ⟨?_, ?_⟩
        · rw [Hres.out]; rfl
        · exact ((bgo B1.out B4.out).setCell (by show W.heap.size ≤ W.heap.size + 1; omega) _).setCell (by show W.heap.size ≤ W.heap.size + 1; omega) _
    · have hd : decide ((i : Int) ≤ (s.size : Int)) = false := decide_eq_false (by omega)
      have hd2 : decide (i ≤ s.size) = false := decide_eq_false hlt
      have Hres := hide (findP_no r s.data.toList from_ (fun q h3 h4 => by rw [hlen] at h4; exact hno q (by omega) (by omega)))
      have Q4 := hide ((hbel.block _ (lt_of_block Q1.out)).trans Q1.out)
      obtain ⟨z0, z1, g0, g1⟩ := two_cell Q4.out
      clear hno hbel t0 t1 t2 t3 t4
      go_wp2
      refine bodyPost_ret (res_pair rfl _ _ (W.heap.size + 1) _ _ _ rfl rfl (two_set (two_set0 Q4.out))) rfl ⟨?_, ?_⟩
      · rw [Hres.out]; rfl
      · exact ((bgo B1.out Bw.out).setCell (by show W.heap.size ≤ W.heap.size + 1; omega) _).setCell (by show W.heap.size ≤ W.heap.size + 1; omega) _
end Go.Proofs.YtkghbhcjgogaeaaDoor
/-! ### R3 -/
namespace Go.Proofs.YtkghbhcjgogaeaaDoor
open Go.RowKit
open Go.ChangeShapes (block_add)

theorem last_mem {l : List Nat} {N : Nat} (hs : l.Pairwise (· < ·)) (hle : ∀ x ∈ l, x ≤ N) : N ∈ l ↔ l.getLast? = some N := by
  constructor
  · intro h
    obtain ⟨j, hj⟩ := List.getElem?_of_mem h
    obtain ⟨hj1, hj2⟩ := List.getElem?_eq_some_iff.1 hj
    rw [List.getLast?_eq_getElem?]
    have hjl : j = l.length - 1 := by
      rcases Nat.lt_or_ge j (l.length - 1) with h | h
      · exfalso
        have h1 := List.pairwise_iff_getElem.1 hs j (l.length - 1) hj1 (by omega) h
        have h2 := hle _ (List.getElem_mem (show l.length - 1 < l.length by omega))
        omega
      · omega
    rw [← hjl]
    exact hj
  · intro h
    exact List.mem_of_getLast? h
theorem endsA_sorted (r : Rx) (s : List UInt8) (at_ : Int) : (endsA r s at_).Pairwise (· < ·) := by
  unfold endsA
  split
  · exact List.Pairwise.nil
  · unfold endsC offsC
    exact List.Pairwise.filter _ List.pairwise_lt_range
theorem endsA_le (r : Rx) (s : List UInt8) (at_ : Int) : ∀ x ∈ endsA r s at_, x ≤ s.length := by
  intro x hx
  unfold endsA at hx
  split at hx
  · cases hx
  · unfold endsC at hx
    have := on_lt ((offsC_mem _ x).1 hx)
    rw [stepC_len r s _ (by simp [noneC_len])] at this
    omega
theorem whole_last (r : Rx) (s : List UInt8) : wholeA r s = decide ((endsA r s 0).getLast? = some s.length) := by
  unfold wholeA
  rw [Bool.eq_iff_iff, decide_eq_true_eq, decide_eq_true_eq, ← last_mem (endsA_sorted r s 0) (endsA_le r s 0)]
  unfold natI
  rw [List.mem_map]
  constructor
  · rintro ⟨x, hx, h⟩
    have : x = s.length := by exact Int.ofNat.inj h
    rwa [← this]
  · exact fun h => ⟨_, h, rfl⟩
set_option maxRecDepth 100000 in
set_option maxHeartbeats 2000000 in
theorem rwhole19 (s : ByteArray) (hs : s.size ≤ 60) (r : Rx) (h1 : sizeR r ≤ 1000000) (h2 : depthR r ≤ 1000000) (W : World) (ok : Nat → Prop) (v : Value) (hv : RxV W ok v r) :
    Calls Tryd.prog 19 #[v, .string s] W fun e w' => e = .returned (.bool (wholeA r s.data.toList)) ∧ Below W.heap.size W w' := by
  have hlen := strlen s
  have hv0 := hv
  cases hv with
  | mk k a b A B n c m d set vs l hset hvs hl hk ha hb hr =>
  have hB := bnew (Below.refl _ W) (.cells #[.int .i64 k, .slice A n c, .int .i64 a, .int .i64 b, .slice B m d] 25)
  have F := hide (five_new W (.int .i64 k) (.slice A n c) (.int .i64 a) (.int .i64 b) (.slice B m d) 25)
  have BB := hide hB
  obtain ⟨_, t0, t1, t2, t3, t4⟩ := F.out
  obtain ⟨r, hr'⟩ : ∃ r, Rx.mk k set a b l = r := ⟨_, rfl⟩
  rw [hr'] at hv0 h1 h2 ⊢
  have HE := hide (rends13 s hs r h1 h2 0 _ ok _ (hv0.kept hB))
  have hel := endsA_len r s.data.toList 0
  obtain ⟨q, hq⟩ : ∃ q, wholeA r s.data.toList = q := ⟨_, rfl⟩
  rw [hq]
  have Hq := hide (show decide ((endsA r s.data.toList 0).getLast? = some s.size) = q by rw [← hq, whole_last, hlen])
  clear hset hvs hl hk ha hb hr hB hv0 hr' hq
  go_enter Tryd.func19, Tryd.ntmps19
  go_wp2_with fail
  with_reducible refine HE.out.mono ?_
  rintro e w2 hgr
  obtain ⟨A2, n2, c2, rfl, hn2, hs2, hb2⟩ := hgr.sl
  rw [natI_len] at hn2
  have S2 := hide hs2
  have B2 := hide (bgo BB.out hb2)
  clear hgr hs2 hb2 t0 t1 t2 t3 t4
  by_cases hz : n2 = 0
  · subst hz
    have he : endsA r s.data.toList 0 = [] := List.eq_nil_of_length_eq_zero hn2.symm
    have hqf : q = false := by rw [← Hq.out, he]; rfl
    subst hqf
    clear he hn2
    go_wp2
    go_ret
    exact ⟨rfl, B2.out⟩
  · obtain ⟨j, rfl⟩ : ∃ j, n2 = j + 1 := ⟨n2 - 1, by omega⟩
    have hpos : decide ((0 : Int) < ((j + 1 : Nat) : Int)) = true := decide_eq_true (by omega)
    obtain ⟨ad, z, rfl, hzz, hcz⟩ := num_cell S2.out.reads (show j < j + 1 by omega)
    obtain ⟨bb, hbb⟩ : ∃ bb, (endsA r s.data.toList 0)[j]? = some bb := ⟨_, List.getElem?_eq_getElem (by omega)⟩
    have hzb : z = (bb : Int) := by
      have := natI_at hbb
      rw [hzz] at this
      exact Option.some.inj this
    subst hzb
    have hlast : (endsA r s.data.toList 0).getLast? = some bb := by rw [List.getLast?_eq_getElem?, ← hn2]; exact hbb
    have Hres := hide (show ((bb : Int) == (s.size : Int)) = q by
      rw [← Hq.out, hlast, Bool.eq_iff_iff, decide_eq_true_eq, beq_iff_eq]
      constructor
      · intro h; exact congrArg some (by omega)
      · intro h; have := Option.some.inj h; omega)
    have hjb : j ≤ 60 := by omega
    have hjb2 : (j : Int) ≤ 60 := by omega
    have hw64 : IntKind.i64.wrap (j : Int) = (j : Int) := IntWalk.i64_in _ (by omega)
    clear hlast hbb hzz hn2
    go_wp2
    go_ret
    exact ⟨ret_bool Hres.out, B2.out⟩
end Go.Proofs.YtkghbhcjgogaeaaDoor
