/- Layer 9: D1, D2, D3. -/
import Derived.Test.YtkghbhcjgogaeaaDoorGe
/-! ### D1 -/
namespace Go.Proofs.YtkghbhcjgogaeaaDoor
open Go.RowKit
open Go.ChangeShapes (block_add)

theorem info3 : (Tryd.prog.info? 3).map (fun i => (i.zero, i.size, i.bytes)) = some (some (.int .i64 0), 1, 8) := by kernel_rfl
def natI (l : List Nat) : List Int := l.map Int.ofNat
theorem natI_len (l : List Nat) : (natI l).length = l.length := by simp [natI]
attribute [local go_sem] Oper.semAt_some
set_option maxRecDepth 100000 in
set_option maxHeartbeats 4000000 in
theorem append45 (s : Value) (m : Nat) (hm : m < 2305843009213693952) (W : World) (hs : SetV W s m) (hT : HasT W) : Calls Tryd.prog 45 #[.slice none 0 0, .func (.func 31) #[.agg #[s]] #[]] W (GrewI W (natI (bitsL m))) := by
  obtain ⟨i0, hi, hz0, hz1, hz2⟩ := info_parts info3
  obtain ⟨H, hH⟩ : ∃ H, W.heap.size = H := ⟨_, rfl⟩
  have hT0 := hT.pos
  rw [hH] at hT0
  have hlen : (bitsL m).length ≤ 64 := by unfold bitsL; exact Nat.le_trans (List.length_filter_le _ _) (by simp)
  have Hs := hide hs
  have HT := hide hT
  have HH := hide hH
  clear hs hT
  refine (callsIn_wide (n := 8)).1 ?_
  refine callsIn_of_wp_marks Tryd.func45 rfl trivial ?_ rfl
  simp only [Tryd.ntmps45, List.size_toArray, List.length_cons, List.length_nil, Nat.reduceAdd, Nat.reduceSub, Array.replicate_succ, Array.replicate_zero, List.push_toArray, List.append_toArray, List.nil_append, List.cons_append]
  gi_wp2
  obtain ⟨W0, hW0⟩ : ∃ W0, W.alloc (.cells #[.slice none 0 0] 28) = W0 := ⟨_, rfl⟩
  have h3 : W0.heap.size = H + 1 := by rw [← hW0, ← hH]; simp
  have b3 : Below W.heap.size W W0 := by rw [← hW0]; exact bnew (Below.refl _ _) _
  have k1 : W0.heap[H]? = some (.cells #[.slice none 0 0] 28 (0, 0)) := by rw [← hW0, ← hH]; exact heap_alloc_new W _
  rw [hW0]
  clear hW0 hH
  refine range_all (gf := 31) (first := #[.agg #[s]]) (caps := #[]) rfl (enters_of Tryd.func31 (by kernel_rfl) rfl) (each31 s m hm W0 (Hs.out.below b3) (HT.out.below b3)) (fun _ => rfl)
    (fun A B C h k => k.trans h) (fun W l o h1 => World.putObj_heap_other (by omega))
    (fun k Wx => ∃ v, Wx.heap[H]? = some (.cells #[v] 28 (0, 0)) ∧ Own Wx (H + 5) 3 v (numCells (natI ((bitsL m).take k))) ∧ Below H W Wx)
    (fun k A B ⟨v, h1, h2, h4⟩ hb => ⟨v, (hb.block _ (lt_of_block h1)).trans h1, h2.below hb, h4.trans (hb.mono (by have := lt_of_block h1; omega))⟩)
    (fun k A o ⟨v, h1, h2, h4⟩ => ⟨v, (World.putObj_heap_other (by omega)).trans h1, own_put h2 _ _ (fun e => by have := (World.ownsRow.lt h2 _ e).1; omega), below_put h4 _ _ (by omega)⟩)
    ⟨_, k1, by rw [List.take_zero]; exact World.ownsRow_nil _ _ _ _, by rw [← HH.out]; exact b3⟩
    (fun x => { tmps := #[.slice none 0 0, .func (.func 31) #[.agg #[s]] #[], .pointer (some ⟨H, 0, none⟩), undef, .slice none 0 0, .int .i64 (x : Int), .func (.func 31) #[.agg #[s]] #[], .int .i64 (x : Int), undef, undef, undef, undef, undef], defers := [] })
    ?assign ?body ?done
  case assign =>
    intro l x W K hK
    gi_wp2
    exact hK
  case body =>
    rintro l k x Wx hx ⟨v, h1, h2, h4⟩ hsz
    have hk : k < 64 := by have := (List.getElem?_eq_some_iff.1 hx).1; omega
    have hkl : (numCells (natI ((bitsL m).take k))).length = k := by rw [num_len, natI_len, List.length_take]; have := (List.getElem?_eq_some_iff.1 hx).1; omega
    have hown : (Wx.alloc (.cells #[.int .i64 (x : Int)] 3)).ownsRow (H + 5) 3 1 v k (numCells (natI ((bitsL m).take k))) := by
      have := h2.alloc (.cells #[.int .i64 (x : Int)] 3)
      unfold Own at this
      rwa [hkl] at this
    have hx2 : numCells (natI ((bitsL m).take k)) ++ [.int .i64 (x : Int)] = numCells (natI ((bitsL m).take (k + 1))) := by
      rw [take_next hx]
      simp [natI, numCells]
    have hfar : ∀ g, v.ownBlock = some g → H + 5 ≤ g := fun g hg => (World.ownsRow.lt h2 g hg).1
    have hb0 := bnew (Below.refl _ Wx) (.cells #[.int .i64 (x : Int)] 3)
    have c0 := cell_of_one h1
    have hH := lt_of_block h1
    have H1 := hide h1
    have B4 := hide h4
    have B0 := hide hb0
    have Hx2 := hide hx2
    clear h1 h4 hb0 hx hx2
    gi_wp2_with (gi_at_builtin; refine wpListIn_append_own _ rfl (.tmp 8) (.tmp 10) 28 rfl (H + 5) 3 i0 _ 1 8 Tryd.underlying28 hi hz0 hz1 hz2 rfl (by decide) v k _ rfl hown ⟨Wx.heap.size, 0, none⟩ 1 1 [.int .i64 (x : Int)] rfl rfl (c1_one _ _ _) (by intro u hu; simp at hu; subst hu; rfl) (by unfold maxLen; omega) (by omega) (by simp; omega) ?_)
    intro v' w' hown' hg _
    obtain ⟨gv, capv, rfl, -, -⟩ := World.ownsRow.form hown' (by omega)
    have hd : Turns (fun q => v.ownBlock = some q) Wx w' := (Turns.of_below B0.out).grown hg fun q hq => hq
    have q1 := (hd.block H hH (fun h => by have := hfar _ h; omega)).trans H1.out
    have c1 := cell_of_one q1
    have f1 := free_of_one q1
    have O' := hide hown'
    have D := hide hd
    have Q1 := hide q1
    clear hown hown' hg hd q1
    gi_wp2
    have hset : ∀ q, q ≠ H → (w'.setCell ⟨H, 0, none⟩ (.slice (some ⟨gv, 0, none⟩) (k + 1) capv)).heap[q]? = w'.heap[q]? := fun q hq => Below.heap_setCell w' ⟨H, 0, none⟩ _ q (by show q ≠ H; exact hq)
    have hbw : Below (H + 1) Wx w' := D.out.below (by omega) fun q h => by have := hfar q h; omega
    refine ⟨⟨by simpa [World.setCell] using D.out.size, fun q h5 h6 => ?_, ?_⟩, _, one_setCell Q1.out, ?_, (B4.out.trans (hbw.mono (by omega))).setCell (Nat.le_refl _) _⟩
    · exact (hset q (by omega)).trans (D.out.block q (by omega) fun h => by have := hfar _ h; omega)
    · exact (hset 0 (by omega)).trans (D.out.block 0 (by omega) fun h => by have := hfar _ h; omega)
    · rw [← Hx2.out]
      unfold Own
      rw [List.length_append, hkl]
      exact ownsRow_setCell_other O'.out (own_far O'.out Q1.out (by decide)) _
  case done =>
    rintro Wx ⟨v, h1, h2, h4⟩ hD
    rw [List.take_of_length_le (Nat.le_refl _)] at h2
    have c1 := cell_of_one h1
    have O := hide h2
    have B := hide h4
    have D := hide hD
    clear h2 h4 hD h1
    gi_wp2
    refine ⟨by simp, .inl ⟨_, _, rfl, run_takeDeferred D.out, ?_⟩⟩
    have hb := below_put B.out W0.heap.size (.deferred none) (by omega)
    refine ⟨v, results_tmp (t := 4) rfl _ _ _, v, rfl, ?_, by rw [HH.out]; exact hb⟩
    rw [HH.out]
    refine owns_mono (own_put O.out _ _ fun e => ?_) (show H ≤ H + 5 by omega)
    have := (World.ownsRow.lt O.out _ e).1
    omega
theorem collect28 (s : Value) (m : Nat) (hm : m < 2305843009213693952) (W : World) (hs : SetV W s m) (hT : HasT W) : Calls Tryd.prog 28 #[.func (.func 31) #[.agg #[s]] #[]] W (GrewI W (natI (bitsL m))) := by
  have HC := hide (append45 s m hm W hs hT)
  clear hs hT
  go_enter Tryd.func28, Tryd.ntmps28
  go_wp2_with fail
  with_reducible refine HC.out.mono ?_
  rintro e w2 ⟨v, rfl, ho, hb⟩
  have O := hide ho
  have B := hide hb
  clear ho hb
  go_wp2
  go_ret
  exact ⟨v, rfl, O.out, B.out⟩
end Go.Proofs.YtkghbhcjgogaeaaDoor
/-! ### D2 -/
namespace Go.Proofs.YtkghbhcjgogaeaaDoor
open Go.RowKit
open Go.ChangeShapes (block_add)

def onlyC (N i : Nat) : List Bool := (noneC N).set i true
theorem only_len (N i : Nat) : (onlyC N i).length = N + 1 := by simp [onlyC, noneC_len]
theorem only_mask {N i : Nat} (h : i ≤ N) : maskC (onlyC N i) = 2 ^ i := by
  unfold onlyC
  rw [mask_set (by rw [noneC_len]; omega), mask_none, Nat.zero_or]
theorem GrewI.nil (W w' : World) (h : Below W.heap.size W w') : GrewI W [] (.returned (.slice none 0 0)) w' := ⟨_, rfl, World.ownsRow_nil _ _ _ _, h⟩
/-- What Ends answers. -/
def endsA (r : Rx) (s : List UInt8) (at_ : Int) : List Nat := if at_ < 0 ∨ (s.length : Int) < at_ ∨ rightR r ≠ 0 then [] else endsC r s at_.toNat
theorem right_node {r : Rx} (h : rightR r = 0) : nodeR r = 0 ∧ sizeR r ≤ 40 := by
  unfold rightR at h
  split at h
  · rename_i h1
    refine ⟨h1, ?_⟩
    split at h
    · omega
    · omega
  · rename_i h1
    exact absurd h h1
set_option maxRecDepth 100000 in
set_option maxHeartbeats 2000000 in
theorem ends12 (s : ByteArray) (hs : s.size ≤ 60) (r : Rx) (h1 : sizeR r ≤ 1000000) (h2 : depthR r ≤ 1000000) (at_ : Int) (W : World) (ok : Nat → Prop) (v : Value) (hv : RxV W ok v r) (hT : HasT W) :
    Calls Tryd.prog 12 #[v, .string s, .int .i64 at_] W (GrewI W (natI (endsA r s.data.toList at_))) := by
  have hlen := strlen s
  have hv0 := hv
  cases hv with
  | mk k a b A B n c m d set vs l hset hvs hl hk ha hb hr =>
  have hB := bnew (Below.refl _ W) (.cells #[.int .i64 k, .slice A n c, .int .i64 a, .int .i64 b, .slice B m d] 25)
  have F := hide (five_new W (.int .i64 k) (.slice A n c) (.int .i64 a) (.int .i64 b) (.slice B m d) 25)
  have V := hide (hv0.kept hB)
  have BB := hide hB
  have HT := hide hT
  obtain ⟨_, t0, t1, t2, t3, t4⟩ := F.out
  obtain ⟨r, hr'⟩ : ∃ r, Rx.mk k set a b l = r := ⟨_, rfl⟩
  rw [hr'] at V h1 h2 ⊢
  clear hset hvs hl hk ha hb hr hB hv0 hT hr'
  by_cases c1 : at_ < 0
  · have he : endsA r s.data.toList at_ = [] := by unfold endsA; rw [if_pos (Or.inl c1)]
    have hd : decide (at_ < 0) = true := decide_eq_true c1
    rw [he]
    clear he
    go_enter Tryd.func12, Tryd.ntmps12
    go_wp2
    go_ret
    exact GrewI.nil W _ BB.out
  · obtain ⟨i, rfl⟩ : ∃ i : Nat, at_ = (i : Int) := ⟨at_.toNat, by omega⟩
    have hd : decide ((i : Int) < 0) = false := decide_eq_false c1
    by_cases c2 : s.size < i
    · have he : endsA r s.data.toList (i : Int) = [] := by unfold endsA; rw [if_pos (Or.inr (Or.inl (by rw [hlen]; omega)))]
      have hd2 : decide ((s.size : Int) < (i : Int)) = true := decide_eq_true (by omega)
      have hd3 : decide (s.size < i) = true := decide_eq_true c2
      rw [he]
      clear he
      go_enter Tryd.func12, Tryd.ntmps12
      go_wp2
      go_ret
      exact GrewI.nil W _ BB.out
    · have hd2 : decide ((s.size : Int) < (i : Int)) = false := decide_eq_false (by omega)
      have hd3 : decide (s.size < i) = false := decide_eq_false c2
      have HR := hide (pright27 V.out h1 h2)
      obtain ⟨q, hq⟩ : ∃ q, rightR r = q := ⟨_, rfl⟩
      rw [hq] at HR
      by_cases c3 : q = 0
      · have hne : (q != 0) = false := int_eq c3
        subst c3
        obtain ⟨hn, hsz⟩ := right_node hq
        have he : endsA r s.data.toList (i : Int) = endsC r s.data.toList i := by unfold endsA; rw [if_neg (by rw [hlen]; omega)]; rfl
        rw [he]
        have HM := hide (step29 s hs r hn (by omega))
        clear he hq
        go_enter Tryd.func12, Tryd.ntmps12
        go_wp2_with fail
        with_reducible refine HR.out.mono ?_
        rintro e w2 ⟨rfl, hb2⟩
        have B2 := hide (bgo BB.out hb2)
        have HC := hide (HM.out w2 ok _ (V.out.kept hb2) ((HT.out.below BB.out).below hb2))
        clear t0 t1 t2 t3 t4
        obtain ⟨_, t0, t1, t2, t3, t4⟩ := F.out.keep hb2
        clear hb2
        go_wp2_with fail
        with_reducible refine HC.out.mono ?_
        rintro e w3 ⟨sv, rfl, hsv, hb3⟩
        have hsok := hsv.ok (Kept.of (Below.refl _ w3))
        obtain ⟨K, caps, rfl, hrun, hcall⟩ := hsok
        have HS := hide (fun W' f v hW hf hv => hcall W' f v hW hf hv)
        have HO := hide (only30 i (by omega) w3)
        have B3 := hide (bgo B2.out hb3)
        have HT3 := hide (HT.out.below (bgo B2.out hb3))
        clear hsv hb3 hcall t0 t1 t2 t3 t4
        go_wp2_with fail
        with_reducible refine HO.out.mono ?_
        rintro e w4 ⟨u4, rfl, ⟨s4, rfl, hs4⟩, hb4⟩
        rw [← only_mask (N := s.data.toList.length) (by rw [hlen]; omega)] at hs4
        have HQ := hide (HS.out w4 _ s4 hb4 (only_len _ i) hs4)
        have B4 := hide (bgo B3.out hb4)
        have HT4 := hide (HT3.out.below hb4)
        clear hs4 hb4
        go_wp2_with fail
        with_reducible refine HQ.out.mono ?_
        rintro e w5 ⟨u5, rfl, ⟨s5, rfl, hs5⟩, hb5⟩
        have hL : (stepC r s.data.toList (onlyC s.data.toList.length i)).length = s.data.toList.length + 1 := stepC_len r _ _ (only_len _ _)
        have hm := mask61 (N := s.data.toList.length) (by rw [hlen]; omega) hL
        have HF := hide (collect28 s5 _ hm w5 hs5 (HT4.out.below hb5))
        have B5 := hide (bgo B4.out hb5)
        clear hs5 hb5
        go_wp2_with fail
        with_reducible refine HF.out.mono ?_
        rintro e w6 ⟨u6, rfl, ho6, hb6⟩
        have O6 := hide ho6
        have B6 := hide (bgo B5.out hb6)
        have Hbits := hide (offs_bits (f := stepC r s.data.toList (onlyC s.data.toList.length i)) (by rw [hL, hlen]; omega))
        clear ho6 hb6 hL hm
        go_wp2
        go_ret
        refine ⟨_, rfl, ?_, B6.out⟩
        have := O6.out
        rw [Hbits.out] at this
        exact owns_mono this B5.out.size
      · have hne : (q != 0) = true := int_ne c3
        have he : endsA r s.data.toList (i : Int) = [] := by unfold endsA; rw [if_pos (Or.inr (Or.inr (by omega)))]
        rw [he]
        clear he hq
        go_enter Tryd.func12, Tryd.ntmps12
        go_wp2_with fail
        with_reducible refine HR.out.mono ?_
        rintro e w2 ⟨rfl, hb2⟩
        have B2 := hide (bgo BB.out hb2)
        clear hb2
        go_wp2
        go_ret
        exact GrewI.nil W _ B2.out
/-- All offsets. -/
def allC (N : Nat) : List Bool := List.replicate (N + 1) true
theorem all_len (N : Nat) : (allC N).length = N + 1 := by simp [allC]
theorem all_on (N j : Nat) : On (allC N) j ↔ j ≤ N := by
  unfold On allC
  by_cases h : j < N + 1
  · simp [List.getD, h]; omega
  · simp [List.getD, h]; omega
theorem all_mask (N : Nat) : maskC (allC N) = 2 ^ (N + 1) - 1 := Nat.eq_of_testBit_eq fun j => by
  rw [Bool.eq_iff_iff, mask_on, all_on, Nat.testBit_two_pow_sub_one, decide_eq_true_eq]
  omega
/-- What Match answers. -/
def matchA (r : Rx) (s : List UInt8) : Bool := decide (rightR r = 0) && decide (maskC (stepC r s (allC s.length)) ≠ 0)
set_option maxRecDepth 100000 in
set_option maxHeartbeats 2000000 in
theorem match16 (s : ByteArray) (hs : s.size ≤ 60) (r : Rx) (h1 : sizeR r ≤ 1000000) (h2 : depthR r ≤ 1000000) (W : World) (ok : Nat → Prop) (v : Value) (hv : RxV W ok v r) (hT : HasT W) :
    Calls Tryd.prog 16 #[v, .string s] W fun e w' => e = .returned (.bool (matchA r s.data.toList)) ∧ Below W.heap.size W w' := by
  have hlen := strlen s
  have hv0 := hv
  cases hv with
  | mk k a b A B n c m d set vs l hset hvs hl hk ha hb hr =>
  have hB := bnew (Below.refl _ W) (.cells #[.int .i64 k, .slice A n c, .int .i64 a, .int .i64 b, .slice B m d] 25)
  have F := hide (five_new W (.int .i64 k) (.slice A n c) (.int .i64 a) (.int .i64 b) (.slice B m d) 25)
  have V := hide (hv0.kept hB)
  have BB := hide hB
  have HT := hide hT
  obtain ⟨_, t0, t1, t2, t3, t4⟩ := F.out
  obtain ⟨r, hr'⟩ : ∃ r, Rx.mk k set a b l = r := ⟨_, rfl⟩
  rw [hr'] at V h1 h2 ⊢
  clear hset hvs hl hk ha hb hr hB hv0 hT hr'
  have HR := hide (pright27 V.out h1 h2)
  obtain ⟨q, hq⟩ : ∃ q, rightR r = q := ⟨_, rfl⟩
  rw [hq] at HR
  by_cases c3 : q = 0
  · have hne : (q != 0) = false := int_eq c3
    subst c3
    obtain ⟨hn, hsz⟩ := right_node hq
    have he : matchA r s.data.toList = decide (maskC (stepC r s.data.toList (allC s.data.toList.length)) ≠ 0) := by unfold matchA; rw [hq]; rfl
    rw [he]
    have HM := hide (step29 s hs r hn (by omega))
    clear he hq
    go_enter Tryd.func16, Tryd.ntmps16
    go_wp2_with fail
    with_reducible refine HR.out.mono ?_
    rintro e w2 ⟨rfl, hb2⟩
    have B2 := hide (bgo BB.out hb2)
    have HC := hide (HM.out w2 ok _ (V.out.kept hb2) ((HT.out.below BB.out).below hb2))
    clear t0 t1 t2 t3 t4
    obtain ⟨_, t0, t1, t2, t3, t4⟩ := F.out.keep hb2
    clear hb2
    go_wp2_with fail
    with_reducible refine HC.out.mono ?_
    rintro e w3 ⟨sv, rfl, hsv, hb3⟩
    have hsok := hsv.ok (Kept.of (Below.refl _ w3))
    obtain ⟨K, caps, rfl, hrun, hcall⟩ := hsok
    have HS := hide (fun W' f v hW hf hv => hcall W' f v hW hf hv)
    have HO := hide (upto36 s.size (by omega) w3)
    have B3 := hide (bgo B2.out hb3)
    clear hsv hb3 hcall t0 t1 t2 t3 t4
    go_wp2_with fail
    with_reducible refine HO.out.mono ?_
    rintro e w4 ⟨u4, rfl, ⟨s4, rfl, hs4⟩, hb4⟩
    rw [← all_mask s.size, ← hlen] at hs4
    have HQ := hide (HS.out w4 _ s4 hb4 (all_len _) hs4)
    have B4 := hide (bgo B3.out hb4)
    clear hs4 hb4
    go_wp2_with fail
    with_reducible refine HQ.out.mono ?_
    rintro e w5 ⟨u5, rfl, ⟨s5, rfl, hs5⟩, hb5⟩
    obtain ⟨a5, n5, d5, rfl⟩ := hs5.form
    have hq5 := heap_alloc_new w5 (.cells #[.slice a5 n5 d5] 52)
    have B5 := hide (bgo (bgo B4.out hb5) (bnew (Below.refl _ w5) (.cells #[.slice a5 n5 d5] 52)))
    obtain ⟨q, hq⟩ : ∃ q, ((n5 : Int) == 0) = q := ⟨_, rfl⟩
    have hres : decide (maskC (stepC r s.data.toList (allC s.data.toList.length)) ≠ 0) = !q := by
      rw [← hq]
      rcases hs5 with ⟨h0, _, _, h, _⟩ | ⟨h0, _, _, h, _⟩
      · simp only [Value.slice.injEq] at h
        obtain ⟨-, rfl, -⟩ := h
        rw [h0]
        rfl
      · simp only [Value.slice.injEq] at h
        obtain ⟨-, rfl, -⟩ := h
        rw [decide_eq_true h0]
        rfl
    have HE := hide (fun w (h : w.heap[w5.heap.size]? = some (.cells #[.slice a5 n5 d5] 52 (0, 0))) => empty37 q w5.heap.size n5 d5 a5 w (cell_of_one h) hq)
    have Hres := hide hres
    have Q5 := hide hq5
    clear hs5 hb5 hq hres hq5
    go_wp2_with fail
    with_reducible refine (HE.out _ Q5.out).mono ?_
    rintro e w6 ⟨rfl, rfl⟩
    go_wp2
    go_ret
    exact ⟨congrArg (fun b => Ending.returned (Value.bool b)) Hres.out.symm, B5.out⟩
  · have hne : (q != 0) = true := int_ne c3
    have he : matchA r s.data.toList = false := by unfold matchA; rw [hq, decide_eq_false c3]; rfl
    rw [he]
    clear he hq
    go_enter Tryd.func16, Tryd.ntmps16
    go_wp2_with fail
    with_reducible refine HR.out.mono ?_
    rintro e w2 ⟨rfl, hb2⟩
    have B2 := hide (bgo BB.out hb2)
    clear hb2
    go_wp2
    go_ret
    exact ⟨rfl, B2.out⟩
end Go.Proofs.YtkghbhcjgogaeaaDoor
/-! ### D3 -/
namespace Go.Proofs.YtkghbhcjgogaeaaDoor
open Go.RowKit
open Go.ChangeShapes (block_add)
attribute [local go_sem] Oper.semAt_some

def lastN (l : List Nat) : Nat := l.getLast?.getD 0
theorem lastN_snoc (l : List Nat) (x : Nat) : lastN (l ++ [x]) = x := by simp [lastN]
theorem two_cell {w : World} {b : Nat} {x y : Value} {T : TypeId} (h : w.heap[b]? = some (.cells #[x, y] T (0, 0))) : w.cell? ⟨b, 0, none⟩ = some x ∧ w.cell? ⟨b, 1, none⟩ = some y ∧ w.frozen? ⟨b, 0, none⟩ = false ∧ w.frozen? ⟨b, 1, none⟩ = false := by
  refine ⟨?_, ?_, ?_, ?_⟩ <;> simp [World.cell?, World.frozen?, h]
theorem two_set {w : World} {b : Nat} {x y u : Value} {T : TypeId} (h : w.heap[b]? = some (.cells #[x, y] T (0, 0))) : (w.setCell ⟨b, 1, none⟩ u).heap[b]? = some (.cells #[x, u] T (0, 0)) := by
  have := Go.Joins.block_setCell (i := 1) h u
  simpa using this
theorem two_set0 {w : World} {b : Nat} {x y u : Value} {T : TypeId} (h : w.heap[b]? = some (.cells #[x, y] T (0, 0))) : (w.setCell ⟨b, 0, none⟩ u).heap[b]? = some (.cells #[u, y] T (0, 0)) := by
  have := Go.Joins.block_setCell (i := 0) h u
  simpa using this
theorem load_two32 {W : World} {b : Nat} {x y : Value} (h : W.heap[b]? = some (.cells #[x, y] 32 (0, 0))) : (loadVar 32 ⟨b, 0, none⟩).run Tryd.prog W = .ok (.agg #[x, y]) W := by
  obtain ⟨h0, h1, -, -⟩ := two_cell h
  clear h
  go_simp
theorem res_two32 {fn : Func} {p : Tmp} (h : fn.results = #[.cell p 32]) (tmps : Array Value) (W : World) (b : Nat) (x y : Value) (hp : tmps.getD p undef = .pointer (some ⟨b, 0, none⟩)) (hf : W.heap[b]? = some (.cells #[x, y] 32 (0, 0))) :
    (results fn tmps).run Tryd.prog W = .ok (.agg #[x, y]) W := by
  have hp' : tmps[p]?.getD undef = .pointer (some ⟨b, 0, none⟩) := by simpa using hp
  simp [results, h, hp', asAddr, load_two32 hf]
set_option maxRecDepth 100000 in
set_option maxHeartbeats 4000000 in
theorem longest35 (N i : Nat) (hN : N + 1 ≤ 61) (hi : i ≤ N) (T : List Bool → List Bool) (hTl : (T (onlyC N i)).length = N + 1) (sv : Value) (W : World) (hS : StepOK N W sv T) (hT : HasT W) :
    Calls Tryd.prog 35 #[sv, .int .i64 (i : Int)] W fun e w' => e = .returned (.agg #[.int .i64 (i : Int), .int .i64 (lastN (offsC (T (onlyC N i))) : Nat)]) ∧ Below W.heap.size W w' := by
  obtain ⟨K, caps, rfl, hrun, hcall⟩ := hS
  obtain ⟨H, hH⟩ : ∃ H, W.heap.size = H := ⟨_, rfl⟩
  have hT0 := hT.pos
  rw [hH] at hT0
  have HC := hide hcall
  have HT := hide hT
  have HH := hide hH
  have HTl := hide hTl
  clear hcall hT hTl
  refine (callsIn_wide (n := 8)).1 ?_
  refine callsIn_of_wp_marks Tryd.func35 rfl trivial ?_ rfl
  simp only [Tryd.ntmps35, List.size_toArray, List.length_cons, List.length_nil, Nat.reduceAdd, Nat.reduceSub, Array.replicate_succ, Array.replicate_zero, List.push_toArray, List.append_toArray, List.nil_append, List.cons_append]
  gi_wp2
  obtain ⟨W1, hW1⟩ : ∃ W1, (W.alloc (.cells #[.int .i64 0, .int .i64 0] 32)).alloc (.cells #[.int .i64 (i : Int), .int .i64 0] 32) = W1 := ⟨_, rfl⟩
  have b1 : Below W.heap.size W W1 := by rw [← hW1]; exact bnew (bnew (Below.refl _ _) _) _
  have q0 : W1.heap[H]? = some (.cells #[.int .i64 0, .int .i64 0] 32 (0, 0)) := by
    rw [← hW1, ← hH]
    exact (Below.heap_alloc _ _ _ (by simp)).trans (heap_alloc_new W _)
  have q1 : W1.heap[H + 1]? = some (.cells #[.int .i64 (i : Int), .int .i64 0] 32 (0, 0)) := by
    rw [← hW1, ← hH]
    have := heap_alloc_new (W.alloc (.cells #[.int .i64 0, .int .i64 0] 32)) (.cells #[.int .i64 (i : Int), .int .i64 0] 32)
    rw [World.size_alloc] at this
    exact this
  rw [hW1]
  clear hW1 hH
  refine ⟨trivial, (callsIn_wide.2 (only30 i (by omega) W1)).mono ?_⟩
  rintro e w2 ⟨u2, rfl, ⟨s2, rfl, hs2⟩, hb2⟩
  rw [← only_mask (N := N) hi] at hs2
  have HQ := hide (HC.out w2 _ s2 (bgo b1 hb2) (only_len N i) hs2)
  have q02 := (hb2.block _ (lt_of_block q0)).trans q0
  have q12 := (hb2.block _ (lt_of_block q1)).trans q1
  have B2 := hide (bgo b1 hb2)
  clear hs2 hb2 b1 q0 q1
  gi_wp2
  refine ⟨trivial, (callsIn_wide.2 HQ.out).mono ?_⟩
  rintro e w3 ⟨u3, rfl, ⟨s3, rfl, hs3⟩, hb3⟩
  have q0 := (hb3.block _ (lt_of_block q02)).trans q02
  have q1 := (hb3.block _ (lt_of_block q12)).trans q12
  have hb := bgo B2.out hb3
  have hm := mask61 hN HTl.out
  obtain ⟨m, hmm⟩ : ∃ m, maskC (T (onlyC N i)) = m := ⟨_, rfl⟩
  have hbits : bitsL m = offsC (T (onlyC N i)) := by rw [← hmm]; exact offs_bits (by rw [HTl.out]; omega)
  have Hbits := hide hbits
  rw [hmm] at hs3 hm
  have Hs3 := hide hs3
  have HT3 := hide (HT.out.below hb)
  have B := hide hb
  have hl1 := lt_of_block q1
  clear hs3 hb3 q02 q12 hb hmm hbits
  gi_wp2
  refine range_all (gf := 31) (first := #[.agg #[s3]]) (caps := #[]) rfl (enters_of Tryd.func31 (by kernel_rfl) rfl) (each31 s3 m hm w3 Hs3.out HT3.out) (fun _ => rfl)
    (fun A B C h k => k.trans h) (fun W l o h1 => World.putObj_heap_other (by omega))
    (fun k Wx => Wx.heap[H]? = some (.cells #[.int .i64 0, .int .i64 0] 32 (0, 0)) ∧ Wx.heap[H + 1]? = some (.cells #[.int .i64 (i : Int), .int .i64 (lastN ((bitsL m).take k) : Nat)] 32 (0, 0)) ∧ Below H W Wx)
    (fun k A B ⟨h1, h2, h4⟩ hb => ⟨(hb.block _ (lt_of_block h1)).trans h1, (hb.block _ (lt_of_block h2)).trans h2, h4.trans (hb.mono (by have := lt_of_block h1; omega))⟩)
    (fun k A o ⟨h1, h2, h4⟩ => ⟨(World.putObj_heap_other (by omega)).trans h1, (World.putObj_heap_other (by omega)).trans h2, below_put h4 _ _ (by omega)⟩)
    ⟨q0, by rw [List.take_zero]; exact q1, by rw [← HH.out]; exact B.out⟩
    (fun x => { tmps := #[.func (.func K) #[] caps, .int .i64 (i : Int), undef, undef, .pointer (some ⟨H, 0, none⟩), .pointer (some ⟨H + 1, 0, none⟩), .int .i64 (x : Int), .int .i64 (i : Int), .agg #[.int .i64 (i : Int), .int .i64 0], .func (.func K) #[] caps, .int .i64 (i : Int), .agg #[s2], .agg #[s3], .func (.func 31) #[.agg #[s3]] #[], .int .i64 (x : Int), undef, undef, undef], defers := [] })
    ?assign ?body ?done
  case assign =>
    intro l x W K hK
    gi_wp2
    exact hK
  case body =>
    rintro l k x Wx hx ⟨h1, h2, h4⟩ hsz
    obtain ⟨-, -, -, f1⟩ := two_cell h2
    obtain ⟨-, c1, -, -⟩ := two_cell h2
    have Q0 := hide h1
    have Q1 := hide h2
    have B4 := hide h4
    have Hx := hide (show lastN ((bitsL m).take (k + 1)) = x by rw [take_next hx, lastN_snoc])
    clear h1 h2 h4 hx
    gi_wp2
    have hset : ∀ q, q ≠ H + 1 → (Wx.setCell ⟨H + 1, 1, none⟩ (.int .i64 (x : Int))).heap[q]? = Wx.heap[q]? := fun q hq => Below.heap_setCell Wx ⟨H + 1, 1, none⟩ _ q (by show q ≠ H + 1; exact hq)
    refine ⟨⟨by simp [World.setCell], fun q h5 h6 => hset q (by omega), hset 0 (by omega)⟩, (hset H (by omega)).trans Q0.out, ?_, B4.out.setCell (by show H ≤ H + 1; omega) _⟩
    rw [Hx.out]
    exact two_set Q1.out
  case done =>
    rintro Wx ⟨h1, h2, h4⟩ hD
    rw [List.take_of_length_le (Nat.le_refl _)] at h2
    obtain ⟨c0, c1, f0, f1⟩ := two_cell h2
    obtain ⟨d0, d1, g0, g1⟩ := two_cell h1
    have B := hide h4
    have D := hide hD
    have Q1 := hide h2
    have Q0 := hide h1
    clear h2 h4 hD h1
    gi_wp2
    have e : ∀ q, q ≠ H → ((Wx.setCell ⟨H, 0, none⟩ (.int .i64 (i : Int))).setCell ⟨H, 1, none⟩ (.int .i64 (lastN (bitsL m) : Nat))).heap[q]? = Wx.heap[q]? := fun q hq => (Below.heap_setCell _ ⟨H, 1, none⟩ _ q (by show q ≠ H; exact hq)).trans (Below.heap_setCell _ ⟨H, 0, none⟩ _ q (by show q ≠ H; exact hq))
    refine ⟨by simp, .inl ⟨_, _, rfl, run_takeDeferred ((e _ (by omega)).trans D.out), ?_⟩⟩
    refine ⟨_, res_two32 rfl _ _ H _ _ rfl ((World.putObj_heap_other (by omega)).trans (two_set (two_set0 Q0.out))), by rw [Hbits.out], ?_⟩
    rw [HH.out]
    exact below_put (((B.out).setCell (Nat.le_refl _) _).setCell (Nat.le_refl _) _) _ _ (by omega)
end Go.Proofs.YtkghbhcjgogaeaaDoor
