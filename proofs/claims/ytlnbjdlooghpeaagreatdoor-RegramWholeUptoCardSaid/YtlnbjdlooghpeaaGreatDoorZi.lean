/- Walks of layer 10's program: Zy, Zs, Zw, Qv, Qw. -/
import Derived.Test.YtlnbjdlooghpeaaGreatDoorZh
import Derived.Shelf.Small.Wraps
import Derived.Shelf.Slices.Turned
import Derived.Ground.Names2Prog
import Derived.Test.YtlnbjdlooghpeaaGreatDoorProg
import Derived.Test.YtlnbjdlooghpeaaGreatDoorZg
import Derived.Lib.OwnBridge
import Derived.Laws.ResultCell
import Derived.Deep.Cut
import Derived.Test.YtlnbjdlooghpeaaGreatDoorNr
import Derived.Test.YtlnbjdlooghpeaaGreatDoorQn
import Derived.Deep.RegionHeld3
/-! ### Zy: Layer 9, the program: Ends (D1, D2). -/
namespace Go.Proofs.YtlnbjdlooghpeaaGreatDoor
open Go.RowKit
set_option maxRecDepth 100000 in
set_option maxHeartbeats 1000000 in
theorem only30 (q : Nat) (hq : q < 61) (W : World) : Calls Tryz.prog 87 #[.int .i64 (q : Int)] W (RetO W (2 ^ q)) := by
  have hB0 := bnew (bnew (Below.refl _ W) (.cells #[.slice none 0 0] 62)) (.cells #[.slice none 0 0] 62)
  have hbox : Box (W.heap.size + 1) ((W.alloc (.cells #[.slice none 0 0] 62)).alloc (.cells #[.slice none 0 0] 62)) (W.heap.size + 1) (.slice none 0 0) 0 := by
    have := Box.new (n0 := W.heap.size + 1) (W.alloc (.cells #[.slice none 0 0] 62)) (by simp)
    simpa using this
  have HP := hide (put_own (W.heap.size + 1) (W.heap.size + 1) 0 q _ _ hbox (by simp) (by omega) hq)
  have BB := hide hB0
  clear hB0 hbox
  go_enter Tryz.func87, Tryz.ntmps87
  go_wp2_with fail
  with_reducible refine HP.out.mono ?_
  rintro e w2 ⟨rfl, A, n, c, hbx, hb⟩
  rw [Nat.zero_or] at hbx
  have c1 := cell_of_one hbx.2.1
  have r0 := (hb.block W.heap.size (by omega)).trans (show ((W.alloc (.cells #[.slice none 0 0] 62)).alloc (.cells #[.slice none 0 0] 62)).heap[W.heap.size]? = some (.cells #[.slice none 0 0] 62 (0, 0)) from (Below.heap_alloc _ _ _ (by simp)).trans (heap_alloc_new W _))
  have c2 := cell_of_one r0
  have f2 := free_of_one r0
  have X := hide hbx
  have B2 := hide (BB.out.trans (hb.mono (by omega)))
  clear hbx hb r0
  have hs := World.cell?_setCell_same' w2 ⟨W.heap.size, 0, none⟩ (.slice A n c) (by rw [c2]; rfl)
  go_wp2
  refine bodyPost_ret (v := .agg #[.slice A n c]) (by simp [results, Tryz.results87, go_sem, hs]) rfl ⟨_, rfl, ⟨_, rfl, ?_⟩, B2.out.setCell (p := ⟨W.heap.size, 0, none⟩) (Nat.le_refl _) _⟩
  exact (acc_off X.out.2.2 W.heap.size _ (by omega)).set

end Go.Proofs.YtlnbjdlooghpeaaGreatDoor
/-! ### D1 -/
namespace Go.Proofs.YtlnbjdlooghpeaaGreatDoor
open Go.RowKit
open Go.ChangeShapes (block_add)

theorem info3 : (Tryz.prog.info? 3).map (fun i => (i.zero, i.size, i.bytes)) = some (some (.int .i64 0), 1, 8) := by kernel_rfl
def natI (l : List Nat) : List Int := l.map Int.ofNat
theorem natI_len (l : List Nat) : (natI l).length = l.length := by simp [natI]
attribute [local go_sem] Oper.semAt_some
set_option maxRecDepth 100000 in
set_option maxHeartbeats 4000000 in
theorem append45 (s : Value) (m : Nat) (hm : m < 2305843009213693952) (W : World) (hs : SetV W s m) (hT : HasT W) : Calls Tryz.prog 117 #[.slice none 0 0, .func (.func 88) #[.agg #[s]] #[]] W (GrewI W (natI (bitsL m))) := by
  obtain ⟨i0, hi, hz0, hz1, hz2⟩ := info_parts info3
  obtain ⟨H, hH⟩ : ∃ H, W.heap.size = H := ⟨_, rfl⟩
  have hT0 := hT.pos
  rw [hH] at hT0
  have hlen : (bitsL m).length ≤ 64 := by unfold bitsL; exact Nat.le_trans (List.length_filter_le _ _) (by simp)
  have Hs := hide hs
  have HT := hide hT
  have HH := hide hH
  clear hs hT
  refine (callsIn_wide (n := 8)).1 ?_
  refine callsIn_of_wp_marks Tryz.func117 rfl trivial ?_ rfl
  simp only [Tryz.ntmps117, List.size_toArray, List.length_cons, List.length_nil, Nat.reduceAdd, Nat.reduceSub, Array.replicate_succ, Array.replicate_zero, List.push_toArray, List.append_toArray, List.nil_append, List.cons_append]
  gi_wp2
  obtain ⟨W0, hW0⟩ : ∃ W0, W.alloc (.cells #[.slice none 0 0] 34) = W0 := ⟨_, rfl⟩
  have h3 : W0.heap.size = H + 1 := by rw [← hW0, ← hH]; simp
  have b3 : Below W.heap.size W W0 := by rw [← hW0]; exact bnew (Below.refl _ _) _
  have k1 : W0.heap[H]? = some (.cells #[.slice none 0 0] 34 (0, 0)) := by rw [← hW0, ← hH]; exact heap_alloc_new W _
  rw [hW0]
  clear hW0 hH
  refine range_all (gf := 88) (first := #[.agg #[s]]) (caps := #[]) rfl (enters_of Tryz.func88 (by kernel_rfl) rfl) (each31 s m hm W0 (Hs.out.below b3) (HT.out.below b3)) (fun _ => rfl)
    (fun A B C h k => k.trans h) (fun W l o h1 => World.putObj_heap_other (by omega))
    (fun k Wx => ∃ v, Wx.heap[H]? = some (.cells #[v] 34 (0, 0)) ∧ Own Wx (H + 5) 3 v (numCells (natI ((bitsL m).take k))) ∧ Below H W Wx)
    (fun k A B ⟨v, h1, h2, h4⟩ hb => ⟨v, (hb.block _ (lt_of_block h1)).trans h1, h2.below hb, h4.trans (hb.mono (by have := lt_of_block h1; omega))⟩)
    (fun k A o ⟨v, h1, h2, h4⟩ => ⟨v, (World.putObj_heap_other (by omega)).trans h1, own_put h2 _ _ (fun e => by have := (World.ownsRow.lt h2 _ e).1; omega), below_put h4 _ _ (by omega)⟩)
    ⟨_, k1, by rw [List.take_zero]; exact World.ownsRow_nil _ _ _ _, by rw [← HH.out]; exact b3⟩
    (fun x => { tmps := #[.slice none 0 0, .func (.func 88) #[.agg #[s]] #[], .pointer (some ⟨H, 0, none⟩), undef, .slice none 0 0, .int .i64 (x : Int), .func (.func 88) #[.agg #[s]] #[], .int .i64 (x : Int), undef, undef, undef, undef, undef], defers := [] })
    ?assign ?body ?done
  case assign =>
    intro l x W K hK
    gi_wp2
    exact hK
  case body =>
    rintro l k x Wx hx ⟨v, h1, h2, h4⟩ hsz
    have hk : k < 64 := by have := (List.getElem?_eq_some_iff.1 hx).1; omega
    have hkl : (numCells (natI ((bitsL m).take k))).length = k := by rw [num_len, natI_len, List.length_take]; have := (List.getElem?_eq_some_iff.1 hx).1; omega
    have hown : (Wx.alloc (.cells #[.int .i64 (x : Int)] 3)).ownsRow (H + 5) 3 1 v k (numCells (natI ((bitsL m).take k))) := by
      have := h2.alloc (.cells #[.int .i64 (x : Int)] 3)
      unfold Own at this
      rwa [hkl] at this
    have hx2 : numCells (natI ((bitsL m).take k)) ++ [.int .i64 (x : Int)] = numCells (natI ((bitsL m).take (k + 1))) := by
      rw [take_next hx]
      simp [natI, numCells]
    have hfar : ∀ g, v.ownBlock = some g → H + 5 ≤ g := fun g hg => (World.ownsRow.lt h2 g hg).1
    have hb0 := bnew (Below.refl _ Wx) (.cells #[.int .i64 (x : Int)] 3)
    have c0 := cell_of_one h1
    have hH := lt_of_block h1
    have H1 := hide h1
    have B4 := hide h4
    have B0 := hide hb0
    have Hx2 := hide hx2
    clear h1 h4 hb0 hx hx2
    gi_wp2_with (gi_at_builtin; refine wpListIn_append_own _ rfl (.tmp 8) (.tmp 10) 34 rfl (H + 5) 3 i0 _ 1 8 Tryz.underlying34 hi hz0 hz1 hz2 rfl (by decide) v k _ rfl hown ⟨Wx.heap.size, 0, none⟩ 1 1 [.int .i64 (x : Int)] rfl rfl (c1_one _ _ _) (by intro u hu; simp at hu; subst hu; rfl) (by unfold maxLen; omega) (by omega) (by simp; omega) ?_)
    intro v' w' hown' hg _
    obtain ⟨gv, capv, rfl, -, -⟩ := World.ownsRow.form hown' (by omega)
    have hd : Turns (fun q => v.ownBlock = some q) Wx w' := (Turns.of_below B0.out).grown hg fun q hq => hq
    have q1 := (hd.block H hH (fun h => by have := hfar _ h; omega)).trans H1.out
    have c1 := cell_of_one q1
    have f1 := free_of_one q1
    have O' := hide hown'
    have D := hide hd
    have Q1 := hide q1
    clear hown hown' hg hd q1
    gi_wp2
    have hset : ∀ q, q ≠ H → (w'.setCell ⟨H, 0, none⟩ (.slice (some ⟨gv, 0, none⟩) (k + 1) capv)).heap[q]? = w'.heap[q]? := fun q hq => Below.heap_setCell w' ⟨H, 0, none⟩ _ q (by show q ≠ H; exact hq)
    have hbw : Below (H + 1) Wx w' := D.out.below (by omega) fun q h => by have := hfar q h; omega
    refine ⟨⟨by simpa [World.setCell] using D.out.size, fun q h5 h6 => ?_, ?_⟩, _, one_setCell Q1.out, ?_, (B4.out.trans (hbw.mono (by omega))).setCell (Nat.le_refl _) _⟩
    · exact (hset q (by omega)).trans (D.out.block q (by omega) fun h => by have := hfar _ h; omega)
    · exact (hset 0 (by omega)).trans (D.out.block 0 (by omega) fun h => by have := hfar _ h; omega)
    · rw [← Hx2.out]
      unfold Own
      rw [List.length_append, hkl]
      exact ownsRow_setCell_other O'.out (own_far O'.out Q1.out (by decide)) _
  case done =>
    rintro Wx ⟨v, h1, h2, h4⟩ hD
    rw [List.take_of_length_le (Nat.le_refl _)] at h2
    have c1 := cell_of_one h1
    have O := hide h2
    have B := hide h4
    have D := hide hD
    clear h2 h4 hD h1
    gi_wp2
    refine ⟨by simp, .inl ⟨_, _, rfl, run_takeDeferred D.out, ?_⟩⟩
    have hb := below_put B.out W0.heap.size (.deferred none) (by omega)
    refine ⟨v, results_tmp (t := 4) rfl _ _ _, v, rfl, ?_, by rw [HH.out]; exact hb⟩
    rw [HH.out]
    refine owns_mono (own_put O.out _ _ fun e => ?_) (show H ≤ H + 5 by omega)
    have := (World.ownsRow.lt O.out _ e).1
    omega
theorem collect28 (s : Value) (m : Nat) (hm : m < 2305843009213693952) (W : World) (hs : SetV W s m) (hT : HasT W) : Calls Tryz.prog 86 #[.func (.func 88) #[.agg #[s]] #[]] W (GrewI W (natI (bitsL m))) := by
  have HC := hide (append45 s m hm W hs hT)
  clear hs hT
  go_enter Tryz.func86, Tryz.ntmps86
  go_wp2_with fail
  with_reducible refine HC.out.mono ?_
  rintro e w2 ⟨v, rfl, ho, hb⟩
  have O := hide ho
  have B := hide hb
  clear ho hb
  go_wp2
  go_ret
  exact ⟨v, rfl, O.out, B.out⟩
end Go.Proofs.YtlnbjdlooghpeaaGreatDoor
/-! ### D2 -/
namespace Go.Proofs.YtlnbjdlooghpeaaGreatDoor
open Go.RowKit
open Go.ChangeShapes (block_add)

def onlyC (N i : Nat) : List Bool := (noneC N).set i true
theorem only_len (N i : Nat) : (onlyC N i).length = N + 1 := by simp [onlyC, noneC_len]
theorem only_mask {N i : Nat} (h : i ≤ N) : maskC (onlyC N i) = 2 ^ i := by
  unfold onlyC
  rw [mask_set (by rw [noneC_len]; omega), mask_none, Nat.zero_or]
theorem GrewI.nil (W w' : World) (h : Below W.heap.size W w') : GrewI W [] (.returned (.slice none 0 0)) w' := ⟨_, rfl, World.ownsRow_nil _ _ _ _, h⟩
/-- What Ends answers. -/
def endsA (r : Rx) (s : List UInt8) (at_ : Int) : List Nat := if at_ < 0 ∨ (s.length : Int) < at_ ∨ rightR r ≠ 0 then [] else endsC r s at_.toNat
set_option maxRecDepth 100000 in
set_option maxHeartbeats 2000000 in
theorem ends12 (s : ByteArray) (hs : s.size ≤ 60) (r : Rx) (h1 : sizeR r ≤ 1000000) (h2 : depthR r ≤ 1000000) (at_ : Int) (W : World) (ok : Nat → Prop) (v : Value) (hv : RxV W ok v r) (hT : HasT W) :
    Calls Tryz.prog 43 #[v, .string s, .int .i64 at_] W (GrewI W (natI (endsA r s.data.toList at_))) := by
  have hlen := strlen s
  have hv0 := hv
  cases hv with
  | mk k a b A B n c m d set vs l hset hvs hl hk ha hb hr =>
  have hB := bnew (Below.refl _ W) (.cells #[.int .i64 k, .slice A n c, .int .i64 a, .int .i64 b, .slice B m d] 25)
  have F := hide (five_new W (.int .i64 k) (.slice A n c) (.int .i64 a) (.int .i64 b) (.slice B m d) 25)
  have V := hide (hv0.kept hB)
  have BB := hide hB
  have HT := hide hT
  obtain ⟨_, t0, t1, t2, t3, t4⟩ := F.out
  obtain ⟨r, hr'⟩ : ∃ r, Rx.mk k set a b l = r := ⟨_, rfl⟩
  rw [hr'] at V h1 h2 ⊢
  clear hset hvs hl hk ha hb hr hB hv0 hT hr'
  by_cases c1 : at_ < 0
  · have he : endsA r s.data.toList at_ = [] := by unfold endsA; rw [if_pos (Or.inl c1)]
    have hd : decide (at_ < 0) = true := decide_eq_true c1
    rw [he]
    clear he
    go_enter Tryz.func43, Tryz.ntmps43
    go_wp2
    go_ret
    exact GrewI.nil W _ BB.out
  · obtain ⟨i, rfl⟩ : ∃ i : Nat, at_ = (i : Int) := ⟨at_.toNat, by omega⟩
    have hd : decide ((i : Int) < 0) = false := decide_eq_false c1
    by_cases c2 : s.size < i
    · have he : endsA r s.data.toList (i : Int) = [] := by unfold endsA; rw [if_pos (Or.inr (Or.inl (by rw [hlen]; omega)))]
      have hd2 : decide ((s.size : Int) < (i : Int)) = true := decide_eq_true (by omega)
      have hd3 : decide (s.size < i) = true := decide_eq_true c2
      rw [he]
      clear he
      go_enter Tryz.func43, Tryz.ntmps43
      go_wp2
      go_ret
      exact GrewI.nil W _ BB.out
    · have hd2 : decide ((s.size : Int) < (i : Int)) = false := decide_eq_false (by omega)
      have hd3 : decide (s.size < i) = false := decide_eq_false c2
      have HR := hide (pright27 V.out h1 h2)
      obtain ⟨q, hq⟩ : ∃ q, rightR r = q := ⟨_, rfl⟩
      rw [hq] at HR
      by_cases c3 : q = 0
      · have hne : (q != 0) = false := int_eq c3
        subst c3
        obtain ⟨hn, hsz⟩ := right_nodeB hq
        have he : endsA r s.data.toList (i : Int) = endsC r s.data.toList i := by unfold endsA; rw [if_neg (by rw [hlen]; omega)]; rfl
        rw [he]
        have HM := hide (step29 s hs r hn (by omega))
        clear he hq
        go_enter Tryz.func43, Tryz.ntmps43
        go_wp2_with fail
        with_reducible refine HR.out.mono ?_
        rintro e w2 ⟨rfl, hb2⟩
        have B2 := hide (bgo BB.out hb2)
        have HC := hide (HM.out w2 ok _ (V.out.kept hb2) ((HT.out.below BB.out).below hb2))
        clear t0 t1 t2 t3 t4
        obtain ⟨_, t0, t1, t2, t3, t4⟩ := F.out.keep hb2
        clear hb2
        go_wp2_with fail
        with_reducible refine HC.out.mono ?_
        rintro e w3 ⟨sv, rfl, hsv, hb3⟩
        have hsok := hsv.ok (Kept.of (Below.refl _ w3))
        obtain ⟨K, caps, rfl, hrun, hcall⟩ := hsok
        have HS := hide (fun W' f v hW hf hv => hcall W' f v hW hf hv)
        have HO := hide (only30 i (by omega) w3)
        have B3 := hide (bgo B2.out hb3)
        have HT3 := hide (HT.out.below (bgo B2.out hb3))
        clear hsv hb3 hcall t0 t1 t2 t3 t4
        go_wp2_with fail
        with_reducible refine HO.out.mono ?_
        rintro e w4 ⟨u4, rfl, ⟨s4, rfl, hs4⟩, hb4⟩
        rw [← only_mask (N := s.data.toList.length) (by rw [hlen]; omega)] at hs4
        have HQ := hide (HS.out w4 _ s4 hb4 (only_len _ i) hs4)
        have B4 := hide (bgo B3.out hb4)
        have HT4 := hide (HT3.out.below hb4)
        clear hs4 hb4
        go_wp2_with fail
        with_reducible refine HQ.out.mono ?_
        rintro e w5 ⟨u5, rfl, ⟨s5, rfl, hs5⟩, hb5⟩
        have hL : (stepC r s.data.toList (onlyC s.data.toList.length i)).length = s.data.toList.length + 1 := stepC_len r _ _ (only_len _ _)
        have hm := mask61 (N := s.data.toList.length) (by rw [hlen]; omega) hL
        have HF := hide (collect28 s5 _ hm w5 hs5 (HT4.out.below hb5))
        have B5 := hide (bgo B4.out hb5)
        clear hs5 hb5
        go_wp2_with fail
        with_reducible refine HF.out.mono ?_
        rintro e w6 ⟨u6, rfl, ho6, hb6⟩
        have O6 := hide ho6
        have B6 := hide (bgo B5.out hb6)
        have Hbits := hide (offs_bits (f := stepC r s.data.toList (onlyC s.data.toList.length i)) (by rw [hL, hlen]; omega))
        clear ho6 hb6 hL hm
        go_wp2
        go_ret
        refine ⟨_, rfl, ?_, B6.out⟩
        have := O6.out
        rw [Hbits.out] at this
        exact owns_mono this B5.out.size
      · have hne : (q != 0) = true := int_ne c3
        have he : endsA r s.data.toList (i : Int) = [] := by unfold endsA; rw [if_pos (Or.inr (Or.inr (by omega)))]
        rw [he]
        clear he hq
        go_enter Tryz.func43, Tryz.ntmps43
        go_wp2_with fail
        with_reducible refine HR.out.mono ?_
        rintro e w2 ⟨rfl, hb2⟩
        have B2 := hide (bgo BB.out hb2)
        clear hb2
        go_wp2
        go_ret
        exact GrewI.nil W _ B2.out
end Go.Proofs.YtlnbjdlooghpeaaGreatDoor
/-! ### Zs: slices.Index and slices.Contains at []int, laid off the shelf by the tool (lay-shelf, lay-plain), numbers by name. -/
namespace Go.Proofs
open Go.Shelf
def Tryz.lays108_ren : Go.Shelf.Ren := ⟨fun | 108 => 85 | n => n, fun | 28 => 34 | 3 => 3 | 0 => 0 | 4 => 4 | n => n, fun | n => n⟩
theorem Tryz.lays108 : Go.Proofs.Lays.n108 Tryz.prog Tryz.lays108_ren := {
  mixed := by kernel_rfl
  f108 := Tryz.func85.trans (congrArg some (by kernel_rfl))
  t0 := Tryz.underlying0
  a0 := Tryz.isAgg0
  z0 := Tryz.sizeOf0
  v0 := Tryz.zeroValue0
  t3 := Tryz.underlying3
  a3 := Tryz.isAgg3
  z3 := Tryz.sizeOf3
  v3 := Tryz.zeroValue3
  t4 := Tryz.underlying4
  a4 := Tryz.isAgg4
  z4 := Tryz.sizeOf4
  v4 := Tryz.zeroValue4
  t28 := Tryz.underlying34
  a28 := Tryz.isAgg34
  z28 := Tryz.sizeOf34
  v28 := Tryz.zeroValue34 }
open Go.Lib in
theorem Tryz.slices_Index_int (b off n c : Nat) (zs : List Int) (x : Int) (w : World) (hz : n ≤ zs.length) (hbig : n ≤ 9223372036854775807) (hc : ∀ j, j < zs.length → w.cell? ⟨b, off + j, none⟩ = some (.int .i64 (zs.getD j 0))) :
    Calls Tryz.prog 85 #[.slice (some ⟨b, off, none⟩) n c, .int .i64 x] w fun e w' => e = .returned (.int .i64 (Lib.idxOf (zs.take n) x)) ∧ w' = w := Any.slices_Index_int Tryz.lays108 b off n c zs x w hz hbig hc
open Go.Lib in
theorem Tryz.slices_Index_int_empty (a : Option Addr) (c : Nat) (x : Int) (w : World) :
    Calls Tryz.prog 85 #[.slice a 0 c, .int .i64 x] w fun e w' => e = .returned (.int .i64 (Lib.idxOf [] x)) ∧ w' = w := Any.slices_Index_int_empty Tryz.lays108 a c x w
def Tryz.lays107_ren : Go.Shelf.Ren := ⟨fun | 107 => 42 | 108 => 85 | n => n, fun | 28 => 34 | 3 => 3 | 4 => 4 | 0 => 0 | n => n, fun | n => n⟩
theorem Tryz.lays107 : Go.Proofs.Lays.n107 Tryz.prog Tryz.lays107_ren := {
  mixed := by kernel_rfl
  f107 := Tryz.func42.trans (congrArg some (by kernel_rfl))
  f108 := Tryz.func85.trans (congrArg some (by kernel_rfl))
  t0 := Tryz.underlying0
  a0 := Tryz.isAgg0
  z0 := Tryz.sizeOf0
  v0 := Tryz.zeroValue0
  t3 := Tryz.underlying3
  a3 := Tryz.isAgg3
  z3 := Tryz.sizeOf3
  v3 := Tryz.zeroValue3
  t4 := Tryz.underlying4
  a4 := Tryz.isAgg4
  z4 := Tryz.sizeOf4
  v4 := Tryz.zeroValue4
  t28 := Tryz.underlying34
  a28 := Tryz.isAgg34
  z28 := Tryz.sizeOf34
  v28 := Tryz.zeroValue34 }
open Go.Lib in
theorem Tryz.slices_Contains_int (b off n c : Nat) (zs : List Int) (x : Int) (w : World) (hz : n ≤ zs.length) (hbig : n ≤ 9223372036854775807) (hc : ∀ j, j < zs.length → w.cell? ⟨b, off + j, none⟩ = some (.int .i64 (zs.getD j 0))) :
    Calls Tryz.prog 42 #[.slice (some ⟨b, off, none⟩) n c, .int .i64 x] w fun e w' => e = .returned (.bool ((zs.take n).contains x)) ∧ w' = w := Any.slices_Contains_int Tryz.lays107 b off n c zs x w hz hbig hc
open Go.Lib in
theorem Tryz.slices_Contains_int_empty (a : Option Addr) (c : Nat) (x : Int) (w : World) :
    Calls Tryz.prog 42 #[.slice a 0 c, .int .i64 x] w fun e w' => e = .returned (.bool false) ∧ w' = w := Any.slices_Contains_int_empty Tryz.lays107 a c x w
end Go.Proofs
/-! ### Zw: The program: Whole (D8). -/
/-! ### D8 -/
namespace Go.Proofs.YtlnbjdlooghpeaaGreatDoor
open Go.RowKit
open Go.ChangeShapes (block_add)

theorem contains39 (w : World) (B : Nat) (v : Value) (l : List Int) (x : Int) (ho : Own w B 3 v (numCells l)) (hl : l.length ≤ 1000000) : Calls Tryz.prog 42 #[v, .int .i64 x] w fun e w' => e = .returned (.bool (l.contains x)) ∧ w' = w := by
  by_cases hv : v = .slice none 0 0
  · subst hv
    have h0 : l = [] := by
      obtain ⟨A, m, c, e, hm, _⟩ := ho.slI
      simp only [Value.slice.injEq] at e
      exact List.eq_nil_of_length_eq_zero (by omega)
    subst h0
    exact Tryz.slices_Contains_int_empty none 0 x w
  · have ho' : w.ownsRow B 3 1 v l.length (l.map (Value.int .i64)) := by
      have := ho
      unfold Own at this
      rwa [num_len] at this
    obtain ⟨g, cap, rfl, hB, hg, -, -, -, hH⟩ := Go.Lib.holds_of_ownsRow ho' hv
    have h := Tryz.slices_Contains_int g 0 l.length cap l x w (Nat.le_refl _) (by omega) (fun j hj => by
      have := (hH j (by simpa using hj)).1
      rw [this]
      congr 2
      rw [getElem!_pos _ _ (by simpa using hj)]
      simp [List.getD, List.getElem?_eq_getElem hj])
    rw [List.take_of_length_le (Nat.le_refl _)] at h
    exact h
/-- What Whole answers. -/
def wholeA (r : Rx) (s : List UInt8) : Bool := decide ((s.length : Int) ∈ natI (endsA r s 0))
theorem endsA_len (r : Rx) (s : List UInt8) (at_ : Int) : (endsA r s at_).length ≤ s.length + 1 := by
  unfold endsA
  split
  · simp
  · unfold endsC offsC
    refine Nat.le_trans (List.length_filter_le _ _) ?_
    rw [List.length_range, stepC_len r s _ (by simp [noneC_len])]
    omega
set_option maxRecDepth 100000 in
set_option maxHeartbeats 2000000 in
theorem whole18 (s : ByteArray) (hs : s.size ≤ 60) (r : Rx) (h1 : sizeR r ≤ 1000000) (h2 : depthR r ≤ 1000000) (W : World) (ok : Nat → Prop) (v : Value) (hv : RxV W ok v r) (hT : HasT W) :
    Calls Tryz.prog 13 #[v, .string s] W fun e w' => e = .returned (.bool (wholeA r s.data.toList)) ∧ Below W.heap.size W w' := by
  have hlen := strlen s
  have hv0 := hv
  cases hv with
  | mk k a b A B n c m d set vs l hset hvs hl hk ha hb hr =>
  have hB := bnew (Below.refl _ W) (.cells #[.int .i64 k, .slice A n c, .int .i64 a, .int .i64 b, .slice B m d] 25)
  have F := hide (five_new W (.int .i64 k) (.slice A n c) (.int .i64 a) (.int .i64 b) (.slice B m d) 25)
  have BB := hide hB
  obtain ⟨_, t0, t1, t2, t3, t4⟩ := F.out
  obtain ⟨r, hr'⟩ : ∃ r, Rx.mk k set a b l = r := ⟨_, rfl⟩
  rw [hr'] at hv0 h1 h2 ⊢
  have HE := hide (ends12 s hs r h1 h2 0 _ ok _ (hv0.kept hB) (hT.below hB))
  have hel := endsA_len r s.data.toList 0
  clear hset hvs hl hk ha hb hr hB hv0 hT hr'
  go_enter Tryz.func13, Tryz.ntmps13
  go_wp2_with fail
  with_reducible refine HE.out.mono ?_
  rintro e w2 ⟨v2, rfl, ho2, hb2⟩
  have HC := hide (contains39 w2 _ v2 _ (s.size : Int) ho2 (by rw [natI_len]; omega))
  have B2 := hide (bgo BB.out hb2)
  clear ho2 hb2 t0 t1 t2 t3 t4
  go_wp2_with fail
  with_reducible refine HC.out.mono ?_
  rintro e w3 ⟨rfl, rfl⟩
  go_wp2
  go_ret
  exact ⟨congrArg (fun b => Ending.returned (Value.bool b)) (show decide ((s.size : Int) ∈ natI (endsA r s.data.toList 0)) = wholeA r s.data.toList by unfold wholeA; rw [hlen]), B2.out⟩
end Go.Proofs.YtlnbjdlooghpeaaGreatDoor
/-! ### Qv: Layer 10: what Whole answers where an expression has literals. -/
namespace Go.Proofs.YtlnbjdlooghpeaaGreatDoor
open Go.RowKit

theorem literals_some {r : Rx} {L : List (List UInt8)} (h : literalsS r = some L) : rightR r = 0 ∧ litR false r = some L := by
  unfold literalsS at h
  split at h
  · rename_i h1
    exact ⟨h1, h⟩
  · exact absurd h (by simp)
theorem wholeA_lit {r : Rx} {L : List (List UInt8)} (h : literalsS r = some L) (s : List UInt8) : wholeA r s = decide (s ∈ L) := by
  obtain ⟨hr, hl⟩ := literals_some h
  unfold wholeA
  rw [Bool.eq_iff_iff, decide_eq_true_eq, decide_eq_true_eq, whole_lit hl s]
  unfold natI
  have he : endsA r s 0 = endsC r s 0 := by
    unfold endsA
    rw [if_neg]
    · rfl
    · simp only [not_or, Decidable.not_not]
      omega
  rw [he, List.mem_map]
  constructor
  · rintro ⟨j, hj, e⟩
    obtain rfl : j = s.length := Int.ofNat.inj e
    exact (endsC_mem r s (right_node hr).1 0 (Nat.zero_le _) _).1 hj
  · intro hm
    exact ⟨s.length, (endsC_mem r s (right_node hr).1 0 (Nat.zero_le _) _).2 hm, rfl⟩
end Go.Proofs.YtlnbjdlooghpeaaGreatDoor
/-! ### Qw: Layer 10: the law of Whole over what it asks of the program. -/
namespace Go.Proofs.YtlnbjdlooghpeaaGreatDoor
open Go.RowKit
open Go.Op (bytesLess)

theorem add_atW (g o j : Nat) : (⟨g, o, none⟩ : Addr).add j = ⟨g, o + j, none⟩ := by
  unfold Addr.add
  split
  · rename_i h; rw [h]; rfl
  · rfl
theorem addr_plainW {W : World} {ad : Addr} {v : Value} (h : W.cell? (ad.add 0) = some v) : ∃ g o, ad = ⟨g, o, none⟩ := by
  obtain ⟨g, o, sp⟩ := ad
  have hsp : sp = none := by simpa [Addr.add] using World.cell?_spot h
  subst hsp
  exact ⟨g, o, rfl⟩
theorem mem_next {t y : List UInt8} {l : List (List UInt8)} {i : Nat} (h : l[i]? = some y) : decide (t ∈ l.take (i + 1)) = (decide (t ∈ l.take i) || decide (y = t)) := by
  rw [takeN h, Bool.eq_iff_iff, Bool.or_eq_true, decide_eq_true_eq, decide_eq_true_eq, decide_eq_true_eq, List.mem_append, List.mem_singleton]
  exact or_congr Iff.rfl eq_comm
set_option maxRecDepth 100000 in
set_option maxHeartbeats 6400000 in
theorem lawW (A : AliveC) (C : Cs) {ok : Nat → Prop} {v : Value} {r : Rx} (s : ByteArray) (hs : s.size ≤ 9223372036854775807) (hsz : weightR r ≤ 1000000) (w : World) (hT : HasT w) (hv : RxV w ok v r) :
    Calls Tryz.prog 4 #[v, .string s] w fun e w' => e = .returned (.bool true) ∧ Below w.heap.size w w' := by
  have hs1 : sizeR r ≤ 1000000 := Nat.le_trans (size_weight r) hsz
  have hd1 : depthR r ≤ 1000000 := Nat.le_trans (depth_le' r) hs1
  obtain ⟨k, a, b, A', B, n, c, m, d, rfl⟩ := rxv_shape hv
  have hb1 := bel_alloc w (.cells #[.int .i64 k, .slice A' n c, .int .i64 a, .int .i64 b, .slice B m d] 25)
  have F := hide (five_new w (.int .i64 k) (.slice A' n c) (.int .i64 a) (.int .i64 b) (.slice B m d) 25)
  have V := hide (hv.kept hb1)
  have T0 := hide (hT.below hb1)
  have B1 := hide hb1
  have HA := hide (A (w.alloc (.cells #[.int .i64 k, .slice A' n c, .int .i64 a, .int .i64 b, .slice B m d] 25)))
  obtain ⟨z, hz⟩ : ∃ z, szR 200 r = z := ⟨_, rfl⟩
  have hzb : z ≤ 1000000 := by rw [← hz]; have := (sz_ok r 200).2; omega
  have hsb : (s.size : Int) ≤ 9223372036854775807 := by omega
  have HS := hide (fun (W : World) (h : RxV W ok (.agg #[.int .i64 k, .slice A' n c, .int .i64 a, .int .i64 b, .slice B m d]) r) => (show Calls Tryz.prog 7 #[.agg #[.int .i64 k, .slice A' n c, .int .i64 a, .int .i64 b, .slice B m d], .int .i64 200] W fun e w' => e = .returned (.int .i64 (z : Int)) ∧ Below W.heap.size W w' from by rw [← hz]; exact rsize r W ok _ 200 h (by omega) (by omega)))
  have HL0 := hide (fun (W : World) (h : RxV W ok (.agg #[.int .i64 k, .slice A' n c, .int .i64 a, .int .i64 b, .slice B m d]) r) => C.lit h hs1 hd1)
  have HW := hide (fun (t : ByteArray) (ht : t.size ≤ 60) (W : World) (h : RxV W ok (.agg #[.int .i64 k, .slice A' n c, .int .i64 a, .int .i64 b, .slice B m d]) r) (hT : HasT W) => whole18 t ht r hs1 hd1 W ok _ h hT)
  clear hv hb1 A C hz hsz hs1 hd1 hT
  go_enter Tryz.func4, Tryz.ntmps4
  go_wp2_with fail
  with_reducible refine HA.out.mono ?_
  rintro e w1 ⟨rfl, hb⟩
  have F1 := hide (F.out.keep hb)
  have V1 := hide (V.out.kept hb)
  have T1 := hide (T0.out.below hb)
  have B2 := hide (bgo B1.out hb)
  obtain ⟨-, t0, t1, t2, t3, t4⟩ := F1.out
  clear hb HA F V B1 T0
  go_wp2_with fail
  with_reducible refine (HS.out _ V1.out).mono ?_
  rintro e w2 ⟨rfl, hb⟩
  have F2 := hide (F1.out.keep hb)
  have V2 := hide (V1.out.kept hb)
  have T2 := hide (T1.out.below hb)
  have B3 := hide (bgo B2.out hb)
  obtain ⟨-, t0, t1, t2, t3, t4⟩ := F2.out
  clear hb HS F1 V1 B2 T1
  by_cases hbig : 200 < z
  · have hbig' : (200 : Int) < (z : Int) := by omega
    go_wp2
    go_ret
    exact ⟨rfl, B3.out⟩
  have hbig' : ¬ (200 : Int) < (z : Int) := by omega
  by_cases h6 : 60 < s.size
  · have h6' : (60 : Int) < (s.size : Int) := by omega
    go_wp2
    go_ret
    exact ⟨rfl, B3.out⟩
  have h6' : ¬ (60 : Int) < (s.size : Int) := by omega
  have hs6 : s.size ≤ 60 := by omega
  cases hl : literalsS r with
  | none =>
    have HL := hide (fun (W : World) (h : RxV W ok (.agg #[.int .i64 k, .slice A' n c, .int .i64 a, .int .i64 b, .slice B m d]) r) => (HL0.out W h).mono (R' := fun e w' => ∃ A c, e = .returned (.tuple #[.slice A 0 c, .bool false]) ∧ Below W.heap.size W w') fun e w' h => by rw [hl] at h; obtain ⟨A, c, h1, -, h3⟩ := gotL_ex h rfl rfl; exact ⟨A, c, h1, h3⟩)
    clear hl HL0
    go_wp2_with fail
    with_reducible refine (HL.out _ V2.out).mono ?_
    rintro e w3 ⟨A3, c3, rfl, hb⟩
    have B4 := hide (bgo B3.out hb)
    clear hb HL
    go_wp2
    go_ret
    exact ⟨rfl, B4.out⟩
  | some L =>
    have hgood := litR_good r L (literals_some hl).2
    obtain ⟨N, hN⟩ : ∃ N, L.length = N := ⟨_, rfl⟩
    have hN8 : N ≤ 8 := by rw [← hN]; exact hgood.2.1
    have HL := hide (fun (W : World) (h : RxV W ok (.agg #[.int .i64 k, .slice A' n c, .int .i64 a, .int .i64 b, .slice B m d]) r) => (HL0.out W h).mono (R' := fun e w' => ∃ A c, e = .returned (.tuple #[.slice A N c, .bool true]) ∧ Sl w' A N c (strCells L) ∧ Below W.heap.size W w') fun e w' h => by rw [hl] at h; exact gotL_ex h rfl hN)
    have HWs := hide (fun (W : World) (h : RxV W ok (.agg #[.int .i64 k, .slice A' n c, .int .i64 a, .int .i64 b, .slice B m d]) r) (hT : HasT W) => (show Calls Tryz.prog 13 #[.agg #[.int .i64 k, .slice A' n c, .int .i64 a, .int .i64 b, .slice B m d], .string s] W fun e w' => e = .returned (.bool (decide (s.data.toList ∈ L))) ∧ Below W.heap.size W w' from by rw [← wholeA_lit hl]; exact HW.out s hs6 W h hT))
    have HWL := hide (fun (y : List UInt8) (hy : y ∈ L) (W : World) (h : RxV W ok (.agg #[.int .i64 k, .slice A' n c, .int .i64 a, .int .i64 b, .slice B m d]) r) (hT : HasT W) => (show Calls Tryz.prog 13 #[.agg #[.int .i64 k, .slice A' n c, .int .i64 a, .int .i64 b, .slice B m d], .string (bsx y)] W fun e w' => e = .returned (.bool true) ∧ Below W.heap.size W w' from by
      have h1 := HW.out (bsx y) (by have := hgood.2.2 y hy; show y.toArray.size ≤ 60; simp; omega) W h hT
      rw [bsx_list, wholeA_lit hl, decide_eq_true hy] at h1
      exact h1))
    have Hgood := hide hgood
    have HNl := hide hN
    clear hl HL0 HW hgood hN
    go_wp2_with fail
    with_reducible refine (HL.out _ V2.out).mono ?_
    rintro e w3 ⟨A3, c3, rfl, hs3, hb⟩
    have F3 := hide (F2.out.keep hb)
    have V3 := hide (V2.out.kept hb)
    have T3 := hide (T2.out.below hb)
    have B4 := hide (bgo B3.out hb)
    have S3 := hide hs3
    have hnc := hs3.1
    have hcc := hs3.2.1
    clear hb HL hs3 t0 t1 t2 t3 t4
    go_wp2
    go_loopw [7, 8] (fun u x wr => ∃ i : Nat, i ≤ N ∧ x = .int .i64 (i : Int) ∧ u = .bool (decide (s.data.toList ∈ L.take i)) ∧ Below w3.heap.size w3 wr) (fun _ x _ => N - (intOf x).toNat)
    case atStart => exact ⟨0, Nat.zero_le _, rfl, by simp, Below.refl _ _⟩
    case round =>
      obtain ⟨i, hi, rfl, rfl, hbel⟩ := hrel
      obtain ⟨w5, hw5⟩ : ∃ w5, w5 = wr := ⟨wr, rfl⟩
      subst hw5
      have F5 := hide (F3.out.keep hbel)
      have V5 := hide (V3.out.kept hbel)
      have T5 := hide (T3.out.below hbel)
      have S5 := hide (S3.out.below hbel)
      have B5 := hide hbel
      obtain ⟨-, t0, t1, t2, t3, t4⟩ := F5.out
      have hib : (i : Int) ≤ 1000 := by omega
      obtain ⟨p, hp⟩ : ∃ p, decide (s.data.toList ∈ L.take i) = p := ⟨_, rfl⟩
      rw [hp]
      have Hp := hide hp
      clear hp hbel
      by_cases hlt : i < N
      · have hlt' : (i : Int) < (N : Int) := by omega
        obtain ⟨ad, y, rfl, hy, hc1⟩ := str_cell S5.out.reads hlt
        have hyL : y ∈ L := List.mem_of_getElem? hy
        have Hy := hide hy
        have hy16 : decide ((16 : Int) < ((bsx y).size : Int)) = false := decide_eq_false (by have := Hgood.out.2.2 y hyL; show ¬ (16 : Int) < (y.toArray.size : Int); simp; omega)
        have HWy := hide (HWL.out y hyL)
        have Hst := hide (mem_next (t := s.data.toList) hy)
        by_cases h0 : i = 0
        · have hi0 : decide ((0 : Int) < (i : Int)) = false := decide_eq_false (by omega)
          have hi1 : decide (0 < i) = false := decide_eq_false (by omega)
          subst h0
          obtain ⟨g, o, rfl⟩ := addr_plainW hc1
          rw [add_atW] at hc1
          have c0 : w5.cell? ⟨g, o, none⟩ = some (.string (bsx y)) := hc1
          have hlt2 : ¬ ((N : Int) ≤ 0) := by omega
          have hlt3 : (0 : Int) < (N : Int) := by omega
          clear hc1 hlt'
          go_wp2_with fail
          obtain ⟨x, hx⟩ : ∃ x, x = w5 := ⟨_, rfl⟩
          subst hx
          have HK := hide (show ∀ X : World, Below x.heap.size x X → (X.cell? ⟨w.heap.size, 0, none⟩ = some (.int .i64 k) ∧ X.cell? ⟨w.heap.size, 1, none⟩ = some (.slice A' n c) ∧ X.cell? ⟨w.heap.size, 2, none⟩ = some (.int .i64 a) ∧ X.cell? ⟨w.heap.size, 3, none⟩ = some (.int .i64 b) ∧ X.cell? ⟨w.heap.size, 4, none⟩ = some (.slice B m d) ∧ X.cell? ⟨g, o, none⟩ = some (.string (bsx y))) ∧ Below x.heap.size x X from fun X hb => by
            obtain ⟨-, q0, q1, q2, q3, q4⟩ := F5.out.keep hb
            exact ⟨⟨q0, q1, q2, q3, q4, (hb.cell (World.block_lt_of_cell? _ _ c0)).trans c0⟩, hb⟩)
          have HS0 := hide (bel_drew x)
          have HKs := hide (show ∀ X Y : World, (X.cell? ⟨w.heap.size, 0, none⟩ = some (.int .i64 k) ∧ X.cell? ⟨w.heap.size, 1, none⟩ = some (.slice A' n c) ∧ X.cell? ⟨w.heap.size, 2, none⟩ = some (.int .i64 a) ∧ X.cell? ⟨w.heap.size, 3, none⟩ = some (.int .i64 b) ∧ X.cell? ⟨w.heap.size, 4, none⟩ = some (.slice B m d) ∧ X.cell? ⟨g, o, none⟩ = some (.string (bsx y))) ∧ Below x.heap.size x X → Below X.heap.size X Y → (Y.cell? ⟨w.heap.size, 0, none⟩ = some (.int .i64 k) ∧ Y.cell? ⟨w.heap.size, 1, none⟩ = some (.slice A' n c) ∧ Y.cell? ⟨w.heap.size, 2, none⟩ = some (.int .i64 a) ∧ Y.cell? ⟨w.heap.size, 3, none⟩ = some (.int .i64 b) ∧ Y.cell? ⟨w.heap.size, 4, none⟩ = some (.slice B m d) ∧ Y.cell? ⟨g, o, none⟩ = some (.string (bsx y))) ∧ Below x.heap.size x Y from fun X Y h hb => HK.out Y (bgo h.2 hb))
          have HKb := hide (show ∀ X : World, (X.cell? ⟨w.heap.size, 0, none⟩ = some (.int .i64 k) ∧ X.cell? ⟨w.heap.size, 1, none⟩ = some (.slice A' n c) ∧ X.cell? ⟨w.heap.size, 2, none⟩ = some (.int .i64 a) ∧ X.cell? ⟨w.heap.size, 3, none⟩ = some (.int .i64 b) ∧ X.cell? ⟨w.heap.size, 4, none⟩ = some (.slice B m d) ∧ X.cell? ⟨g, o, none⟩ = some (.string (bsx y))) ∧ Below x.heap.size x X → Below x.heap.size x X from fun X h => h.2)
          clear hy t0 t1 t2 t3 t4 c0
          refine wp_region_noPanic ?_
          refine wp_region_held_drew (S := fun w' => (w'.cell? ⟨w.heap.size, 0, none⟩ = some (.int .i64 k) ∧ w'.cell? ⟨w.heap.size, 1, none⟩ = some (.slice A' n c) ∧ w'.cell? ⟨w.heap.size, 2, none⟩ = some (.int .i64 a) ∧ w'.cell? ⟨w.heap.size, 3, none⟩ = some (.int .i64 b) ∧ w'.cell? ⟨w.heap.size, 4, none⟩ = some (.slice B m d) ∧ w'.cell? ⟨g, o, none⟩ = some (.string (bsx y))) ∧ Below x.heap.size x w') (by kernel_rfl) (HK.out _ HS0.out) (fun hS => ?_)
          refine wpAnyH_take (i := 0) (oi := { dst := some 35, op := Op.move (Operand.tmp 5), type := 36, pos := "law.go:122", after := #[], guard := none }) (v := .slice (some ⟨g, o, none⟩) N c3) rfl (by kernel_rfl) (by kernel_rfl) (by kernel_rfl) (fun _ _ _ h => h) (Or.inl ⟨by rfl, ?_⟩) hS ?_
          · intro w hw
            (try dsimp only at hw)
            go_simp
          try simp only [Act.put, List.setIfInBounds_toArray, List.set_cons_zero, List.set_cons_succ]
          refine wpAnyH_take (i := 1) (oi := { dst := some 36, op := Op.move (Operand.tmp 8), type := 3, pos := "law.go:122", after := #[], guard := none }) (v := .int .i64 0) rfl (by kernel_rfl) (by kernel_rfl) (by kernel_rfl) (fun _ _ _ h => h) (Or.inl ⟨by rfl, ?_⟩) hS ?_
          · intro w hw
            (try dsimp only at hw)
            go_simp
          try simp only [Act.put, List.setIfInBounds_toArray, List.set_cons_zero, List.set_cons_succ]
          refine wpAnyH_take (i := 2) (oi := { dst := some 37, op := Op.indexAddr 36 (Operand.tmp 35) (Operand.tmp 36), type := 0, pos := "law.go:122", after := #[{ on := 0, ground := Ground.data }, { on := 1, ground := Ground.data }], guard := none }) (v := .pointer (some ⟨g, o, none⟩)) rfl (by kernel_rfl) (by kernel_rfl) (by kernel_rfl) (fun _ _ _ h => h) (Or.inl ⟨by rfl, ?_⟩) hS ?_
          · intro w hw
            (try dsimp only at hw)
            go_simp
          try simp only [Act.put, List.setIfInBounds_toArray, List.set_cons_zero, List.set_cons_succ]
          refine wpAnyH_take (i := 3) (oi := { dst := some 38, op := Op.load 9 (Operand.tmp 37), type := 9, pos := "law.go:122", after := #[{ on := 2, ground := Ground.data }], guard := none }) (v := .string (bsx y)) rfl (by kernel_rfl) (by kernel_rfl) (by kernel_rfl) (fun _ _ _ h => h) (Or.inl ⟨by rfl, ?_⟩) hS ?_
          · intro w hw
            (try dsimp only at hw)
            go_simp
          try simp only [Act.put, List.setIfInBounds_toArray, List.set_cons_zero, List.set_cons_succ]
          refine wpAnyH_take (i := 4) (oi := { dst := some 39, op := Op.call { callee := Callee.builtin Builtin.len, args := #[Operand.tmp 38], argTypes := #[9] }, type := 3, pos := "law.go:122", after := #[{ on := 3, ground := Ground.data }], guard := none }) (v := .int .i64 ((bsx y).size : Int)) rfl (by kernel_rfl) (by kernel_rfl) (by kernel_rfl) (fun _ _ _ h => h) (Or.inl ⟨by rfl, ?_⟩) hS ?_
          · intro w hw
            (try dsimp only at hw)
            go_simp
          try simp only [Act.put, List.setIfInBounds_toArray, List.set_cons_zero, List.set_cons_succ]
          refine wpAnyH_take (i := 5) (oi := { dst := some 40, op := Op.binOp BinOp.gtr 3 (Operand.tmp 39) (Operand.const (Value.int IntKind.i64 16)) 3, type := 4, pos := "law.go:122", after := #[{ on := 4, ground := Ground.data }], guard := none }) (v := .bool false) rfl (by kernel_rfl) (by kernel_rfl) (by kernel_rfl) (fun _ _ _ h => h) (Or.inl ⟨by rfl, ?_⟩) hS ?_
          · intro w hw
            (try dsimp only at hw)
            go_simp
          try simp only [Act.put, List.setIfInBounds_toArray, List.set_cons_zero, List.set_cons_succ]
          refine wpAnyH_take (i := 6) (oi := { dst := some 41, op := Op.move (Operand.tmp 40), type := 4, pos := "law.go:122", after := #[{ on := 5, ground := Ground.data }], guard := none }) (v := .bool false) rfl (by kernel_rfl) (by kernel_rfl) (by kernel_rfl) (fun _ _ _ h => h) (Or.inl ⟨by rfl, ?_⟩) hS ?_
          · intro w hw
            (try dsimp only at hw)
            go_simp
          try simp only [Act.put, List.setIfInBounds_toArray, List.set_cons_zero, List.set_cons_succ]
          refine wpAnyH_take (i := 7) (oi := { dst := some 42, op := Op.load 25 (Operand.tmp 2), type := 25, pos := "law.go:122", after := #[{ on := 6, ground := Ground.guard }], guard := some (6, false) }) (v := (.agg #[.int .i64 k, .slice A' n c, .int .i64 a, .int .i64 b, .slice B m d])) rfl (by kernel_rfl) (by kernel_rfl) (by kernel_rfl) (fun _ _ _ h => h) (Or.inl ⟨by rfl, ?_⟩) hS ?_
          · intro w hw
            (try dsimp only at hw)
            go_simp
          try simp only [Act.put, List.setIfInBounds_toArray, List.set_cons_zero, List.set_cons_succ]
          refine wpAnyH_take (i := 8) (oi := { dst := some 43, op := Op.move (Operand.tmp 5), type := 36, pos := "law.go:122", after := #[{ on := 6, ground := Ground.guard }], guard := some (6, false) }) (v := .slice (some ⟨g, o, none⟩) N c3) rfl (by kernel_rfl) (by kernel_rfl) (by kernel_rfl) (fun _ _ _ h => h) (Or.inl ⟨by rfl, ?_⟩) hS ?_
          · intro w hw
            (try dsimp only at hw)
            go_simp
          try simp only [Act.put, List.setIfInBounds_toArray, List.set_cons_zero, List.set_cons_succ]
          refine wpAnyH_take (i := 9) (oi := { dst := some 44, op := Op.move (Operand.tmp 8), type := 3, pos := "law.go:122", after := #[{ on := 6, ground := Ground.guard }], guard := some (6, false) }) (v := .int .i64 0) rfl (by kernel_rfl) (by kernel_rfl) (by kernel_rfl) (fun _ _ _ h => h) (Or.inl ⟨by rfl, ?_⟩) hS ?_
          · intro w hw
            (try dsimp only at hw)
            go_simp
          try simp only [Act.put, List.setIfInBounds_toArray, List.set_cons_zero, List.set_cons_succ]
          refine wpAnyH_take (i := 10) (oi := { dst := some 45, op := Op.indexAddr 36 (Operand.tmp 43) (Operand.tmp 44), type := 0, pos := "law.go:122", after := #[{ on := 8, ground := Ground.data }, { on := 9, ground := Ground.data }, { on := 6, ground := Ground.guard }], guard := some (6, false) }) (v := .pointer (some ⟨g, o, none⟩)) rfl (by kernel_rfl) (by kernel_rfl) (by kernel_rfl) (fun _ _ _ h => h) (Or.inl ⟨by rfl, ?_⟩) hS ?_
          · intro w hw
            (try dsimp only at hw)
            go_simp
          try simp only [Act.put, List.setIfInBounds_toArray, List.set_cons_zero, List.set_cons_succ]
          refine wpAnyH_take (i := 11) (oi := { dst := some 46, op := Op.load 9 (Operand.tmp 45), type := 9, pos := "law.go:122", after := #[{ on := 10, ground := Ground.data }, { on := 6, ground := Ground.guard }], guard := some (6, false) }) (v := .string (bsx y)) rfl (by kernel_rfl) (by kernel_rfl) (by kernel_rfl) (fun _ _ _ h => h) (Or.inl ⟨by rfl, ?_⟩) hS ?_
          · intro w hw
            (try dsimp only at hw)
            go_simp
          try simp only [Act.put, List.setIfInBounds_toArray, List.set_cons_zero, List.set_cons_succ]
          refine wpAnyH_ready (rs := [12]) (by kernel_rfl) (by simp) (AllReadyH.cons rfl (fun K hK => ?_) AllReadyH.nil)
          rw [if_pos (by rfl)]
          go_simp
          with_reducible refine (HWy.out _ (V5.out.kept (HKb.out _ hS)) (T5.out.below (HKb.out _ hS))).mono ?_
          rintro e w6 ⟨rfl, hb4⟩
          have hS2 := HKs.out _ _ hS hb4
          clear hS hb4
          refine hK.out _ _ hS2 (fun hS => ?_)
          clear hK K hS2
          try simp only [Act.put, List.setIfInBounds_toArray, List.set_cons_zero, List.set_cons_succ]
          refine wpAnyH_take (i := 13) (oi := { dst := some 48, op := Op.unOp UnOp.not 4 (Operand.tmp 47), type := 4, pos := "law.go:122", after := #[{ on := 12, ground := Ground.data }, { on := 6, ground := Ground.guard }], guard := some (6, false) }) (v := .bool false) rfl (by kernel_rfl) (by kernel_rfl) (by kernel_rfl) (fun _ _ _ h => h) (Or.inl ⟨by rfl, ?_⟩) hS ?_
          · intro w hw
            (try dsimp only at hw)
            go_simp
          try simp only [Act.put, List.setIfInBounds_toArray, List.set_cons_zero, List.set_cons_succ]
          refine wpAnyH_take (i := 14) (oi := { dst := some 49, op := Op.pick (Operand.tmp 41) (Operand.const (Value.bool true)) (Operand.tmp 48), type := 4, pos := "law.go:122", after := #[{ on := 6, ground := Ground.data }, { on := 13, ground := Ground.data }], guard := none }) (v := .bool false) rfl (by kernel_rfl) (by kernel_rfl) (by kernel_rfl) (fun _ _ _ h => h) (Or.inl ⟨by rfl, ?_⟩) hS ?_
          · intro w hw
            (try dsimp only at hw)
            go_simp
          try simp only [Act.put, List.setIfInBounds_toArray, List.set_cons_zero, List.set_cons_succ]
          refine wpAnyH_take (i := 15) (oi := { dst := some 50, op := Op.move (Operand.tmp 49), type := 4, pos := "law.go:122", after := #[{ on := 14, ground := Ground.data }, { on := 12, ground := Ground.chain }], guard := none }) (v := .bool false) rfl (by kernel_rfl) (by kernel_rfl) (by kernel_rfl) (fun _ _ _ h => h) (Or.inl ⟨by rfl, ?_⟩) hS ?_
          · intro w hw
            (try dsimp only at hw)
            go_simp
          try simp only [Act.put, List.setIfInBounds_toArray, List.set_cons_zero, List.set_cons_succ]
          refine wpAnyH_take (i := 16) (oi := { dst := some 51, op := Op.move (Operand.tmp 8), type := 3, pos := "law.go:122", after := #[{ on := 15, ground := Ground.guard }], guard := some (15, false) }) (v := .int .i64 0) rfl (by kernel_rfl) (by kernel_rfl) (by kernel_rfl) (fun _ _ _ h => h) (Or.inl ⟨by rfl, ?_⟩) hS ?_
          · intro w hw
            (try dsimp only at hw)
            go_simp
          try simp only [Act.put, List.setIfInBounds_toArray, List.set_cons_zero, List.set_cons_succ]
          refine wpAnyH_take (i := 17) (oi := { dst := some 52, op := Op.binOp BinOp.gtr 3 (Operand.tmp 51) (Operand.const (Value.int IntKind.i64 0)) 3, type := 4, pos := "law.go:122", after := #[{ on := 16, ground := Ground.data }, { on := 15, ground := Ground.guard }], guard := some (15, false) }) (v := .bool false) rfl (by kernel_rfl) (by kernel_rfl) (by kernel_rfl) (fun _ _ _ h => h) (Or.inl ⟨by rfl, ?_⟩) hS ?_
          · intro w hw
            (try dsimp only at hw)
            go_simp
          try simp only [Act.put, List.setIfInBounds_toArray, List.set_cons_zero, List.set_cons_succ]
          refine wpAnyH_take (i := 18) (oi := { dst := some 53, op := Op.move (Operand.tmp 52), type := 4, pos := "law.go:122", after := #[{ on := 17, ground := Ground.data }, { on := 15, ground := Ground.chain }, { on := 15, ground := Ground.guard }], guard := some (15, false) }) (v := .bool false) rfl (by kernel_rfl) (by kernel_rfl) (by kernel_rfl) (fun _ _ _ h => h) (Or.inl ⟨by rfl, ?_⟩) hS ?_
          · intro w hw
            (try dsimp only at hw)
            go_simp
          try simp only [Act.put, List.setIfInBounds_toArray, List.set_cons_zero, List.set_cons_succ]
          refine wpAnyH_take (i := 19) (oi := { dst := some 54, op := Op.move (Operand.tmp 5), type := 36, pos := "law.go:122", after := #[{ on := 18, ground := Ground.guard }], guard := some (18, true) }) (v := undef) rfl (by kernel_rfl) (by kernel_rfl) (by kernel_rfl) (fun _ _ _ h => h) (Or.inr ⟨by rfl, rfl⟩) hS ?_
          try simp only [Act.put, List.setIfInBounds_toArray, List.set_cons_zero, List.set_cons_succ]
          refine wpAnyH_take (i := 20) (oi := { dst := some 55, op := Op.move (Operand.tmp 8), type := 3, pos := "law.go:122", after := #[{ on := 18, ground := Ground.guard }], guard := some (18, true) }) (v := undef) rfl (by kernel_rfl) (by kernel_rfl) (by kernel_rfl) (fun _ _ _ h => h) (Or.inr ⟨by rfl, rfl⟩) hS ?_
          try simp only [Act.put, List.setIfInBounds_toArray, List.set_cons_zero, List.set_cons_succ]
          refine wpAnyH_take (i := 21) (oi := { dst := some 56, op := Op.indexAddr 36 (Operand.tmp 54) (Operand.tmp 55), type := 0, pos := "law.go:122", after := #[{ on := 19, ground := Ground.data }, { on := 20, ground := Ground.data }, { on := 18, ground := Ground.guard }], guard := some (18, true) }) (v := undef) rfl (by kernel_rfl) (by kernel_rfl) (by kernel_rfl) (fun _ _ _ h => h) (Or.inr ⟨by rfl, rfl⟩) hS ?_
          try simp only [Act.put, List.setIfInBounds_toArray, List.set_cons_zero, List.set_cons_succ]
          refine wpAnyH_take (i := 22) (oi := { dst := some 57, op := Op.load 9 (Operand.tmp 56), type := 9, pos := "law.go:122", after := #[{ on := 21, ground := Ground.data }, { on := 18, ground := Ground.guard }], guard := some (18, true) }) (v := undef) rfl (by kernel_rfl) (by kernel_rfl) (by kernel_rfl) (fun _ _ _ h => h) (Or.inr ⟨by rfl, rfl⟩) hS ?_
          try simp only [Act.put, List.setIfInBounds_toArray, List.set_cons_zero, List.set_cons_succ]
          refine wpAnyH_take (i := 23) (oi := { dst := some 58, op := Op.move (Operand.tmp 5), type := 36, pos := "law.go:122", after := #[{ on := 18, ground := Ground.guard }], guard := some (18, true) }) (v := undef) rfl (by kernel_rfl) (by kernel_rfl) (by kernel_rfl) (fun _ _ _ h => h) (Or.inr ⟨by rfl, rfl⟩) hS ?_
          try simp only [Act.put, List.setIfInBounds_toArray, List.set_cons_zero, List.set_cons_succ]
          refine wpAnyH_take (i := 24) (oi := { dst := some 59, op := Op.move (Operand.tmp 8), type := 3, pos := "law.go:122", after := #[{ on := 18, ground := Ground.guard }], guard := some (18, true) }) (v := undef) rfl (by kernel_rfl) (by kernel_rfl) (by kernel_rfl) (fun _ _ _ h => h) (Or.inr ⟨by rfl, rfl⟩) hS ?_
          try simp only [Act.put, List.setIfInBounds_toArray, List.set_cons_zero, List.set_cons_succ]
          refine wpAnyH_take (i := 25) (oi := { dst := some 60, op := Op.binOp BinOp.sub 3 (Operand.tmp 59) (Operand.const (Value.int IntKind.i64 1)) 3, type := 3, pos := "law.go:122", after := #[{ on := 24, ground := Ground.data }, { on := 18, ground := Ground.guard }], guard := some (18, true) }) (v := undef) rfl (by kernel_rfl) (by kernel_rfl) (by kernel_rfl) (fun _ _ _ h => h) (Or.inr ⟨by rfl, rfl⟩) hS ?_
          try simp only [Act.put, List.setIfInBounds_toArray, List.set_cons_zero, List.set_cons_succ]
          refine wpAnyH_take (i := 26) (oi := { dst := some 61, op := Op.indexAddr 36 (Operand.tmp 58) (Operand.tmp 60), type := 0, pos := "law.go:122", after := #[{ on := 23, ground := Ground.data }, { on := 25, ground := Ground.data }, { on := 18, ground := Ground.guard }], guard := some (18, true) }) (v := undef) rfl (by kernel_rfl) (by kernel_rfl) (by kernel_rfl) (fun _ _ _ h => h) (Or.inr ⟨by rfl, rfl⟩) hS ?_
          try simp only [Act.put, List.setIfInBounds_toArray, List.set_cons_zero, List.set_cons_succ]
          refine wpAnyH_take (i := 27) (oi := { dst := some 62, op := Op.load 9 (Operand.tmp 61), type := 9, pos := "law.go:122", after := #[{ on := 26, ground := Ground.data }, { on := 18, ground := Ground.guard }], guard := some (18, true) }) (v := undef) rfl (by kernel_rfl) (by kernel_rfl) (by kernel_rfl) (fun _ _ _ h => h) (Or.inr ⟨by rfl, rfl⟩) hS ?_
          try simp only [Act.put, List.setIfInBounds_toArray, List.set_cons_zero, List.set_cons_succ]
          refine wpAnyH_take (i := 28) (oi := { dst := some 63, op := Op.binOp BinOp.leq 9 (Operand.tmp 57) (Operand.tmp 62) 9, type := 4, pos := "law.go:122", after := #[{ on := 22, ground := Ground.data }, { on := 27, ground := Ground.data }, { on := 18, ground := Ground.guard }], guard := some (18, true) }) (v := undef) rfl (by kernel_rfl) (by kernel_rfl) (by kernel_rfl) (fun _ _ _ h => h) (Or.inr ⟨by rfl, rfl⟩) hS ?_
          try simp only [Act.put, List.setIfInBounds_toArray, List.set_cons_zero, List.set_cons_succ]
          refine wpAnyH_take (i := 29) (oi := { dst := some 64, op := Op.pick (Operand.tmp 53) (Operand.tmp 63) (Operand.const (Value.bool false)), type := 4, pos := "law.go:122", after := #[{ on := 18, ground := Ground.data }, { on := 28, ground := Ground.data }, { on := 15, ground := Ground.guard }], guard := some (15, false) }) (v := .bool false) rfl (by kernel_rfl) (by kernel_rfl) (by kernel_rfl) (fun _ _ _ h => h) (Or.inl ⟨by rfl, ?_⟩) hS ?_
          · intro w hw
            (try dsimp only at hw)
            go_simp
          try simp only [Act.put, List.setIfInBounds_toArray, List.set_cons_zero, List.set_cons_succ]
          refine wpAnyH_take (i := 30) (oi := { dst := some 65, op := Op.pick (Operand.tmp 50) (Operand.const (Value.bool true)) (Operand.tmp 64), type := 4, pos := "law.go:122", after := #[{ on := 15, ground := Ground.data }, { on := 29, ground := Ground.data }], guard := none }) (v := .bool false) rfl (by kernel_rfl) (by kernel_rfl) (by kernel_rfl) (fun _ _ _ h => h) (Or.inl ⟨by rfl, ?_⟩) hS ?_
          · intro w hw
            (try dsimp only at hw)
            go_simp
          try simp only [Act.put, List.setIfInBounds_toArray, List.set_cons_zero, List.set_cons_succ]
          refine wpAnyH_done (by kernel_rfl) ?_ _
          refine NoPanic.normal ?_
          have hX := HKb.out _ hS
          have B6 := hide (bgo B5.out hX)
          obtain ⟨⟨q0, q1, q2, q3, q4, q5⟩, -⟩ := hS
          clear HK HS0 HKs HKb hi0 hi1
          cases p with
          | true =>
            have HN := hide (show true = decide (s.data.toList ∈ L.take (0 + 1)) from by rw [Hst.out, Hp.out]; rfl)
            go_wp2
            go_roundw
            case rel => exact ⟨0 + 1, by omega, by go_num, by rw [← HN.out], B6.out⟩
            case measure => simp [intOf]; omega
          | false =>
            by_cases he : y = s.data.toList
            · have hse : ((bsx y).toList == s.toList) = true := by rw [bsx_to, ByteArray.toList_eq, he]; simp
              have HN := hide (show true = decide (s.data.toList ∈ L.take (0 + 1)) from by rw [Hst.out, decide_eq_true he]; simp)
              clear he
              go_wp2
              go_roundw
              case rel => exact ⟨0 + 1, by omega, by go_num, by rw [← HN.out], B6.out⟩
              case measure => simp [intOf]; omega
            · have hse : ((bsx y).toList == s.toList) = false := by rw [bsx_to, ByteArray.toList_eq]; exact beq_eq_false_iff_ne.2 he
              have HN := hide (show false = decide (s.data.toList ∈ L.take (0 + 1)) from by rw [Hst.out, Hp.out, decide_eq_false he]; rfl)
              clear he
              go_wp2
              go_roundw
              case rel => exact ⟨0 + 1, by omega, by go_num, by rw [← HN.out], B6.out⟩
              case measure => simp [intOf]; omega
        · obtain ⟨j, hj⟩ : ∃ j, i = j + 1 := ⟨i - 1, by omega⟩
          have hi0 : decide ((0 : Int) < (i : Int)) = true := decide_eq_true (by omega)
          have hi1 : decide (0 < i) = true := decide_eq_true (by omega)
          obtain ⟨ad', z, e1, hz, hc2⟩ := str_cell S5.out.reads (show j < N by omega)
          cases e1
          have hle : bytesLess z y = true := by
            have hp := Hgood.out.1
            have h1 := (List.getElem?_eq_some_iff.1 hz)
            have h2 := (List.getElem?_eq_some_iff.1 hy)
            obtain ⟨l1, e1⟩ := h1
            obtain ⟨l2, e2⟩ := h2
            rw [← e1, ← e2]
            exact List.pairwise_iff_getElem.1 hp j i l1 l2 (by omega)
          have hls := str_less y z false (less_asymm hle)
          have hlq : ((bsx y).toList == (bsx z).toList) = false := str_ne fun e => by rw [e, less_irr] at hle; cases hle
          have hj1 : ((i : Int) - 1) = (j : Int) := by omega
          have hj2 : IntKind.i64.wrap (j : Int) = (j : Int) := by simp [IntKind.wrap, IntKind.signed, IntKind.bits]; omega
          have hj3 : (j : Int) < (N : Int) := by omega
          have hj4 : ¬ (N : Int) ≤ (j : Int) := by omega
          have Hj := hide hj
          clear hj hle h0
          go_wp2_with fail
          obtain ⟨x, hx⟩ : ∃ x, x = w5 := ⟨_, rfl⟩
          subst hx
          have HK := hide (show ∀ X : World, Below x.heap.size x X → (X.cell? ⟨w.heap.size, 0, none⟩ = some (.int .i64 k) ∧ X.cell? ⟨w.heap.size, 1, none⟩ = some (.slice A' n c) ∧ X.cell? ⟨w.heap.size, 2, none⟩ = some (.int .i64 a) ∧ X.cell? ⟨w.heap.size, 3, none⟩ = some (.int .i64 b) ∧ X.cell? ⟨w.heap.size, 4, none⟩ = some (.slice B m d) ∧ X.cell? (ad.add i) = some (.string (bsx y)) ∧ X.cell? (ad.add j) = some (.string (bsx z))) ∧ Below x.heap.size x X from fun X hb => by
            obtain ⟨-, q0, q1, q2, q3, q4⟩ := F5.out.keep hb
            obtain ⟨ad', y', e1, e2, e3⟩ := str_cell (S5.out.below hb).reads hlt
            cases e1
            rw [hy] at e2
            cases e2
            obtain ⟨ad', z', e1, e2, e4⟩ := str_cell (S5.out.below hb).reads (show j < N by omega)
            cases e1
            rw [hz] at e2
            cases e2
            exact ⟨⟨q0, q1, q2, q3, q4, e3, e4⟩, hb⟩)
          have HS0 := hide (bel_drew x)
          have HKs := hide (show ∀ X Y : World, (X.cell? ⟨w.heap.size, 0, none⟩ = some (.int .i64 k) ∧ X.cell? ⟨w.heap.size, 1, none⟩ = some (.slice A' n c) ∧ X.cell? ⟨w.heap.size, 2, none⟩ = some (.int .i64 a) ∧ X.cell? ⟨w.heap.size, 3, none⟩ = some (.int .i64 b) ∧ X.cell? ⟨w.heap.size, 4, none⟩ = some (.slice B m d) ∧ X.cell? (ad.add i) = some (.string (bsx y)) ∧ X.cell? (ad.add j) = some (.string (bsx z))) ∧ Below x.heap.size x X → Below X.heap.size X Y → (Y.cell? ⟨w.heap.size, 0, none⟩ = some (.int .i64 k) ∧ Y.cell? ⟨w.heap.size, 1, none⟩ = some (.slice A' n c) ∧ Y.cell? ⟨w.heap.size, 2, none⟩ = some (.int .i64 a) ∧ Y.cell? ⟨w.heap.size, 3, none⟩ = some (.int .i64 b) ∧ Y.cell? ⟨w.heap.size, 4, none⟩ = some (.slice B m d) ∧ Y.cell? (ad.add i) = some (.string (bsx y)) ∧ Y.cell? (ad.add j) = some (.string (bsx z))) ∧ Below x.heap.size x Y from fun X Y h hb => HK.out Y (bgo h.2 hb))
          have HKb := hide (show ∀ X : World, (X.cell? ⟨w.heap.size, 0, none⟩ = some (.int .i64 k) ∧ X.cell? ⟨w.heap.size, 1, none⟩ = some (.slice A' n c) ∧ X.cell? ⟨w.heap.size, 2, none⟩ = some (.int .i64 a) ∧ X.cell? ⟨w.heap.size, 3, none⟩ = some (.int .i64 b) ∧ X.cell? ⟨w.heap.size, 4, none⟩ = some (.slice B m d) ∧ X.cell? (ad.add i) = some (.string (bsx y)) ∧ X.cell? (ad.add j) = some (.string (bsx z))) ∧ Below x.heap.size x X → Below x.heap.size x X from fun X h => h.2)
          clear hy hz t0 t1 t2 t3 t4 hc1 hc2 
          go_region_held3 (fun w' => (w'.cell? ⟨w.heap.size, 0, none⟩ = some (.int .i64 k) ∧ w'.cell? ⟨w.heap.size, 1, none⟩ = some (.slice A' n c) ∧ w'.cell? ⟨w.heap.size, 2, none⟩ = some (.int .i64 a) ∧ w'.cell? ⟨w.heap.size, 3, none⟩ = some (.int .i64 b) ∧ w'.cell? ⟨w.heap.size, 4, none⟩ = some (.slice B m d) ∧ w'.cell? (ad.add i) = some (.string (bsx y)) ∧ w'.cell? (ad.add j) = some (.string (bsx z))) ∧ Below x.heap.size x w')
            (first | exact HK.out _ HS0.out | exact HKs.out _ _ (by assumption) hb4 | assumption)
            (first
              | (go_at_call 13; (with_reducible refine (HWy.out _ (V5.out.kept (HKb.out _ ?_)) (T5.out.below (HKb.out _ ?_))).mono ?_); assumption; assumption; rintro e w6 ⟨rfl, hb4⟩))
          have hX := HKb.out _ (by assumption)
          have B6 := hide (bgo B5.out hX)
          obtain ⟨ad', y', e1, e2, hc3⟩ := str_cell (S5.out.below hX).reads hlt
          cases e1
          rw [Hy.out] at e2
          cases e2
          clear HK HS0 HKs HKb hX hj1 hj2 hj3 hj4 hls hlq hi0 hi1
          cases p with
          | true =>
            have HN := hide (show true = decide (s.data.toList ∈ L.take (i + 1)) from by rw [Hst.out, Hp.out]; rfl)
            go_wp2
            go_roundw
            case rel => exact ⟨i + 1, by omega, by go_num, by rw [← HN.out], B6.out⟩
            case measure => simp [intOf]; omega
          | false =>
            by_cases he : y = s.data.toList
            · have hse : ((bsx y).toList == s.toList) = true := by rw [bsx_to, ByteArray.toList_eq, he]; simp
              have HN := hide (show true = decide (s.data.toList ∈ L.take (i + 1)) from by rw [Hst.out, decide_eq_true he]; simp)
              clear he
              go_wp2
              go_roundw
              case rel => exact ⟨i + 1, by omega, by go_num, by rw [← HN.out], B6.out⟩
              case measure => simp [intOf]; omega
            · have hse : ((bsx y).toList == s.toList) = false := by rw [bsx_to, ByteArray.toList_eq]; exact beq_eq_false_iff_ne.2 he
              have HN := hide (show false = decide (s.data.toList ∈ L.take (i + 1)) from by rw [Hst.out, Hp.out, decide_eq_false he]; rfl)
              clear he
              go_wp2
              go_roundw
              case rel => exact ⟨i + 1, by omega, by go_num, by rw [← HN.out], B6.out⟩
              case measure => simp [intOf]; omega

      · have hlt' : ¬ (i : Int) < (N : Int) := by omega
        have hall : L.take i = L := List.take_of_length_le (by rw [HNl.out]; omega)
        have hN8' : (N : Int) ≤ 8 := by omega
        have hpp : decide (s.data.toList ∈ L) = p := by rw [← Hp.out, hall]
        have HWp := hide (show Calls Tryz.prog 13 #[.agg #[.int .i64 k, .slice A' n c, .int .i64 a, .int .i64 b, .slice B m d], .string s] w5 fun e w' => e = .returned (.bool p) ∧ Below w5.heap.size w5 w' from by rw [← hpp]; exact HWs.out _ V5.out T5.out)
        have hqq : (p == p) = true := by simp
        clear hall hpp
        go_wp2_with fail
        with_reducible refine HWp.out.mono ?_
        rintro e w6 ⟨rfl, hb⟩
        have B6 := hide (bgo B4.out (bgo B5.out hb))
        clear hb
        go_wp2
        go_ret
        exact ⟨rfl, B6.out⟩
end Go.Proofs.YtlnbjdlooghpeaaGreatDoor
