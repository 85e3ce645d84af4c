/- Layer 9: D6, D7, D8, D9. -/
import Derived.Test.YtkghbhcjgogaeaaDoorGf
import Derived.Test.YtkghbhcjgogaeaaDoorGa
import Derived.Laws.ResultCell
import Derived.Deep.Cut
/-! ### D6 -/
namespace Go.Proofs.YtkghbhcjgogaeaaDoor
open Go.RowKit
open Go.ChangeShapes (block_add)

/-- All of the mirrored ones. -/
def AllMirror : Prop := ∀ r : Rx, nodeR r = 0 → sizeR r ≤ 1000000 → Mirrors r
theorem begins_at (hM : AllMirror) (s : ByteArray) (hs : s.size ≤ 60) (r : Rx) (h0 : rightR r = 0) (W : World) (ok : Nat → Prop) (v : Value) (hv : RxV W ok v r) (hT : HasT W) :
    Calls Tryd.prog 34 #[v, .string s] W (GrewI W (natI (bgsC r s.data.toList))) := by
  obtain ⟨hn, hsz⟩ := right_node h0
  have h := begin34 s hs r (hM r hn (by omega)) (step29 (revS s) (by rw [revS_size]; exact hs) (mirR r) (node_mir r hn) (by rw [mir_size]; omega)) W ok v hv hT
  rw [← bgs_is r s.data.toList hn (allC s.data.toList.length) (all_len _) (fun j => all_on _ j)]
  rw [← strlen s] at h
  exact h
theorem bgs_len (r : Rx) (s : List UInt8) : (bgsC r s).length ≤ s.length + 1 := by
  unfold bgsC
  exact Nat.le_trans (List.length_filter_le _ _) (by simp)
theorem natI_at {l : List Nat} {k a : Nat} (h : l[k]? = some a) : (natI l)[k]? = some (a : Int) := by simp [natI, h]
/-- A span and whether there is one. -/
def findV : Option (Nat × Nat) → Value
  | some (a, b) => .tuple #[.agg #[.int .i64 (a : Int), .int .i64 (b : Int)], .bool true]
  | none => .tuple #[.agg #[.int .i64 0, .int .i64 0], .bool false]
theorem res_pair {fn : Func} (h : fn.results = #[.cell 6 32, .tmp 7]) (tmps : Array Value) (W : World) (b : Nat) (x y z : Value) (hp : tmps.getD 6 undef = .pointer (some ⟨b, 0, none⟩)) (hz : tmps.getD 7 undef = z) (hf : W.heap[b]? = some (.cells #[x, y] 32 (0, 0))) :
    (results fn tmps).run Tryd.prog W = .ok (.tuple #[.agg #[x, y], z]) W := by
  have hp' : tmps[6]?.getD undef = .pointer (some ⟨b, 0, none⟩) := by simpa using hp
  have hz' : tmps[7]?.getD undef = z := by simpa using hz
  simp [results, h, hp', hz', asAddr, load_two32 hf]
set_option maxRecDepth 100000 in
set_option maxHeartbeats 4000000 in
theorem find14 (hM : AllMirror) (s : ByteArray) (hs : s.size ≤ 60) (r : Rx) (h1 : sizeR r ≤ 1000000) (h2 : depthR r ≤ 1000000) (from_ : Int) (W : World) (ok : Nat → Prop) (v : Value) (hv : RxV W ok v r) (hT : HasT W) :
    Calls Tryd.prog 14 #[v, .string s, .int .i64 from_] W fun e w' => e = .returned (findV (findP r s.data.toList from_)) ∧ Below W.heap.size W w' := by
  have hlen := strlen s
  have hv0 := hv
  cases hv with
  | mk k a b A B n c m d set vs l hset hvs hl hk ha hb hr =>
  have hB := bnew (bnew (Below.refl _ W) (.cells #[.int .i64 k, .slice A n c, .int .i64 a, .int .i64 b, .slice B m d] 25)) (.cells #[.int .i64 0, .int .i64 0] 32)
  obtain ⟨W1, hW1⟩ : ∃ W1, (W.alloc (.cells #[.int .i64 k, .slice A n c, .int .i64 a, .int .i64 b, .slice B m d] 25)).alloc (.cells #[.int .i64 0, .int .i64 0] 32) = W1 := ⟨_, rfl⟩
  have f1 : Five ((W.alloc (.cells #[.int .i64 k, .slice A n c, .int .i64 a, .int .i64 b, .slice B m d] 25)).alloc (.cells #[.int .i64 0, .int .i64 0] 32)) W.heap.size (.int .i64 k) (.slice A n c) (.int .i64 a) (.int .i64 b) (.slice B m d) := (five_new W _ _ _ _ _ 25).keep (bnew (Below.refl _ _) _)
  have q1 : W1.heap[W.heap.size + 1]? = some (.cells #[.int .i64 0, .int .i64 0] 32 (0, 0)) := by
    rw [← hW1]
    have := heap_alloc_new (W.alloc (.cells #[.int .i64 k, .slice A n c, .int .i64 a, .int .i64 b, .slice B m d] 25)) (.cells #[.int .i64 0, .int .i64 0] 32)
    rw [World.size_alloc] at this
    exact this
  rw [hW1] at hB
  obtain ⟨r, hr'⟩ : ∃ r, Rx.mk k set a b l = r := ⟨_, rfl⟩
  rw [hr'] at hv0 h1 h2 ⊢
  have V1 := hide (hv0.kept hB)
  have B1 := hide hB
  have HT1 := hide (hT.below hB)
  have HR := hide (pright27 V1.out h1 h2)
  have HW1 := hide hW1
  have F1 := hide (hW1 ▸ f1)
  have Q1 := hide q1
  obtain ⟨_, t0, t1, t2, t3, t4⟩ := f1
  obtain ⟨q, hq⟩ : ∃ q, rightR r = q := ⟨_, rfl⟩
  rw [hq] at HR
  clear hset hvs hl hk ha hb hr hB hv0 hT hr' hW1 q1
  by_cases c3 : q = 0
  · have hne : (q != 0) = false := int_eq c3
    subst c3
    have Hq := hide hq
    clear hq
    go_enter Tryd.func14, Tryd.ntmps14
    go_wp2_with fail
    rw [HW1.out]
    with_reducible refine HR.out.mono ?_
    rintro e w2 ⟨rfl, hb2⟩
    have HB := hide (begins_at hM s hs r Hq.out w2 ok _ (V1.out.kept hb2) (HT1.out.below hb2))
    have B2 := hide (bgo B1.out hb2)
    have B12 := hide hb2
    clear t0 t1 t2 t3 t4
    obtain ⟨_, t0, t1, t2, t3, t4⟩ := F1.out.keep hb2
    clear hb2
    go_wp2_with fail
    with_reducible refine HB.out.mono ?_
    rintro e w3 hgr
    obtain ⟨Ab, nb, cb, rfl, hnb, hslb, hb3⟩ := hgr.sl
    have hb13 := B12.out.trans (hb3.mono B12.out.size)
    have hbl := bgs_len r s.data.toList
    have hnb' : nb = (bgsC r s.data.toList).length := by rw [hnb, natI_len]
    have Sl3 := hide hslb
    have B3 := hide (bgo B2.out hb3)
    have B13 := hide hb13
    have F3 := F1.out.keep hb13
    clear t0 t1 t2 t3 t4
    obtain ⟨_, t0, t1, t2, t3, t4⟩ := F3
    have Q3 := hide ((hb13.block _ (lt_of_block Q1.out)).trans Q1.out)
    have q3 := two_cell Q3.out
    clear hgr hslb hb3 hb13 hnb
    go_wp2
    go_loopw [18] (fun y wr => ∃ i : Nat, i ≤ nb ∧ y = .int .i64 (i : Int) ∧ (∀ x ∈ (bgsC r s.data.toList).take i, (x : Int) < from_) ∧ wr = w3) (fun y _ => nb - (intOf y).toNat)
    case atStart => exact ⟨0, Nat.zero_le _, rfl, fun x hx => (by simp at hx), rfl⟩
    case round =>
      obtain ⟨i, hi, rfl, hlow, rfl⟩ := hrel
      have Hlow := hide hlow
      by_cases hlt : i < nb
      · obtain ⟨ad, z, rfl, hz, hcell⟩ := num_cell Sl3.out.reads hlt
        obtain ⟨x, hx⟩ : ∃ x, (bgsC r s.data.toList)[i]? = some x := ⟨_, List.getElem?_eq_getElem (by omega)⟩
        have hzx : z = (x : Int) := by
          have := natI_at hx
          rw [hz] at this
          exact Option.some.inj this
        subst hzx
        have hxs := ((bgs_mem r s.data.toList x).1 (List.mem_of_getElem? hx)).1
        rw [hlen] at hxs
        have Hx := hide hx
        have hd : decide ((i : Int) < (nb : Int)) = true := decide_eq_true (by omega)
        have hd2 : decide (i < nb) = true := decide_eq_true hlt
        clear hlow hx hz
        by_cases hge : from_ ≤ (x : Int)
        · have hd3 : decide (from_ ≤ (x : Int)) = true := decide_eq_true hge
          have hres := find_at r s.data.toList Hq.out from_ i x Hx.out Hlow.out hge
          have Hres := hide hres
          have HM := hide (step29 s hs r (right_node Hq.out).1 (by have := (right_node Hq.out).2; omega) wr ok _ (V1.out.kept B13.out) (HT1.out.below B13.out))
          clear hres
          go_wp2_with fail
          with_reducible refine HM.out.mono ?_
          rintro e w5 ⟨sv, rfl, hsv, hb5⟩
          have hf : (stepC r s.data.toList (onlyC s.data.toList.length x)).length = s.data.toList.length + 1 := stepC_len r _ _ (only_len _ _)
          have HL := hide (longest35 s.data.toList.length x (by rw [hlen]; omega) (by rw [hlen]; omega) _ hf sv w5 (hsv.ok (Kept.of (Below.refl _ w5))) ((HT1.out.below B13.out).below hb5))
          have Q5 := hide ((hb5.block _ (lt_of_block Q3.out)).trans Q3.out)
          have B5 := hide (bgo B3.out hb5)
          clear hsv hb5 hf
          go_wp2_with fail
          with_reducible refine HL.out.mono ?_
          rintro e w6 ⟨rfl, hb6⟩
          have Q6 := hide ((hb6.block _ (lt_of_block Q5.out)).trans Q5.out)
          obtain ⟨z0, z1, g0, g1⟩ := two_cell Q6.out
          have B6 := hide (bgo B5.out hb6)
          clear hb6
          go_wp2
          refine bodyPost_ret (res_pair rfl _ _ (W.heap.size + 1) _ _ _ rfl rfl (two_set (two_set0 Q6.out))) rfl ⟨?_, ?_⟩
          · rw [Hres.out]; rfl
          · exact (B6.out.setCell (by show W.heap.size ≤ W.heap.size + 1; omega) _).setCell (by show W.heap.size ≤ W.heap.size + 1; omega) _
        · have hd3 : decide (from_ ≤ (x : Int)) = false := decide_eq_false hge
          go_wp2
          go_roundw
          case rel =>
            refine ⟨i + 1, by omega, by go_num, fun y hy => ?_, trivial⟩
            rw [take_next Hx.out, List.mem_append, List.mem_singleton] at hy
            rcases hy with hy | rfl
            · exact Hlow.out y hy
            · omega
          case measure => simp [intOf]; omega
      · obtain rfl : i = nb := by omega
        have hres := find_none r s.data.toList from_ (by rw [List.take_of_length_le (by omega)] at hlow; exact hlow)
        have Hres := hide hres
        obtain ⟨z0, z1, g0, g1⟩ := q3
        clear hres hlow
        go_wp2
        refine bodyPost_ret (res_pair rfl _ _ (W.heap.size + 1) _ _ _ rfl rfl (two_set (two_set0 Q3.out))) rfl ⟨?_, ?_⟩
        · rw [Hres.out]; rfl
        · exact (B3.out.setCell (by show W.heap.size ≤ W.heap.size + 1; omega) _).setCell (by show W.heap.size ≤ W.heap.size + 1; omega) _
  · have hne : (q != 0) = true := int_ne c3
    have he : findP r s.data.toList from_ = none := by unfold findP; rw [if_neg (by omega)]
    rw [he]
    clear he hq
    go_enter Tryd.func14, Tryd.ntmps14
    go_wp2_with fail
    rw [HW1.out]
    with_reducible refine HR.out.mono ?_
    rintro e w2 ⟨rfl, hb2⟩
    have B2 := hide (bgo B1.out hb2)
    have Q2 := hide ((hb2.block _ (lt_of_block Q1.out)).trans Q1.out)
    obtain ⟨z0, z1, g0, g1⟩ := two_cell Q2.out
    clear hb2
    go_wp2
    refine bodyPost_ret (res_pair rfl _ _ (W.heap.size + 1) _ _ _ rfl rfl (two_set (two_set0 Q2.out))) rfl ⟨rfl, ?_⟩
    exact (B2.out.setCell (by show W.heap.size ≤ W.heap.size + 1; omega) _).setCell (by show W.heap.size ≤ W.heap.size + 1; omega) _
end Go.Proofs.YtkghbhcjgogaeaaDoor
/-! ### D7 -/
namespace Go.Proofs.YtkghbhcjgogaeaaDoor
open Go.RowKit
open Go.ChangeShapes (block_add)

theorem info32 : (Tryd.prog.info? 32).map (fun i => (i.zero, i.size, i.bytes)) = some (some (.agg #[.int .i64 0, .int .i64 0]), 2, 16) := by kernel_rfl
def spanC (l : List (Nat × Nat)) : List Value := l.flatMap fun p => [.int .i64 (p.1 : Int), .int .i64 (p.2 : Int)]
theorem spanC_snoc (l : List (Nat × Nat)) (a b : Nat) : spanC l ++ [.int .i64 (a : Int), .int .i64 (b : Int)] = spanC (l ++ [(a, b)]) := by simp [spanC]
/-- A slice of spans of the call's own. -/
def OwnS (w : World) (B : Nat) (v : Value) (l : List (Nat × Nat)) : Prop := w.ownsRow B 32 2 v l.length (spanC l)
theorem pair_at (w : World) (x y : Value) (T : TypeId) : ∀ (j : Nat) (u : Value), [x, y][j]? = some u → (w.alloc (.cells #[x, y] T)).cell? ((⟨w.heap.size, 0, none⟩ : Addr).add j) = some u := by
  intro j u h
  match j, h with
  | 0, h => simp at h; subst h; rw [addr0, World.cell?_alloc_mark]; rfl
  | 1, h => simp at h; subst h; rw [addr0, World.cell?_alloc_mark]; rfl
set_option maxRecDepth 100000 in
set_option maxHeartbeats 4000000 in
theorem all21 (hM : AllMirror) (s : ByteArray) (hs : s.size ≤ 60) (r : Rx) (h1 : sizeR r ≤ 1000000) (h2 : depthR r ≤ 1000000) (W : World) (ok : Nat → Prop) (v : Value) (hv : RxV W ok v r) (hT : HasT W) :
    Calls Tryd.prog 21 #[v, .string s] W fun e w' => ∃ u, e = .returned u ∧ OwnS w' W.heap.size u (allP r s.data.toList) ∧ Below W.heap.size W w' := by
  obtain ⟨i0, hi, hz0, hz1, hz2⟩ := info_parts info32
  have hlen := strlen s
  have hv0 := hv
  cases hv with
  | mk k a b A B n c m d set vs l hset hvs hl hk ha hb hr =>
  have hB := bnew (Below.refl _ W) (.cells #[.int .i64 k, .slice A n c, .int .i64 a, .int .i64 b, .slice B m d] 25)
  have F := hide (five_new W (.int .i64 k) (.slice A n c) (.int .i64 a) (.int .i64 b) (.slice B m d) 25)
  have V := hide (hv0.kept hB)
  have BB := hide hB
  have HT := hide (hT.below hB)
  obtain ⟨_, t0, t1, t2, t3, t4⟩ := F.out
  obtain ⟨r, hr'⟩ : ∃ r, Rx.mk k set a b l = r := ⟨_, rfl⟩
  rw [hr'] at V h1 h2 ⊢
  clear hset hvs hl hk ha hb hr hB hv0 hT hr'
  have HR := hide (pright27 V.out h1 h2)
  obtain ⟨q, hq⟩ : ∃ q, rightR r = q := ⟨_, rfl⟩
  rw [hq] at HR
  by_cases c3 : q = 0
  · have hne : (q != 0) = false := int_eq c3
    subst c3
    have Hq := hide hq
    have Hn := hide (right_node hq)
    clear hq
    have HM := hide (step29 s hs r Hn.out.1 (by have := Hn.out.2; omega))
    go_enter Tryd.func21, Tryd.ntmps21
    go_wp2_with fail
    with_reducible refine HR.out.mono ?_
    rintro e w2 ⟨rfl, hb2⟩
    have B2 := hide (bgo BB.out hb2)
    have B02 := hide hb2
    have HC := hide (HM.out w2 ok _ (V.out.kept hb2) (HT.out.below hb2))
    clear t0 t1 t2 t3 t4
    obtain ⟨_, t0, t1, t2, t3, t4⟩ := F.out.keep hb2
    clear hb2
    go_wp2_with fail
    with_reducible refine HC.out.mono ?_
    rintro e w3 ⟨sv, rfl, hsv, hb3⟩
    have hb03 := bgo B02.out hb3
    have Hst := hide (hsv.ok (Kept.of (Below.refl _ w3)))
    have HG := hide (begins_at hM s hs r Hq.out w3 ok _ (V.out.kept hb03) (HT.out.below hb03))
    have HT3 := hide (HT.out.below hb03)
    have B3 := hide (bgo B2.out hb3)
    clear t0 t1 t2 t3 t4
    obtain ⟨_, t0, t1, t2, t3, t4⟩ := F.out.keep hb03
    clear hsv hb3 hb03
    go_wp2_with fail
    with_reducible refine HG.out.mono ?_
    rintro e w4 hgr
    obtain ⟨Ab, nb, cb, rfl, hnb, hslb, hb4⟩ := hgr.sl
    have hbl := bgs_len r s.data.toList
    have hnb' : nb = (bgsC r s.data.toList).length := by rw [hnb, natI_len]
    have Sl4 := hide hslb
    have B4 := hide (bgo B3.out hb4)
    have St4 := hide (Hst.out.below hb4)
    have HT4 := hide (HT3.out.below hb4)
    clear hgr hslb hb4 hnb t0 t1 t2 t3 t4
    go_wp2
    go_loopw [5, 7, 21] (fun u f y wr => ∃ (i : Nat) (p : List (Nat × Nat) × Nat), i ≤ nb ∧ y = .int .i64 (i : Int) ∧ f = .int .i64 (p.2 : Int) ∧ ((bgsC r s.data.toList).take i).foldl (stepA r s.data.toList) ([], 0) = p ∧ p.1.length ≤ i ∧ p.2 ≤ s.size ∧ OwnS wr w4.heap.size u p.1 ∧ Below w4.heap.size w4 wr)
      (fun _ _ y _ => nb - (intOf y).toNat)
    case atStart => exact ⟨0, ([], 0), Nat.zero_le _, rfl, rfl, rfl, Nat.le_refl _, Nat.zero_le _, World.ownsRow_nil _ _ _ _, Below.refl _ _⟩
    case round =>
      obtain ⟨i, p, hib, rfl, rfl, hp, hpl, hpf, hown, hbel⟩ := hrel
      obtain ⟨w5, hw5⟩ : ∃ w5, w5 = wr := ⟨wr, rfl⟩
      subst hw5
      by_cases hlt : i < nb
      · obtain ⟨ad, z, rfl, hz, hcell0⟩ := num_cell Sl4.out.reads hlt
        have hcell := (hbel.cell (p := ad.add i) (World.block_lt_of_cell? _ _ hcell0)).trans hcell0
        obtain ⟨x, hx⟩ : ∃ x, (bgsC r s.data.toList)[i]? = some x := ⟨_, List.getElem?_eq_getElem (by omega)⟩
        have hzx : z = (x : Int) := by
          have := natI_at hx
          rw [hz] at this
          exact Option.some.inj this
        subst hzx
        have hxm := List.mem_of_getElem? hx
        have hxs := ((bgs_mem r s.data.toList x).1 hxm).1
        rw [hlen] at hxs
        have Hx := hide hx
        have Hp := hide hp
        have hd : decide ((i : Int) < (nb : Int)) = true := decide_eq_true (by omega)
        have hd2 : decide (i < nb) = true := decide_eq_true hlt
        have O := hide hown
        have B5 := hide hbel
        by_cases hge : x < p.2
        · have hd3 : decide ((x : Int) < (p.2 : Int)) = true := decide_eq_true (by omega)
          have hd4 : decide (x < p.2) = true := decide_eq_true hge
          clear hx hp hz hown hbel hcell0
          go_wp2
          go_roundw
          case rel =>
            refine ⟨i + 1, p, by omega, by go_num, rfl, ?_, by omega, hpf, O.out, B5.out⟩
            rw [take_next Hx.out, List.foldl_append, Hp.out]
            show stepA r s.data.toList p x = p
            unfold stepA
            rw [if_pos hge]
          case measure => simp [intOf]; omega
        · have hd3 : decide ((x : Int) < (p.2 : Int)) = false := decide_eq_false (by omega)
          have hd4 : decide (x < p.2) = false := decide_eq_false hge
          have hf : (stepC r s.data.toList (onlyC s.data.toList.length x)).length = s.data.toList.length + 1 := stepC_len r _ _ (only_len _ _)
          obtain ⟨hl1, hl2⟩ := last_ge r s.data.toList Hn.out.1 x hxm
          rw [hlen] at hl2
          have HL := hide (show Calls Tryd.prog 35 #[sv, .int .i64 (x : Int)] w5 fun e w' => e = .returned (.agg #[.int .i64 (x : Int), .int .i64 (lastE r s.data.toList x : Nat)]) ∧ Below w5.heap.size w5 w' from
            longest35 s.data.toList.length x (by rw [hlen]; omega) (by rw [hlen]; omega) _ hf sv w5 (St4.out.below hbel) (HT4.out.below hbel))
          obtain ⟨b, hb⟩ : ∃ b, lastE r s.data.toList x = b := ⟨_, rfl⟩
          rw [hb] at HL hl1 hl2
          have Hb := hide hb
          have hw4 := hbel.size
          clear hx hp hz hown hbel hcell0 hf hb
          go_wp2_with fail
          with_reducible refine HL.out.mono ?_
          rintro e w6 ⟨rfl, hb6⟩
          obtain ⟨w7, hw7⟩ : ∃ w7, w6.alloc (.cells #[.int .i64 (x : Int), .int .i64 (b : Int)] 32) = w7 := ⟨_, rfl⟩
          have b67 : Below w6.heap.size w6 w7 := by rw [← hw7]; exact bnew (Below.refl _ _) _
          have q7 : w7.heap[w6.heap.size]? = some (.cells #[.int .i64 (x : Int), .int .i64 (b : Int)] 32 (0, 0)) := by rw [← hw7]; exact heap_alloc_new _ _
          obtain ⟨z0, z1, -, -⟩ := two_cell (hw7 ▸ q7 : (w6.alloc (.cells #[.int .i64 (x : Int), .int .i64 (b : Int)] 32)).heap[w6.heap.size]? = _)
          have b57 := bgo hb6 b67
          have hown7 := owns_below' O.out b57
          have HW7 := hide hw7
          have Q7 := hide q7
          have B57 := hide b57
          have hw45 := B57.out.size
          have hsz6 := hb6.size
          have hw45' : w4.heap.size ≤ w7.heap.size := Nat.le_trans hw4 hw45
          clear hw7 b67 q7 b57 hb6
          go_upto_region 11 with fail
          rw [HW7.out]
          rw [HW7.out] at z0 z1
          have hown8 := hown7.alloc (.cells #[.int .i64 (x : Int), .int .i64 (b : Int)] 32)
          go_wp2_with (at_builtin; refine wpList_append_own _ rfl (.tmp 31) (.tmp 33) 37 rfl w4.heap.size 32 i0 _ 2 16 Tryd.underlying37 hi hz0 hz1 hz2 rfl (by decide) _ _ _ rfl hown8 ⟨w7.heap.size, 0, none⟩ 1 1 [.int .i64 (x : Int), .int .i64 (b : Int)] rfl rfl (pair_at _ _ _ _) (c2_two _ _ _) (by unfold maxLen; omega) (by omega) (by simp; omega) ?_)
          intro v' w8 hown' hg _
          have hlow : ∀ q, u5.ownBlock = some q → w4.heap.size ≤ q ∧ q < w5.heap.size := fun q hq => World.ownsRow.lt O.out q hq
          have hd : Turns (fun q => u5.ownBlock = some q) w7 w8 := (Turns.of_below (bnew (Below.refl _ w7) (.cells #[.int .i64 (x : Int), .int .i64 (b : Int)] 32))).grown hg fun q hq => hq
          have h6l := lt_of_block Q7.out
          have h56 : w5.heap.size ≤ w6.heap.size := hsz6
          have q8 := (hd.block w6.heap.size h6l (fun h => by have := (hlow _ h).2; omega)).trans Q7.out
          obtain ⟨y0, y1, -, -⟩ := two_cell q8
          have O8 := hide hown'
          have B8 := hide ((B5.out.trans (B57.out.mono hw4)).trans (hd.below hw45' fun q h => (hlow q h).1))
          clear hown7 hown8 hown' hg hd q8 z0 z1
          go_wp2
          go_roundw
          case rel =>
            refine ⟨i + 1, (p.1 ++ [(x, b)], b), by omega, by go_num, rfl, ?_, by simp; omega, hl2, ?_, B8.out⟩
            · rw [take_next Hx.out, List.foldl_append, Hp.out]
              show stepA r s.data.toList p x = _
              unfold stepA
              rw [if_neg hge, Hb.out]
            · unfold OwnS
              rw [← spanC_snoc, List.length_append]
              exact O8.out
          case measure => simp [intOf]; omega
      · obtain rfl : i = nb := by omega
        rw [List.take_of_length_le (by omega), ] at hp
        have hres : p.1 = allP r s.data.toList := by rw [← all_is r s.data.toList Hq.out Hn.out.1, hp]
        have Hres := hide hres
        have O := hide hown
        have B5 := hide (B4.out.trans (hbel.mono B4.out.size))
        clear hres hp hown hbel
        go_wp2
        go_ret
        refine ⟨_, rfl, ?_, B5.out⟩
        rw [← Hres.out]
        exact owns_mono O.out B4.out.size
  · have hne : (q != 0) = true := int_ne c3
    have he := all_bad r s.data.toList (by omega)
    rw [he]
    clear he hq
    go_enter Tryd.func21, Tryd.ntmps21
    go_wp2_with fail
    with_reducible refine HR.out.mono ?_
    rintro e w2 ⟨rfl, hb2⟩
    have B2 := hide (bgo BB.out hb2)
    clear hb2
    go_wp2
    go_ret
    exact ⟨_, rfl, World.ownsRow_nil _ _ _ _, B2.out⟩
end Go.Proofs.YtkghbhcjgogaeaaDoor
/-! ### D8 -/
namespace Go.Proofs.YtkghbhcjgogaeaaDoor
open Go.RowKit
open Go.ChangeShapes (block_add)

theorem contains39 (w : World) (B : Nat) (v : Value) (l : List Int) (x : Int) (ho : Own w B 3 v (numCells l)) (hl : l.length ≤ 1000000) : Calls Tryd.prog 39 #[v, .int .i64 x] w fun e w' => e = .returned (.bool (l.contains x)) ∧ w' = w := by
  by_cases hv : v = .slice none 0 0
  · subst hv
    have h0 : l = [] := by
      obtain ⟨A, m, c, e, hm, _⟩ := ho.slI
      simp only [Value.slice.injEq] at e
      exact List.eq_nil_of_length_eq_zero (by omega)
    subst h0
    exact Tryd.slices_Contains_int_empty none 0 x w
  · have ho' : w.ownsRow B 3 1 v l.length (l.map (Value.int .i64)) := by
      have := ho
      unfold Own at this
      rwa [num_len] at this
    obtain ⟨g, cap, rfl, hB, hg, -, -, -, hH⟩ := Go.Lib.holds_of_ownsRow ho' hv
    have h := Tryd.slices_Contains_int g 0 l.length cap l x w (Nat.le_refl _) (by omega) (fun j hj => by
      have := (hH j (by simpa using hj)).1
      rw [this]
      congr 2
      rw [getElem!_pos _ _ (by simpa using hj)]
      simp [List.getD, List.getElem?_eq_getElem hj])
    rw [List.take_of_length_le (Nat.le_refl _)] at h
    exact h
/-- What Whole answers. -/
def wholeA (r : Rx) (s : List UInt8) : Bool := decide ((s.length : Int) ∈ natI (endsA r s 0))
theorem endsA_len (r : Rx) (s : List UInt8) (at_ : Int) : (endsA r s at_).length ≤ s.length + 1 := by
  unfold endsA
  split
  · simp
  · unfold endsC offsC
    refine Nat.le_trans (List.length_filter_le _ _) ?_
    rw [List.length_range, stepC_len r s _ (by simp [noneC_len])]
    omega
set_option maxRecDepth 100000 in
set_option maxHeartbeats 2000000 in
theorem whole18 (s : ByteArray) (hs : s.size ≤ 60) (r : Rx) (h1 : sizeR r ≤ 1000000) (h2 : depthR r ≤ 1000000) (W : World) (ok : Nat → Prop) (v : Value) (hv : RxV W ok v r) (hT : HasT W) :
    Calls Tryd.prog 18 #[v, .string s] W fun e w' => e = .returned (.bool (wholeA r s.data.toList)) ∧ Below W.heap.size W w' := by
  have hlen := strlen s
  have hv0 := hv
  cases hv with
  | mk k a b A B n c m d set vs l hset hvs hl hk ha hb hr =>
  have hB := bnew (Below.refl _ W) (.cells #[.int .i64 k, .slice A n c, .int .i64 a, .int .i64 b, .slice B m d] 25)
  have F := hide (five_new W (.int .i64 k) (.slice A n c) (.int .i64 a) (.int .i64 b) (.slice B m d) 25)
  have BB := hide hB
  obtain ⟨_, t0, t1, t2, t3, t4⟩ := F.out
  obtain ⟨r, hr'⟩ : ∃ r, Rx.mk k set a b l = r := ⟨_, rfl⟩
  rw [hr'] at hv0 h1 h2 ⊢
  have HE := hide (ends12 s hs r h1 h2 0 _ ok _ (hv0.kept hB) (hT.below hB))
  have hel := endsA_len r s.data.toList 0
  clear hset hvs hl hk ha hb hr hB hv0 hT hr'
  go_enter Tryd.func18, Tryd.ntmps18
  go_wp2_with fail
  with_reducible refine HE.out.mono ?_
  rintro e w2 ⟨v2, rfl, ho2, hb2⟩
  have HC := hide (contains39 w2 _ v2 _ (s.size : Int) ho2 (by rw [natI_len]; omega))
  have B2 := hide (bgo BB.out hb2)
  clear ho2 hb2 t0 t1 t2 t3 t4
  go_wp2_with fail
  with_reducible refine HC.out.mono ?_
  rintro e w3 ⟨rfl, rfl⟩
  go_wp2
  go_ret
  exact ⟨congrArg (fun b => Ending.returned (Value.bool b)) (show decide ((s.size : Int) ∈ natI (endsA r s.data.toList 0)) = wholeA r s.data.toList by unfold wholeA; rw [hlen]), B2.out⟩
end Go.Proofs.YtkghbhcjgogaeaaDoor
/-! ### D9 -/
namespace Go.Proofs.YtkghbhcjgogaeaaDoor
open Go.RowKit Go.Shelf
open Go.ChangeShapes (block_add)

/-- The blocks below H are as they were. -/
def KpLow (H : Nat) (A B : World) : Prop := ∀ k, k < H → B.heap[k]? = A.heap[k]?
theorem cell_lo {H : Nat} {A B : World} (h : KpLow H A B) {p : Addr} (hp : p.block < H) : B.cell? p = A.cell? p := World.cell?_of_block (h p.block hp)
set_option maxRecDepth 100000 in
set_option maxHeartbeats 4000000 in
theorem back91 (H bx : Nat) (B : Option Addr) (m d : Nat) (vs : List Value) (ok : Nat → Prop) (w : World) (hH : w.heap.size = H) (hc : w.cell? ⟨bx, 0, none⟩ = some (.slice B m d)) (hvs : VsS w ok B m d vs) :
    Iters Tryd.prog 91 #[] #[.pointer (some ⟨bx, 0, none⟩)] (fun q : Nat => #[.int .i64 (q : Int), vs.getD q undef]) 0 (KpLow H) (List.range m).reverse w := by
  intro l J W hW hJ hY h0
  show CallsIn Fence.wide 7 Tryd.prog 91 #[.func (.yield l) #[] #[], .pointer (some ⟨bx, 0, none⟩)] W _
  have hbx : bx < H := by rw [← hH]; exact World.block_lt_of_cell? _ _ hc
  have hWs : H ≤ W.heap.size := by rw [← hH]; exact hW.size
  have hm63 : (m : Int) ≤ 9223372036854775807 := by have := hvs.1; have := hvs.2.1; omega
  have hvl := hvs.2.2.1
  have hwW : KpLow H w W := fun k hk => hW.block k (by omega)
  have HY := hide hY
  have HJ := hide hJ
  have Hc := hide hc
  have Hvs := hide hvs
  have HwW := hide hwW
  have H0 := hide h0
  have hcW := (cell_lo hwW (p := ⟨bx, 0, none⟩) hbx).trans hc
  clear hY hJ hc hvs hwW h0
  refine callsIn_of_wp Tryd.func91 rfl trivial ?_ rfl
  simp only [Tryd.ntmps91, List.size_toArray, List.length_cons, List.length_nil, Nat.reduceAdd, Nat.reduceSub, Array.replicate_succ, Array.replicate_zero, List.push_toArray, List.append_toArray, List.nil_append, List.cons_append]
  gi_wp2
  gi_loopw [3] (fun y wr => ∃ k : Nat, k ≤ m ∧ y = .int .i64 ((m : Int) - 1 - (k : Int)) ∧ J k wr ∧ KpLow H W wr ∧ W.heap.size ≤ wr.heap.size) (fun y _ => (intOf y + 1).toNat)
  case atStart => exact ⟨0, Nat.zero_le _, by simp, H0.out, fun _ _ => rfl, Nat.le_refl _⟩
  case round =>
    obtain ⟨k, hk, rfl, hJk, hlow, hsz⟩ := hrel
    obtain ⟨w1, hw1⟩ : ∃ w1, w1 = wr := ⟨wr, rfl⟩
    subst hw1
    by_cases hlt : k < m
    · obtain ⟨j, hj⟩ : ∃ j, m - 1 - k = j := ⟨_, rfl⟩
      have hji : (m : Int) - 1 - (k : Int) = (j : Int) := by omega
      rw [hji]
      have hjm : j < m := by omega
      have hd : decide ((0 : Int) ≤ (j : Int)) = true := decide_eq_true (by omega)
      have hxs : (List.range m).reverse[k]? = some j := by
        rw [List.getElem?_reverse (by simpa using hlt), List.length_range, hj, List.getElem?_range hjm]
      have hww : KpLow H w w1 := fun q hq => (hlow q hq).trans (HwW.out q hq)
      have cb := (cell_lo hww (p := ⟨bx, 0, none⟩) hbx).trans Hc.out
      obtain ⟨g, o, c0, c1, c2, c3, c4, rfl, _, hv, x0, x1, x2, x3, x4⟩ := Hvs.out.2.2.2 j vs[j] (List.getElem?_eq_getElem (by omega))
      have hgH : g < H := by rw [← hH]; exact World.block_lt_of_cell? _ _ x0
      have z0 := (cell_lo hww (p := ⟨g, o + j * 5, none⟩) hgH).trans x0
      have z1 := (cell_lo hww (p := ⟨g, o + j * 5 + 1, none⟩) hgH).trans x1
      have z2 := (cell_lo hww (p := ⟨g, o + j * 5 + 2, none⟩) hgH).trans x2
      have z3 := (cell_lo hww (p := ⟨g, o + j * 5 + 3, none⟩) hgH).trans x3
      have z4 := (cell_lo hww (p := ⟨g, o + j * 5 + 4, none⟩) hgH).trans x4
      have hvd : vs.getD j undef = .agg #[c0, c1, c2, c3, c4] := by
        rw [List.getD_eq_getElem?_getD, List.getElem?_eq_getElem (show j < vs.length by omega), hv]
        rfl
      obtain ⟨fn, tmps, assign, body, hyl, hR⟩ := HY.out k j w1 hxs hJk (by omega)
      simp only [hvd] at hyl
      have HR := hide hR
      have Hlow := hide hlow
      clear hR hlow hJk x0 x1 x2 x3 x4 hxs hv hww hvd
      gi_wp2
      refine HR.out.mono ?_
      rintro e w3 ⟨rfl, hJ3, hst⟩
      have J3 := hide hJ3
      have St := hide hst
      clear hJ3 hst hyl
      gi_wp2
      go_roundw
      case rel => exact ⟨k + 1, by omega, congrArg (Value.int .i64) (by omega), J3.out, fun q hq => (St.out.2.2 q hq).trans (Hlow.out q hq), Nat.le_trans hsz St.out.1⟩
      case measure => simp [intOf]
    · obtain rfl : k = m := by omega
      have hji : (k : Int) - 1 - (k : Int) = -1 := by omega
      rw [hji]
      have Hj := hide hJk
      clear hJk hlow
      gi_wp2
      go_end0
      exact ⟨⟨_, rfl⟩, by rw [List.length_reverse, List.length_range]; exact Hj.out⟩
theorem backward81 (B : Option Addr) (m d : Nat) (W : World) : Calls Tryd.prog 81 #[.slice B m d] W fun e w' => e = .returned (.func (.func 91) #[] #[.pointer (some ⟨W.heap.size, 0, none⟩)]) ∧ w' = W.alloc (.cells #[.slice B m d] 23) := by
  go_enter Tryd.func81, Tryd.ntmps81
  go_wp2
  go_ret
  exact ⟨rfl, rfl⟩
end Go.Proofs.YtkghbhcjgogaeaaDoor
