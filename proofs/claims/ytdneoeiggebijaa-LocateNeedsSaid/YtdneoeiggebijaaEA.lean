/- Walk of layer 7's program: Candidates; all its contracts together. -/
import Derived.Test.YtdneoeiggebijaaE9
import Derived.Test.YtdneoeiggebijaaE6
import Derived.Test.YtdneoeiggebijaaL8
namespace Go.Proofs.Ytdneoeiggebijaa
open Go.RowKit Go.Maps
open Go.ChangeShapes (block_add)

theorem Ag.less {Y X X' : Nat} {w w' : World} (h : Ag Y X w w') (hx : X' ≤ X) : Ag Y X' w w' := ⟨h.1, fun b h1 h2 => h.2 b h1 (by omega)⟩
theorem sl_ag {w w' : World} {X : Nat} {A : Option Addr} {n c : Nat} {xs : List Value} (hs : Sl w A n c xs) (hX : ∀ ad, A = some ad → X ≤ ad.block) (ha : Ag X w.heap.size w w') : Sl w' A n c xs := by
  obtain ⟨s1, s2, s3, s4⟩ := hs
  refine ⟨s1, s2, s3, s4.1, fun j u hu => ?_⟩
  obtain ⟨ad, e, hb, hc⟩ := s4.2 j u hu
  exact ⟨ad, e, Nat.lt_of_lt_of_le hb ha.1, (ha.cell (p := ad.add j) (by rw [block_add]; exact hX ad e) (by rw [block_add]; exact hb)).trans hc⟩
theorem tri_take (e : List UInt8) (h : 3 ≤ e.length) : codeS (e.take 3) = tri e 0 := by
  unfold codeS
  rw [if_pos (by rw [List.length_take]; omega)]
  have key : ∀ i, i < 3 → fat (e.take 3) i = fat e i := fun i hi => by
    unfold fat
    rw [List.getD_eq_getElem?_getD, List.getD_eq_getElem?_getD, List.getElem?_take, if_pos hi]
  unfold tri
  rw [key 0 (by omega), key (0 + 1) (by omega), key (0 + 2) (by omega)]

set_option maxRecDepth 20000 in
set_option maxHeartbeats 6400000 in
theorem cand20 (A : Option Addr) (n c : Nat) (gs : List (Int × List Int)) (t : ByteArray) (w : World) (h : GrS w A n c gs) (_hn : n ≤ 1000) (hl : ∀ g ∈ gs, g.2.length ≤ 1000) (hw : ∀ g ∈ gs, In64 g.2) (ht : t.size ≤ 1000) : Calls Try.prog 20 #[.slice A n c, .string t] w (GotIB w (candS gs t.data.toList) (decide (3 ≤ t.size))) := by
  have hte := size_list t
  by_cases h3 : t.size < 3
  · have hc0 : candS gs t.data.toList = [] := by unfold candS; rw [if_pos (by omega)]
    have hd3 : decide (3 ≤ t.size) = false := decide_eq_false (by omega)
    rw [hc0, hd3]
    have hlt : decide ((t.size : Int) < 3) = true := decide_eq_true (by omega)
    clear h hl hw hte hc0
    go_enter Try.func20, Try.ntmps20
    go_wp2
    go_ret2
    exact ⟨none, 0, 0, rfl, Sl.nil _, Below.refl _ _⟩
  have hd3 : decide (3 ≤ t.size) = true := decide_eq_true (by omega)
  have hlt : decide ((t.size : Int) < 3) = false := decide_eq_false (by omega)
  have hpc := prog_cand gs t.data.toList (by omega)
  have hcode : codeS (t.extract 0 3).data.toList = tri t.data.toList 0 := by rw [toList_extract0]; exact tri_take _ (by omega)
  have hGs : ∀ (i : Nat) (z : Int) (ds : List Int), (gramsS t.data.toList)[i]? = some (z, ds) → ∀ d ∈ ds, 0 ≤ d ∧ d ≤ 100000 := fun i z ds hi d hd => by
    obtain ⟨cc, _, e⟩ := List.mem_map.1 (List.mem_of_getElem? hi)
    cases e
    obtain ⟨j, hj, _, rfl⟩ := (mem_offsN _ _ _ _).1 hd
    omega
  have hin : ∀ cc, ∀ z ∈ setP (atS gs cc), 0 ≤ z ∧ z ≤ 9223372036854775807 := fun cc z hz => by
    obtain ⟨h1, h2⟩ := (mem_setP _ _).1 hz
    obtain ⟨g, hg, hz'⟩ := atP_in cc z gs h1
    exact ⟨h2, (hw g hg z hz').2⟩
  have Hgr := hide (fun W => gramsX22 t W (by omega))
  have hgl : ∀ (i : Nat) (z : Int) (ds : List Int), (gramsS t.data.toList)[i]? = some (z, ds) → ds.length ≤ 1000 := fun i z ds hi => by
    obtain ⟨cc, _, e⟩ := List.mem_map.1 (List.mem_of_getElem? hi)
    cases e
    exact Nat.le_trans (offsN_len _ _ _) (by omega)
  have hGl : (gramsS t.data.toList).length ≤ 1000 := by
    unfold gramsS
    rw [List.length_map]
    have := of_len t.data.toList
    omega
  rw [hd3]
  obtain ⟨e, he⟩ : ∃ e, t.data.toList = e := ⟨_, rfl⟩
  obtain ⟨G, hG⟩ : ∃ G, gramsS t.data.toList = G := ⟨_, rfl⟩
  rw [hG] at hpc hGs hgl hGl Hgr
  rw [he] at hpc hcode ⊢
  obtain ⟨l0, hl0⟩ : ∃ l0, setP (atS gs (tri e 0)) = l0 := ⟨_, rfl⟩
  have hul0 : Up l0 := by rw [← hl0]; exact up_setP _
  have hin0 : ∀ z ∈ l0, 0 ≤ z ∧ z ≤ 9223372036854775807 := by rw [← hl0]; exact hin _
  have hl0l : l0.length ≤ 1000 := by
    rw [← hl0]
    exact Nat.le_trans (setP_len _) (atP_len _ _ _ hl)
  rw [hl0] at hpc
  obtain ⟨R, hR⟩ : ∃ R, candS gs e = R := ⟨_, rfl⟩
  rw [hR] at hpc ⊢
  have hext3 : (t.extract 0 3).size = 3 := by simp; omega
  have Hpc := hide hpc
  have Hcode := hide (show ∀ W : World, Calls Try.prog 33 #[.string (t.extract 0 3)] W fun e' w' => e' = .returned (.tuple #[.int .i64 (tri e 0), .bool true]) ∧ Below W.heap.size W w' from fun W => by
    have := code33 (t.extract 0 3) W (by omega)
    rw [hcode, decide_eq_true hext3] at this
    exact this)
  have Hoff := hide (show ∀ (W : World) (cc : Int), GrS W A n c gs → Calls Try.prog 34 #[.slice A n c, .int .i64 cc] W (GrewI W (setP (atS gs cc))) from fun W cc hg => offs34 A n c gs cc W hg hl)
  have H := hide h
  have HGs := hide hGs
  have Hin := hide hin
  have Hin0 := hide hin0
  have Hul0 := hide hul0
  have Hgl := hide hgl
  have Hl0 := hide hl0
  have HGl := hide hGl
  have hts : 3 ≤ t.size := by omega
  clear h hl hw hte hpc hcode hGs hin hgl he hG hl0 hul0 hin0 hR hext3 hGl h3 hd3
  go_enter Try.func20, Try.ntmps20
  go_wp2_with fail
  with_reducible refine (Hcode.out _).mono ?_
  rintro e' w1 ⟨rfl, hb1⟩
  have B1 := hide hb1
  clear hb1
  go_wp2_with fail
  with_reducible refine (Hoff.out w1 (tri e 0) (H.out.below B1.out)).mono ?_
  rw [Hl0.out]
  rintro e' w2 ⟨v2, rfl, ho2, hb2⟩
  have hv2 := hide (show ∀ g, v2.ownBlock = some g → g < w2.heap.size from fun g hg => (ho2.lt g hg).2)
  have O2 := hide (ho2.mono B1.out.size)
  have B2 := hide (bgo B1.out hb2)
  clear ho2 hb2 B1
  go_wp2_with fail
  with_reducible refine (Hgr.out w2).mono ?_
  rintro e' w3 ⟨A3, n3, c3, rfl, hg3, hb3⟩
  have hn3c := hg3.1
  have hc3m := hg3.2.1
  have Hn3 := hide hg3.2.2.1
  have hn3 : n3 ≤ 1000 := by rw [← Hn3.out]; exact HGl.out
  have hsz23 := hb3.size
  have G3 := hide hg3
  have O3 := hide (O2.out.below hb3)
  have B3 := hide (bgo B2.out hb3)
  clear hg3 hb3 Hgr Hcode
  go_wp2_with fail
  go_loopw [8, 29] (fun v x wr => ∃ i : Nat, i ≤ n3 ∧ x = .int .i64 (i : Int) ∧ Own wr w.heap.size 3 v (numCells (progP gs l0 (G.take i))) ∧ (∀ g, v.ownBlock = some g → g < w2.heap.size) ∧ Ag w2.heap.size w3.heap.size w3 wr ∧ Below w.heap.size w wr) (fun _ x _ => n3 - (intOf x).toNat)
  case atStart => exact ⟨0, Nat.zero_le _, rfl, O3.out, hv2.out, Ag.refl _ _ _, B3.out⟩
  case round =>
    obtain ⟨i, hi1, rfl, hov, hvb, hag, hbe⟩ := hrel
    obtain ⟨w4, hw4⟩ : ∃ w4, w4 = wr := ⟨wr, rfl⟩
    subst hw4
    have hsz34 := hag.1
    by_cases hlti : i < n3
    · obtain ⟨g, o, z, ds, A4, n4, c4, rfl, hz, h0, h1, hs4, hx4⟩ := G3.out.at_ hag hlti
      have hds := HGs.out i z ds hz
      have hdl := Hgl.out i z ds hz
      have hn4l := hs4.nlen
      have hn4c := hs4.1
      have hc4m := hs4.2.1
      have Hds := hide hds
      have q0 : (0 : Int) ≤ (i : Int) := by omega
      have q1 : (i : Int) < (n3 : Int) := by omega
      have Hstep := hide (show progP gs l0 (G.take (i + 1)) = gramP (setP (atS gs z)) ds (progP gs l0 (G.take i)) by rw [List.take_succ_eq_append_getElem (List.getElem?_eq_some_iff.1 hz).1, (List.getElem?_eq_some_iff.1 hz).2, progP_snoc])
      obtain ⟨li, hli⟩ : ∃ li, progP gs l0 (G.take i) = li := ⟨_, rfl⟩
      have hlil : li.length ≤ 1000 := by rw [← hli]; exact Nat.le_trans (progP_len _ _ _) hl0l
      have Hlin := hide (show ∀ y ∈ li, 0 ≤ y ∧ y ≤ 9223372036854775807 from fun y hy => Hin0.out y (sub_progP gs y (G.take i) l0 (by rw [hli]; exact hy)))
      have Hliu := hide (show Up li by rw [← hli]; exact up_progP _ _ _ Hul0.out)
      rw [hli] at hov Hstep
      obtain ⟨oo, hoo⟩ : ∃ oo, setP (atS gs z) = oo := ⟨_, rfl⟩
      have hcal := fun W hW => Hoff.out W z hW
      rw [hoo] at Hstep hcal
      have Hoin := hide (show ∀ y ∈ oo, 0 ≤ y ∧ y ≤ 9223372036854775807 by rw [← hoo]; exact Hin.out z)
      have Hou := hide (show Up oo by rw [← hoo]; exact up_setP _)
      have hba : Below w4.heap.size w4 (w4.alloc (.cells #[.int .i64 z, .slice A4 n4 c4] 32)) := bnew (Below.refl _ _) _
      have hbox := two_alloc w4 (.int .i64 z) (.slice A4 n4 c4) 32
      have HH := hide (H.out.below (hbe.trans (hba.mono (by have := hbe.size; omega))))
      have Hov := hide hov
      have Hvb := hide hvb
      have Hag := hide hag
      have Hbe := hide hbe
      have Hba := hide hba
      have Hbox := hide hbox
      have Hs4 := hide hs4
      have Hx4 := hide hx4
      have Hcal := hide hcal
      clear hz hli hoo hov hvb hag hbe hba hbox hs4 hx4 hcal hds
      go_wp2_with fail
      with_reducible refine (Hcal.out _ HH.out).mono ?_
      rintro e' w5 ⟨v5, rfl, ho5, hb5⟩
      obtain ⟨A5, n5, c5, rfl, -, hs5, hx5⟩ := ho5.i
      have hb45 : Below w4.heap.size w4 w5 := bgo Hba.out hb5
      have hbx5 := Hbox.out.keep hb5
      have hc50 := hbx5.2.1
      have hc51 := hbx5.2.2
      have hsz45 := hb45.size
      have Ov5 := hide (Hov.out.below hb45)
      have S4' := hide (Hs4.out.below hb45)
      have S5 := hide hs5
      have X5 := hide (show ∀ ad, A5 = some ad → w2.heap.size ≤ ad.block from fun ad e => by
        have := hx5 ad e
        simp at this
        omega)
      have B5 := hide (Hbe.out.trans (hb45.mono Hbe.out.size))
      have Ag5 := hide (Hag.out.trans (Ag.of_below hb45 hsz34))
      clear ho5 hb5 hs5 hx5 hb45 hbx5 Hov Hs4 Hbox Hba Hcal HH
      go_wp2_with fail
      go_loopw [8, 40] (fun v x wr => ∃ j : Nat, j ≤ n4 ∧ x = .int .i64 (j : Int) ∧ Own wr w.heap.size 3 v (numCells (gramP oo (ds.take j) li)) ∧ (∀ g, v.ownBlock = some g → g < w2.heap.size) ∧ Ag w2.heap.size w5.heap.size w5 wr ∧ Below w.heap.size w wr) (fun _ x _ => n4 - (intOf x).toNat)
      case atStart => exact ⟨0, Nat.zero_le _, rfl, Ov5.out, Hvb.out, Ag.refl _ _ _, B5.out⟩
      case round =>
        obtain ⟨j, hj1, rfl, hov, hvb, hag, hbe⟩ := hrel
        obtain ⟨w6, hw6⟩ : ∃ w6, w6 = wr := ⟨wr, rfl⟩
        subst hw6
        by_cases hltj : j < n4
        · have hs4' := sl_ag S4'.out Hx4.out hag
          obtain ⟨ad, d, rfl, hd, hcd⟩ := num_cell hs4'.reads hltj
          have hs5' := sl_ag S5.out X5.out hag
          have hdb := Hds.out d (List.mem_of_getElem? hd)
          obtain ⟨lj, hlj⟩ : ∃ lj, gramP oo (ds.take j) li = lj := ⟨_, rfl⟩
          have Hst := hide (show gramP oo (ds.take (j + 1)) li = folP lj oo d by rw [List.take_succ_eq_append_getElem (List.getElem?_eq_some_iff.1 hd).1, (List.getElem?_eq_some_iff.1 hd).2, gramP_snoc, hlj])
          have hll : lj.length ≤ 1000 := by rw [← hlj]; exact Nat.le_trans (gramP_len _ _ _) hlil
          have hjin : ∀ y ∈ lj, 0 ≤ y ∧ y ≤ 9223372036854775807 := fun y hy => Hlin.out y (sub_gramP oo y (ds.take j) li (by rw [hlj]; exact hy))
          have hju : Up lj := by rw [← hlj]; exact up_gramP _ _ _ Hliu.out
          rw [hlj] at hov
          have HC := hide (fol35 _ A5 n5 c5 lj oo d w.heap.size w6 hov ⟨hs5', fun _ ad e hv => by
            have := hvb ad.block hv
            have := X5.out ad e
            omega⟩ hju Hou.out hjin Hoin.out hdb hll)
          have q2 : (0 : Int) ≤ (j : Int) := by omega
          have q3 : (j : Int) < (n4 : Int) := by omega
          have Hvb6 := hide hvb
          have Hag6 := hide hag
          have Hbe6 := hide hbe
          clear hs4' hs5' hd hlj hjin hju hov hvb hag hbe hdb
          go_wp2_with fail
          with_reducible refine HC.out.mono ?_
          rintro e' w7 ⟨v7, rfl, ho7, hb7, hf7, hv7⟩
          rw [← Hst.out] at ho7
          have O7 := hide ho7
          have V7 := hide (show ∀ g, v7.ownBlock = some g → g < w2.heap.size from fun g hg => Hvb6.out g (hv7 g hg))
          have A7 := hide (Hag6.out.trans (show Ag w2.heap.size w5.heap.size w6 w7 from ⟨hf7.1, fun b h1 h2 => (hf7.2 b (by have := Hag6.out.1; omega) (fun e => by have := Hvb6.out b e; omega)).1⟩))
          have B7 := hide (Hbe6.out.trans hb7)
          clear ho7 hb7 hf7 hv7
          go_wp2
          go_roundw
          case rel => exact ⟨j + 1, by omega, by go_num, O7.out, V7.out, A7.out, B7.out⟩
          case measure => simp [intOf]; omega
        · rw [List.take_of_length_le (l := ds) (by omega), ← Hstep.out] at hov
          have O8 := hide hov
          have V8 := hide hvb
          have A8 := hide (Ag5.out.trans (hag.less (by omega)))
          have B8 := hide hbe
          clear hov hvb hag hbe
          go_wp2
          go_roundw
          case rel => exact ⟨i + 1, by omega, by go_num, O8.out, V8.out, A8.out, B8.out⟩
          case measure => simp [intOf]; omega
    · rw [List.take_of_length_le (l := G) (by rw [Hn3.out]; omega), Hpc.out] at hov
      obtain ⟨A9, m9, c9, rfl, hm9, hs9⟩ := hov.slI
      have S9 := hide hs9
      have B9 := hide hbe
      clear hov hvb hag hbe hs9 hm9
      go_wp2
      go_ret2
      exact ⟨_, _, _, rfl, S9.out, B9.out⟩

theorem cs : Cs := ⟨find12, count14, codes16, poss18, cand20⟩

end Go.Proofs.Ytdneoeiggebijaa
