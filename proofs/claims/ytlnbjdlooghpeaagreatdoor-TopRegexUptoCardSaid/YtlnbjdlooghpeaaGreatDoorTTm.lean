/- TopRegex: Tm. -/
import Derived.Test.YtlnbjdlooghpeaaGreatDoorTTl
import Derived.Test.YtlnbjdlooghpeaaGreatDoorTTk
import Derived.Maps.OwnOps
import Derived.Maps.OwnSet
namespace Go.Proofs.YtlnbjdlooghpeaaGreatDoor
def In64 (l : List Int) : Prop := ∀ z ∈ l, -9223372036854775808 ≤ z ∧ z ≤ 9223372036854775807
end Go.Proofs.YtlnbjdlooghpeaaGreatDoor
namespace Go.Proofs.YtlnbjdlooghpeaaGreatDoor
open Go.RowKit
theorem run27 (xs : Array Value) (W : World) : (callFunc 52 xs).run Tryz.prog W = .ok (.enter 52 xs) W := by
  kernel_rfl
set_option maxRecDepth 20000 in
set_option maxHeartbeats 1600000 in
theorem find12 (s t : ByteArray) (f : Bool) (w : World) (hs : s.size ≤ 1000) (ht : t.size ≤ 1000) : Calls Tryz.prog 19 #[.string s, .string t, .bool f] w (GotI w (findS f s.data.toList t.data.toList)) := by
  have hb0 : Below w.heap.size w (w.alloc (.cells #[.slice none 0 0] 34)) := bnew (Below.refl _ w) _
  have hn0 := heap_alloc_new w (.cells #[.slice none 0 0] 34)
  have hsz : (w.alloc (.cells #[.slice none 0 0] 34)).heap.size = w.heap.size + 1 := by simp
  have HE := hide (each26 52 #[.pointer (some ⟨w.heap.size, 0, none⟩)] (StF w w.heap.size) s t f (w.alloc (.cells #[.slice none 0 0] 34)) (by omega) (by omega) run27
    (fun W hb hlt => by
      rw [hsz] at hb hlt
      exact ⟨by omega, Nat.le_refl _, ⟨_, (hb.block _ (by omega)).trans hn0, World.ownsRow_nil _ _ _ _⟩, hb0.trans (hb.mono (by omega))⟩)
    (fun X W l k z hz h hl _ => by
      subst hz
      rw [hsz]
      exact visit27 w w.heap.size X W l k h hl))
  clear hb0 hn0 hsz
  go_enter Tryz.func19, Tryz.ntmps19
  go_wp2_with fail
  with_reducible refine HE.out.mono ?_
  rintro e w1 ⟨rfl, X, hBX, hX, ⟨v, hv, ho⟩, hb⟩
  have hc := cell_of_one hv
  obtain ⟨A, m, c, rfl, hm, hs⟩ := ho.slI
  subst hm
  have Hs := hide hs
  have B := hide hb
  clear hv ho hs hb HE
  go_wp2
  go_ret
  exact ⟨_, _, _, rfl, Hs.out, B.out⟩
theorem codes16 (t : ByteArray) (w : World) (ht : t.size ≤ 1000) : Calls Tryz.prog 53 #[.string t] w (GotI w (ofS t.data.toList)) := by
  go_enter Tryz.func53, Tryz.ntmps53
  go_wp2_with fail
  refine (of25 t w (by omega)).mono ?_
  rintro e w' ⟨A, n, c, rfl, h, hb⟩
  have H := hide h
  have B := hide hb
  clear h hb
  go_wp2
  go_ret
  exact ⟨_, _, _, rfl, H.out, B.out⟩
end Go.Proofs.YtlnbjdlooghpeaaGreatDoor
namespace Go.Proofs.YtlnbjdlooghpeaaGreatDoor
open Go.RowKit Go.Maps
def MissD (D : DataW Unit) (M : List Int) : Prop := Up M ∧ Tidy D ∧ (∀ x : Int, has D (.int .i64 x) = decide (x ∈ M)) ∧ Maps.size D = M.length
theorem MissD.start : MissD (.map []) [] := ⟨up_nil, tidy_empty, fun _ => rfl, rfl⟩
theorem litI_ne {x y : Int} (h : y ≠ x) : (Lit.int .i64 y) ≠ (Lit.int .i64 x) := fun e => h (by injection e)
theorem up_last {L : List Int} {i : Nat} {x : Int} (hL : Up L) (hx : L[i]? = some x) : x ∉ L.take i ∧ L.take (i + 1) = L.take i ++ [x] := by
  have hi := (List.getElem?_eq_some_iff.1 hx).1
  have he := (List.getElem?_eq_some_iff.1 hx).2
  refine ⟨fun hm => ?_, by rw [List.take_succ_eq_append_getElem hi, he]⟩
  obtain ⟨j, hj, e⟩ := List.getElem_of_mem hm
  rw [List.length_take] at hj
  rw [List.getElem_take] at e
  have := List.pairwise_iff_getElem.1 hL j i (by omega) hi (by omega)
  omega
theorem MissD.put {D : DataW Unit} {L : List Int} {i : Nat} {x : Int} (h : MissD D (L.take i)) (hL : Up L) (hx : L[i]? = some x) (d : DataW Unit) : MissD (D.put (.int .i64 x) d) (L.take (i + 1)) := by
  obtain ⟨_, h2, h3, h4⟩ := h
  obtain ⟨l1, l2⟩ := up_last hL hx
  have hk : WideAt.IsKeyLit (.int .i64 x) := trivial
  have hno : has D (.int .i64 x) = false := by rw [h3]; exact decide_eq_false l1
  refine ⟨hL.sublist (List.take_sublist _ _), h2.put hk d, fun y => ?_, ?_⟩
  · rw [l2]
    by_cases hy : y = x
    · subst hy
      rw [has_put_same h2.isMap hk]
      simp
    · rw [has_put_other (litI_ne hy), h3]
      simp [hy]
  · rw [size_put h2 d, hno, if_neg (by simp), h4, l2, List.length_append]
    rfl
theorem filter_len (x : Int) : ∀ M : List Int, Up M → (M.filter fun y => decide (y ≠ x)).length + (if x ∈ M then 1 else 0) = M.length
  | [], _ => rfl
  | y :: M, h => by
    have h' := up_cons.1 h
    have ih := filter_len x M h'.2
    rw [List.length_cons, List.filter_cons]
    by_cases e : y = x
    · subst e
      have hn : y ∉ M := fun hm => by have := h'.1 y hm; omega
      rw [if_neg hn] at ih
      rw [if_neg (by simp), if_pos List.mem_cons_self]
      omega
    · rw [if_pos (by simpa using e), List.length_cons]
      by_cases hm : x ∈ M
      · rw [if_pos hm] at ih
        rw [if_pos (List.mem_cons_of_mem _ hm)]
        omega
      · rw [if_neg hm] at ih
        rw [if_neg (fun h => by
          rcases List.mem_cons.1 h with h | h
          · exact e h.symm
          · exact hm h)]
        omega
theorem miss_snoc (L cs : List Int) (z : Int) : missS L (cs ++ [z]) = (missS L cs).filter fun y => decide (y ≠ z) := by
  unfold missS
  rw [List.filter_filter]
  congr 1
  funext c
  by_cases h1 : c ∈ cs <;> by_cases h2 : c = z <;> simp [h1, h2]
theorem MissD.del {D : DataW Unit} {L cs : List Int} (h : MissD D (missS L cs)) (z : Int) : MissD (D.del (.int .i64 z)) (missS L (cs ++ [z])) := by
  obtain ⟨h1, h2, h3, h4⟩ := h
  rw [miss_snoc]
  refine ⟨List.Pairwise.filter _ h1, h2.del _, fun y => ?_, ?_⟩
  · by_cases hy : y = z
    · subst hy
      rw [has_del_same]
      simp
    · rw [has_del_other (litI_ne hy), h3]
      simp [hy]
  · have hs := size_del (k := .int .i64 z) h2
    have hf := filter_len z _ h1
    rw [h3] at hs
    by_cases hm : z ∈ missS L cs
    · rw [if_pos (by simp [hm])] at hs
      rw [if_pos hm] at hf
      omega
    · rw [if_neg (by simp [hm])] at hs
      rw [if_neg hm] at hf
      omega
theorem miss_all (L : List Int) : missS L [] = L := by
  unfold missS
  rw [List.filter_eq_self]
  simp
theorem poss_size {D : DataW Unit} {cs : List Int} {e : List UInt8} (h : MissD D (missS (ofS e) cs)) : ((Maps.size D : Int) == 0) = possS cs e := by
  have hm := miss_nil cs e
  rw [h.2.2.2]
  cases hp : possS cs e with
  | true =>
    rw [hm.1 hp]
    rfl
  | false =>
    have : missS (ofS e) cs ≠ [] := fun h' => by rw [hm.2 h'] at hp; cases hp
    have := List.length_pos_iff.2 this
    exact beq_eq_false_iff_ne.2 (by omega)
section
variable {P : Program} {k : TypeId} {R : Value → Option (DataW Unit × List MemPlace)} {w w' : World} {b n : Nat} {D : DataW Unit}
theorem map_below (h : w.ownsMap P k R b n D) (hb : Below w.heap.size w w') : w'.ownsMap P k R b n D := by
  have hl := h.lt
  obtain ⟨es, clock, h1, h2⟩ := h
  exact ⟨es, clock, (hb.block b hl).trans h1, h2⟩
theorem Sl.map_far {A : Option Addr} {m c : Nat} {xs : List Value} (h : Sl w A m c xs) (hm : w.ownsMap P k R b n D) (hg : w.grownBy w' (some b)) : Sl w' A m c xs := by
  obtain ⟨es, clock, hb, _⟩ := hm
  obtain ⟨h1, h2, h3, h4⟩ := h
  refine ⟨h1, h2, h3, h4.1, fun j u hu => ?_⟩
  obtain ⟨ad, e, hlt, hc⟩ := h4.2 j u hu
  have hne : ad.block ≠ b := fun e' => by
    have hblk : (ad.add j).block = b := by rw [Go.ChangeShapes.block_add, e']
    rw [World.cell?, hblk, hb] at hc
    cases hc
  refine ⟨ad, e, Nat.lt_of_lt_of_le hlt hg.size, ?_⟩
  rw [← hc]
  exact World.cell?_of_block (w := w) (by rw [Go.ChangeShapes.block_add]; exact hg.block _ hlt (fun e' => hne (by injection e')))
end
theorem keyedI3' : Keyed Tryz.prog 3 := int_keyed Tryz.underlying3
set_option maxRecDepth 20000 in
set_option maxHeartbeats 3200000 in
theorem poss18 (A : Option Addr) (n c : Nat) (cs : List Int) (t : ByteArray) (w : World) (h : Sl w A n c (numCells cs)) (hi : In64 cs) (_hn : n ≤ 1000) (ht : t.size ≤ 1000) : Calls Tryz.prog 21 #[.slice A n c, .string t] w fun e w' => e = .returned (.bool (possS cs t.data.toList)) ∧ Below w.heap.size w w' := by
  have hmm := @run_makeMap Tryz.prog
  have Hlen := hide h.nlen
  have hnc := h.1
  have hcc := h.2.1
  have Hcs := hide h
  have Hi := hide hi
  have Hcodes := hide (fun W => codes16 t W ht)
  obtain ⟨L, hL⟩ : ∃ L, ofS t.data.toList = L := ⟨_, rfl⟩
  have hLl := of_len t.data.toList
  have hup := up_of t.data.toList
  have hmem := mem_of t.data.toList
  have hps := fun (D : DataW Unit) => poss_size (D := D) (cs := cs) (e := t.data.toList)
  rw [size_list] at hLl
  rw [hL] at hLl hup hmem hps Hcodes
  have Hup := hide hup
  have Hwf := hide (show ∀ z ∈ L, (Lit.int .i64 z).wf = true from fun z hz => by
    obtain ⟨i, _, e⟩ := (hmem z).1 hz
    have := tri_lt t.data.toList i
    exact WalkArith.wf_i64 (by omega))
  obtain ⟨R, hR⟩ : ∃ R, possS cs t.data.toList = R := ⟨_, rfl⟩
  rw [hR] at hps ⊢
  have Hps := hide hps
  clear h hi hL hup hmem hps hR
  go_enter Tryz.func21, Tryz.ntmps21
  go_wp2_with fail
  with_reducible refine (Hcodes.out _).mono ?_
  rintro e w1 ⟨A1, n1, c1, rfl, hs1, hb1⟩
  have hn1 : L.length = n1 := hs1.nlen
  have hnc1 := hs1.1
  have hcc1 := hs1.2.1
  have S1 := hide hs1
  have M1 := hide (map_below (World.ownsMap_made w Tryz.prog 3 (plainElem (H := Unit) Tryz.prog 4)) hb1)
  have B1 := hide (show Below w.heap.size w w1 from (bnew (Below.refl _ w) _).trans (hb1.mono (by simp)))
  have hL1 : n1 ≤ 1000 := by omega
  have Hn1 := hide hn1
  clear hs1 hb1 hn1 hLl Hcodes
  go_wp2_with fail
  go_loopw [14] (fun x wr => ∃ i : Nat, i ≤ n1 ∧ x = .int .i64 (i : Int) ∧ (∃ D : DataW Unit, wr.ownsMap Tryz.prog 3 (plainElem Tryz.prog 4) w.heap.size i D ∧ MissD D (L.take i)) ∧ Sl wr A1 n1 c1 (numCells L) ∧ Below w.heap.size w wr) (fun x _ => n1 - (intOf x).toNat)
  case atStart => exact ⟨0, Nat.zero_le _, rfl, ⟨_, M1.out, MissD.start⟩, S1.out, B1.out⟩
  case round =>
    obtain ⟨i, hi1, rfl, ⟨D, hown, hmd⟩, hsl, hb⟩ := hrel
    obtain ⟨w2, hw2⟩ : ∃ w2, w2 = wr := ⟨wr, rfl⟩
    subst hw2
    have Hown := hide hown
    have Hmd := hide hmd
    have Hsl := hide hsl
    have B := hide hb
    have hbs := hb.size
    have hlt0 := hown.lt
    by_cases hlt : i < n1
    · obtain ⟨ad, z, rfl, hz, hcell⟩ := num_cell hsl.reads hlt
      have Hwz := hide (Hwf.out z (List.mem_of_getElem? hz))
      have Hput := hide (hmd.put Hup.out hz (.lit (.bool true)))
      clear hown hmd hsl hb hz
      go_wp2_with (first
        | (at_mapUpdate; refine wpList_mapUpdate_own _ rfl _ _ _ 67 rfl 3 4 keyedI3' Tryz.underlying67 _ w.heap.size i _ rfl Hown.out (by unfold maxLen; omega) _ _ _ rfl rfl (keyOf_int_mk Tryz.underlying3 Hwz.out) _ [] (plainElem_bool Tryz.underlying4 true) ?_; intro w3 hown3 hg3)
        | fail)
      have S3 := hide (Hsl.out.map_far Hown.out hg3)
      have B3 := hide (B.out.grown hg3 hbs fun k hk => by cases hk; exact Nat.le_refl _)
      have O3 := hide hown3
      clear hown3 hg3
      go_wp2
      go_roundw
      case rel => exact ⟨i + 1, by omega, by go_num, ⟨_, O3.out, Hput.out⟩, S3.out, B3.out⟩
      case measure => simp [intOf]; omega
    · have hmd2 := hmd
      rw [List.take_of_length_le (by rw [Hn1.out]; omega), ← miss_all L] at hmd2
      have Hmd2 := hide hmd2
      clear hown hmd hsl hb hmd2
      go_wp2_with fail
      go_loopw [23] (fun x wr => ∃ i' : Nat, i' ≤ n ∧ x = .int .i64 (i' : Int) ∧ (∃ D : DataW Unit, wr.ownsMap Tryz.prog 3 (plainElem Tryz.prog 4) w.heap.size i D ∧ MissD D (missS L (cs.take i'))) ∧ Below w.heap.size w wr) (fun x _ => n - (intOf x).toNat)
      case atStart => exact ⟨0, Nat.zero_le _, rfl, ⟨_, Hown.out, Hmd2.out⟩, B.out⟩
      case round =>
        obtain ⟨j, hj, rfl, ⟨D', hown, hmd⟩, hb⟩ := hrel
        obtain ⟨w4, hw4⟩ : ∃ w4, w4 = wr := ⟨wr, rfl⟩
        subst hw4
        have Hown' := hide hown
        have B' := hide hb
        have hbs' := hb.size
        by_cases hlt' : j < n
        · obtain ⟨ad, z, rfl, hz, hcell⟩ := num_cell (Hcs.out.below hb).reads hlt'
          have hzm := Hi.out z (List.mem_of_getElem? hz)
          have Hwz := hide (show (Lit.int .i64 z).wf = true from WalkArith.wf_i64 (by omega))
          have hdel := hmd.del z
          rw [show cs.take j ++ [z] = cs.take (j + 1) by rw [List.take_succ_eq_append_getElem (List.getElem?_eq_some_iff.1 hz).1, (List.getElem?_eq_some_iff.1 hz).2]] at hdel
          have Hdel := hide hdel
          clear hown hmd hb hz hdel hzm
          go_wp2_with (first
            | (at_delete; refine wpList_delete_own _ rfl _ _ 67 3 rfl 4 keyedI3' Tryz.underlying67 _ w.heap.size i _ rfl Hown'.out _ _ rfl (keyOf_int_mk Tryz.underlying3 Hwz.out) ?_; intro w5 hown5 hg5)
            | fail)
          have B5 := hide (B'.out.grown hg5.grown hbs' fun k hk => by cases hk; exact Nat.le_refl _)
          have O5 := hide hown5
          clear hown5 hg5
          go_wp2
          go_roundw
          case rel => exact ⟨j + 1, by omega, by go_num, ⟨_, O5.out, Hdel.out⟩, B5.out⟩
          case measure => simp [intOf]; omega
        · rw [List.take_of_length_le (by rw [Hlen.out]; omega)] at hmd
          have Hend := hide (Hps.out D' hmd)
          clear hown hmd hb
          go_wp2_with (first
            | (at_len; refine wpList_len_own _ rfl _ 67 rfl 3 4 Tryz.underlying67 _ w.heap.size i D' rfl Hown'.out ?_)
            | fail)
          go_wp2
          go_ret
          exact ⟨ret_bool Hend.out, B'.out⟩
end Go.Proofs.YtlnbjdlooghpeaaGreatDoor
