/- Walks of layer 10's program: Ti, Qx. -/
import Derived.Test.YtlnbjdlooghpeaaGreatDoorLo
import Derived.Test.YtlnbjdlooghpeaaGreatDoorPc
import Derived.Test.YtlnbjdlooghpeaaGreatDoorShelfI
import Derived.Maps.OwnRows
import Derived.Maps.OwnOps
import Derived.Maps.OwnSet
import Derived.Maps.RangeWalk
import Derived.Maps.AppendAt
import Derived.Sort.OwnSortedInts
import Derived.Lib.OwnBridge
import Derived.Test.YtlnbjdlooghpeaaGreatDoorQn
import Derived.Test.YtlnbjdlooghpeaaGreatDoorZh
import Derived.Test.YtlnbjdlooghpeaaGreatDoorNr
/-! ### Ti: Walks of layer 6's program: trigram.Of (offsets, codes; a map of slices by code; slices.Sort on ints). -/
namespace Go.Proofs.YtlnbjdlooghpeaaGreatDoor
open Go.RowKit
theorem infoI : (Tryz.prog.info? 3).map (fun i => (i.zero, i.size, i.bytes)) = some (some (.int .i64 0), 1, 8) := by kernel_rfl
/-- Ints, new or old. -/
def GotI (w : World) (l : List Int) (e : Ending) (w' : World) : Prop := ∃ A n c, e = .returned (.slice A n c) ∧ Sl w' A n c (numCells l) ∧ Below w.heap.size w w'
theorem GrewI.got {w w' : World} {l : List Int} {e : Ending} (h : GrewI w l e w') : GotI w l e w' := by
  obtain ⟨A, m, c, rfl, _, hs, hb⟩ := h.sl
  exact ⟨A, m, c, rfl, hs, hb⟩
theorem Own.i {w : World} {B : Nat} {v : Value} {l : List Int} (h : Own w B 3 v (numCells l)) : ∃ A m c, v = .slice A m c ∧ m = l.length ∧ Sl w A m c (numCells l) ∧ ∀ ad, A = some ad → B ≤ ad.block := by
  obtain ⟨A, m, c, rfl, hm, hs⟩ := h.slI
  refine ⟨A, m, c, rfl, hm, hs, fun ad e => ?_⟩
  subst e
  exact (h.lt ad.block rfl).1
end Go.Proofs.YtlnbjdlooghpeaaGreatDoor
namespace Go.Proofs.YtlnbjdlooghpeaaGreatDoor
open Go.RowKit Go.Maps
open Go.ChangeShapes (lits)

/-- D holds, at each number, the list that F has there, if that is not empty. -/
def Groups (D : DataW Unit) (F : Int → List Int) : Prop :=
  IsMap D ∧ ∀ x : Int, D.atKey (.int .i64 x) .nil = (if F x = [] then .nil else .slice (lits .i64 (F x)) []) ∧ (has D (.int .i64 x) = true ↔ F x ≠ [])
theorem Groups.start : Groups (.map []) fun _ => [] := ⟨isMap_empty, fun x => ⟨rfl, by simp [has]⟩⟩
theorem lit_ne {x y : Int} (h : y ≠ x) : (Lit.int .i64 y) ≠ (Lit.int .i64 x) := fun e => h (by injection e)
theorem lits_inj : ∀ (a b : List Int), lits (H := Unit) .i64 a = lits .i64 b → a = b
  | [], [], _ => rfl
  | [], _ :: _, h => by simp [lits] at h
  | _ :: _, [], h => by simp [lits] at h
  | x :: a, y :: b, h => by
    simp only [lits, List.map_cons, List.cons.injEq] at h
    obtain ⟨h1, h2⟩ := h
    have e : x = y := by injection h1 with h1; injection h1
    rw [e, lits_inj a b h2]
theorem Groups.is {D : DataW Unit} {F : Int → List Int} (h : Groups D F) {x : Int} {w : World} {base : Nat} {e : TypeId} {v : Value} {zs : List Int} (ho : w.ownsInts base e .i64 v zs) (hat : D.atKey (.int .i64 x) .nil = rowDatum .i64 v zs) : zs = F x := by
  rw [(h.2 x).1] at hat
  rcases ho.datum (H := Unit) with ⟨h1, h2⟩ | h1
  · rw [h1] at hat
    by_cases hF : F x = []
    · rw [h2, hF]
    · rw [if_neg hF] at hat; cases hat
  · rw [h1] at hat
    by_cases hF : F x = []
    · rw [if_pos hF] at hat; cases hat
    · rw [if_neg hF] at hat
      injection hat with e1
      exact (lits_inj _ _ e1).symm
theorem Groups.put {D : DataW Unit} {F G : Int → List Int} (h : Groups D F) (x : Int) (l : List Int) (hl : l ≠ []) (hG : ∀ y, G y = if y = x then l else F y) : Groups (D.put (.int .i64 x) (.slice (lits .i64 l) [])) G := by
  refine ⟨?_, fun y => ?_⟩
  · obtain ⟨es, rfl⟩ := h.1
    exact ⟨_, rfl⟩
  · by_cases hy : y = x
    · subst hy
      have hg : G y = l := by rw [hG, if_pos rfl]
      have hk : WideAt.IsKeyLit (.int .i64 y) := trivial
      rw [atKey_put_same h.1 hk, has_put_same h.1 hk, hg]
      exact ⟨by rw [if_neg hl], by simp [hl]⟩
    · have hg : G y = F y := by rw [hG, if_neg hy]
      rw [atKey_put_other (lit_ne hy), has_put_other (lit_ne hy), hg]
      exact h.2 y
theorem Groups.same {D : DataW Unit} {F G : Int → List Int} (h : Groups D F) (hG : ∀ y, G y = F y) : Groups D G := by
  have : G = F := funext hG
  rw [this]
  exact h

/-- What has been collected: the numbers that are there and no longer to come. -/
def Coll (D : DataW Unit) (left : Lit → Bool) (out : List Int) : Prop := out.Nodup ∧ ∀ x, x ∈ out ↔ (has D (.int .i64 x) = true ∧ left (.int .i64 x) = false)
theorem Coll.start (D : DataW Unit) : Coll D (has D) [] := ⟨List.nodup_nil, fun x => by cases has D (.int .i64 x) <;> simp⟩
theorem left_at (left : Lit → Bool) (x y : Int) : (left (.int .i64 y) && !(Lit.int .i64 y).sameKey (.int .i64 x)) = false ↔ (left (.int .i64 y) = false ∨ y = x) := by
  by_cases hy : y = x <;> simp [Lit.sameKey, hy]
theorem Coll.yes {D : DataW Unit} {left : Lit → Bool} {out : List Int} (h : Coll D left out) {x : Int} (hlk : left (.int .i64 x) = true) (hhas : has D (.int .i64 x) = true) :
    Coll D (fun z => left z && !z.sameKey (.int .i64 x)) (out ++ [x]) := by
  have hnew : x ∉ out := fun hx => by have := ((h.2 x).1 hx).2; rw [hlk] at this; cases this
  refine ⟨List.nodup_append.2 ⟨h.1, by simp, fun a ha b hb => by simp at hb; subst hb; exact fun e => hnew (e ▸ ha)⟩, fun y => ?_⟩
  rw [List.mem_append, List.mem_singleton, h.2, left_at]
  constructor
  · rintro (⟨h1, h2⟩ | rfl)
    · exact ⟨h1, Or.inl h2⟩
    · exact ⟨hhas, Or.inr rfl⟩
  · rintro ⟨h1, h2 | rfl⟩
    · exact Or.inl ⟨h1, h2⟩
    · exact Or.inr rfl
/-- The row sorted. -/
def srt (l : List Int) : List Int := l.mergeSort fun x y => decide (x ≤ y)
theorem srt_len (l : List Int) : (srt l).length = l.length := List.length_mergeSort l
theorem merge_sorted (l : List Int) : (srt l).Pairwise (fun x y => decide (x ≤ y) = true) :=
  List.pairwise_mergeSort (fun a b c h1 h2 => by simp at *; omega) (fun a b => by simp; omega) l
theorem srt_up (l : List Int) (h : l.Nodup) : Up (srt l) := by
  have h1 := merge_sorted l
  have h2 : (srt l).Nodup := (List.mergeSort_perm l _).nodup_iff.2 h
  unfold Up
  have h3 := h1.and h2
  refine List.Pairwise.imp ?_ h3
  rintro a b ⟨h4, h5⟩
  simp at h4
  have : a ≠ b := h5
  omega
theorem srt_mem (l : List Int) (x : Int) : x ∈ srt l ↔ x ∈ l := List.mem_mergeSort
theorem Coll.sorted {D : DataW Unit} {L : List Int} {left : Lit → Bool} {out : List Int} (h : Coll D left out) (hL : Up L) (hD : ∀ x, has D (.int .i64 x) = true ↔ x ∈ L) (hl : ∀ kl, left kl = false) : srt out = L := by
  refine up_ext _ _ (srt_up out h.1) hL fun m => ?_
  rw [srt_mem, h.2, hD, hl]
  simp

section
variable {P : Program} {k : TypeId} {R : Value → Option (DataW Unit × List MemPlace)} {w w' : World} {b r n : Nat} {D : DataW Unit}
theorem ownsMap_below (h : w.ownsMap P k R b n D) (hb : Below w.heap.size w w') : w'.ownsMap P k R b n D := by
  have hlt := h.lt
  obtain ⟨es, clock, h1, h2⟩ := h
  exact ⟨es, clock, (hb.block b hlt).trans h1, h2⟩
theorem ranges_below {left : Lit → Bool} {cnt B : Nat} (h : w.ranges P k R b r n D left cnt) (hb : Below B w w') (h1 : b < B) (h2 : r < B) : w'.ranges P k R b r n D left cnt := by
  obtain ⟨es, clock, since, seen, c0, e1, e2, e3, e4, e5, e6⟩ := h
  exact ⟨es, clock, since, seen, c0, (hb.block b h1).trans e1, e2, e3, e4, (hb.block r h2).trans e5, e6⟩
theorem Own.turned {B e : Nat} {v : Value} {xs : List Value} (h : Own w B e v xs) (hg : w.grownBy w' (some r)) (hr : r < B) : Own w' B e v xs := by
  obtain ⟨h1, h2⟩ := h
  refine ⟨h1, ?_⟩
  rcases h2 with h2 | ⟨g, cap, cur, hv, hgB, hh, rest⟩
  · exact Or.inl h2
  · exact Or.inr ⟨g, cap, cur, hv, hgB, (hg.block g (lt_of_block hh) (fun e => by have := Option.some.inj e; omega)).trans hh, rest⟩

variable {base e : Nat} {q : IntKind}
theorem ownsInts_below {v : Value} {zs : List Int} (h : w.ownsInts base e q v zs) (hb : Below w.heap.size w w') : w'.ownsInts base e q v zs := ⟨owns_below' h.1 hb, h.2⟩
theorem groups_below (h : w.ownsGroups P k base e q b n D) (hb : Below w.heap.size w w') : w'.ownsGroups P k base e q b n D := by
  obtain ⟨es, clock, hbk, F, hs, rfl, hbb, hlen, hap⟩ := h
  have hblt : b < w.heap.size := (Array.getElem?_eq_some_iff.1 hbk).1
  have hst : ∀ x ∈ es.toList, ∀ z, rowElem (H := Unit) w base e q x.val = some z → rowElem w' base e q x.val = some z := fun x hx z hz => by
    obtain ⟨zs, ho, rfl⟩ := rowElem_inv hz
    exact rowElem_mk (ownsInts_below ho hb)
  obtain ⟨F1, hmap, _⟩ := F.stay hst
  refine ⟨es, clock, (hb.block b hblt).trans hbk, F1, hs, by rw [hmap], hbb, fun x hx zs ho => ?_, hap⟩
  obtain ⟨y, hy⟩ := F.reads x hx
  obtain ⟨z, hz, _⟩ := Go.WideElems.rd_val hy
  obtain ⟨zs0, ho0, _⟩ := rowElem_inv hz
  rw [ho.unique (ownsInts_below ho0 hb)]
  exact hlen x hx zs0 ho0
/-- As a map that is only read: the elements' reader is that of the world in which they stand. -/
theorem groups_map (h : w.ownsGroups P k base e q b n D) : w.ownsMap P k (rowElem (H := Unit) w base e q) b n D := by
  obtain ⟨es, clock, hbk, F, hs, hD, _⟩ := h
  exact ⟨es, clock, hbk, F, hs, hD⟩
theorem groups_mono {m : Nat} (h : w.ownsGroups P k base e q b n D) (hm : n ≤ m) : w.ownsGroups P k base e q b m D := by
  obtain ⟨es, clock, hbk, F, hs, hD, hbb, hlen, hap⟩ := h
  exact ⟨es, clock, hbk, F, Nat.le_trans hs hm, hD, hbb, fun x hx zs ho => Nat.le_trans (hlen x hx zs ho) hm, hap⟩
/-- A group's slice, to be read. -/
theorem ownsInts_sl {v : Value} {zs : List Int} (h : w.ownsInts base 3 .i64 v zs) : ∃ A n c, v = .slice A n c ∧ Sl w A n c (numCells zs) ∧ ∀ ad, A = some ad → base ≤ ad.block := by
  have ho : Own w base 3 v (numCells zs) := by
    unfold Own
    rw [num_len]
    exact h.1
  obtain ⟨A, m, c, rfl, _, hs, hlo⟩ := ho.i
  exact ⟨A, m, c, rfl, hs, hlo⟩
end

/-- The lists of offsets so far. -/
theorem offs_step (d : List UInt8) (i : Nat) (m : Int) (h : tri d i = m) (y : Int) : offsN d y (i + 1) = if y = m then offsN d m i ++ [(i : Int)] else offsN d y i := by
  rw [offsN_succ, h]
  by_cases hy : y = m
  · subst hy; simp
  · rw [if_neg (fun e => hy e.symm), if_neg hy, List.append_nil]
theorem offs_mem (d : List UInt8) (x : Int) : offs d x ≠ [] ↔ x ∈ ofS d := by
  rw [mem_of]
  constructor
  · intro h
    obtain ⟨y, hy⟩ := List.exists_mem_of_ne_nil _ h
    obtain ⟨i, hi, e, _⟩ := (mem_offsN d x _ y).1 hy
    exact ⟨i, by omega, e⟩
  · rintro ⟨i, hi, e⟩ h
    have : (i : Int) ∈ offs d x := (mem_offsN d x _ _).2 ⟨i, by omega, e, rfl⟩
    rw [h] at this
    cases this

end Go.Proofs.YtlnbjdlooghpeaaGreatDoor
namespace Go.Proofs.YtlnbjdlooghpeaaGreatDoor
open Go.RowKit Go.Maps
open Go.ChangeShapes (lits)

theorem keyedI3 : Keyed Tryz.prog 3 := int_keyed Tryz.underlying3
theorem zero38 (w : World) : (zeroValue 34).run Tryz.prog w = .ok (.slice none 0 0) w := by kernel_rfl

/-- The map of the offsets of each code. -/
def GotMp (w : World) (d : List UInt8) (e : Ending) (w' : World) : Prop :=
  ∃ (b base n : Nat) (D : DataW Unit), e = .returned (.map (some b)) ∧ w'.ownsGroups Tryz.prog 3 base 3 .i64 b n D ∧ Groups D (offs d) ∧ n ≤ 100000 ∧ w.heap.size ≤ b ∧ w.heap.size ≤ base ∧ Below w.heap.size w w'

set_option maxRecDepth 20000 in
set_option maxHeartbeats 1600000 in
theorem offs38 (s : ByteArray) (w : World) (hs : s.size ≤ 100000) : Calls Tryz.prog 39 #[.string s] w (GotMp w s.data.toList) := by
  obtain ⟨i0, hi, hz0, hz1, hz2⟩ := info_parts infoI
  have hmm := @run_makeMap Tryz.prog
  have hfold := fold26 s w hs
  have hcode := codeat25 s
  obtain ⟨d, hd⟩ : ∃ d, s.data.toList = d := ⟨_, rfl⟩
  have hdl : d.length = s.size := by rw [← hd, size_list]
  have hts := foldS_size s
  rw [hd] at hcode ⊢
  obtain ⟨t, ht⟩ : ∃ t, foldS s = t := ⟨_, rfl⟩
  rw [ht] at hfold hcode hts
  have Hcode := hide (show ∀ (k : Nat) (m : Int) (w : World), k + 2 < t.size → tri d k = m → Calls Tryz.prog 80 #[.string t, .int .i64 (k : Int)] w fun e w' => e = .returned (.int .i64 m) ∧ Drawn w w' from fun k m w h1 h2 => hcode k m w (by omega) hs h2)
  have hn : t.size ≤ 100000 := by omega
  have Hdl := hide (show d.length - 2 = t.size - 2 by omega)
  clear hd ht hts hcode hdl hs
  go_enter Tryz.func39, Tryz.ntmps39
  go_wp2_with fail
  refine hfold.mono ?_
  rintro e w1 ⟨rfl, hb1⟩
  have B1 := hide hb1
  clear hb1 hfold
  go_wp2
  go_loopw [14] (fun x wr => ∃ i : Nat, i ≤ t.size - 2 ∧ x = .int .i64 (i : Int) ∧ (∃ D : DataW Unit, wr.ownsGroups Tryz.prog 3 (w1.heap.size + 1) 3 .i64 w1.heap.size i D ∧ Groups D (fun c => offsN d c i)) ∧ Below w1.heap.size w1 wr ∧ w1.heap.size + 1 ≤ wr.heap.size) (fun x _ => t.size - (intOf x).toNat)
  case atStart => exact ⟨0, Nat.zero_le _, rfl, ⟨.map [], World.ownsGroups_made _ _ _ _ _, Groups.start⟩, (Below.refl _ _).alloc (Nat.le_refl _) _, by simp⟩
  case round =>
    obtain ⟨i, hi1, rfl, ⟨D, hown, hgr⟩, hbel, hws⟩ := hrel
    obtain ⟨w2, hw2⟩ : ∃ w2, w2 = wr := ⟨wr, rfl⟩
    subst hw2
    have Ho := hide hown
    have Hg := hide hgr
    have B2 := hide hbel
    by_cases hlt : i + 2 < t.size
    · obtain ⟨m, hm⟩ : ∃ m, tri d i = m := ⟨_, rfl⟩
      have hml := tri_lt d i
      rw [hm] at hml
      have hwm : (Lit.int .i64 m).wf = true := WalkArith.wf_i64 (by omega)
      have hwi : (Lit.int .i64 (i : Int)).wf = true := WalkArith.wf_i64 (by omega)
      have Hm := hide hm
      have Hwm := hide hwm
      have Hwi := hide hwi
      clear hown hgr hbel hm hwm hwi
      go_wp2_with fail
      with_reducible refine (Hcode.out i m _ hlt Hm.out).mono ?_
      rintro e w3 ⟨rfl, hd3⟩
      have hb3 := hd3.below w2.heap.size
      have O3 := hide (groups_below Ho.out hb3)
      have B3 := hide (B2.out.trans (hb3.mono (by omega)))
      have hws3 : w1.heap.size + 1 ≤ w3.heap.size := Nat.le_trans hws hb3.size
      clear hd3 hb3
      go_wp2_with (first
        | (at_lookup; refine wpList_lookup_groups _ rfl _ _ 70 rfl 3 34 3 .i64 keyedI3 Tryz.underlying70 (zero38 _) (w1.heap.size + 1) w1.heap.size i _ rfl O3.out (by unfold maxLen; omega) _ _ rfl (keyOf_int_mk Tryz.underlying3 Hwm.out) ?_; intro v zs hat hoi hzl hback)
        | (at_builtin; refine wpList_append_own_at _ rfl _ _ 34 rfl (w1.heap.size + 1) 3 i0 (.int .i64 0) 1 8 Tryz.underlying34 hi hz0 hz1 hz2 rfl (by decide) _ _ _ rfl (hoi.1.alloc _) ⟨w3.heap.size, 0, none⟩ 1 1 [.int .i64 (i : Int)] rfl rfl (cell_one_new _ _ _) (ints_oneCell .i64 [(i : Int)]) (by unfold maxLen; omega) (by omega) (by simp; omega) ?_; intro v' w4 hown' hgrow hnil hloc)
        | (at_mapUpdate; refine wpList_mapUpdate_back (v' := v') _ rfl _ _ _ 70 rfl hback rfl rfl rfl ((World.grownBy_alloc _ _ _).trans hgrow) (hoi.appended hown' Hwi.out) (by simp; omega) (hloc.imp id (fun h => ⟨_, h, by simp⟩)) ?_; intro w5 hown2 hgrow2)
        | go_in)
      have hall := (World.grownBy_alloc w3 _ _).trans hgrow
      have hzs := Hg.out.is hoi hat
      rw [(hoi.appended hown' Hwi.out).datum_pos (by simp)] at hown2
      have G4 := hide (Hg.out.put (G := fun c => offsN d c (i + 1)) m (zs ++ [(i : Int)]) (by simp) fun y => by
        show offsN d y (i + 1) = _
        rw [offs_step d i m Hm.out y, hzs])
      have O4 := hide hown2
      have B4 := hide (B3.out.groups hoi hall hgrow2 B3.out.size (Nat.le_succ _) (Nat.le_refl _))
      have hws4 := Nat.le_trans hws3 (Nat.le_trans hall.size hgrow2.size)
      clear hown2 hall hzs hgrow hgrow2 hback hat hoi hloc hnil hown'
      go_roundw
      case rel => exact ⟨i + 1, by omega, by go_num, ⟨_, O4.out, G4.out⟩, B4.out, hws4⟩
      case measure => simp [intOf]; omega
    · have G4 := hide (Hg.out.same (G := offs d) fun y => by unfold offs; rw [Hdl.out, show t.size - 2 = i by omega])
      have B4 := hide (B1.out.trans (B2.out.mono B1.out.size))
      have hsz1 := B1.out.size
      clear hown hgr hbel
      go_wp2
      go_ret
      exact ⟨w1.heap.size, w1.heap.size + 1, i, D, rfl, Ho.out, G4.out, by omega, hsz1, by omega, B4.out⟩

end Go.Proofs.YtlnbjdlooghpeaaGreatDoor
namespace Go.Proofs.YtlnbjdlooghpeaaGreatDoor
open Go.RowKit Go.Shelf Go.Sort

theorem num_map (l : List Int) : numCells l = l.map (Value.int .i64) := rfl
theorem sort44 (v : Value) (l : List Int) (B : Nat) (w : World) (h : Own w B 3 v (numCells l)) (hn : l.length ≤ 1000000) :
    Calls Tryz.prog 78 #[v] w fun e w' => e = .returned (.tuple #[]) ∧ Own w' B 3 v (numCells (srt l)) ∧ Below B w w' := by
  obtain ⟨n, hl⟩ : ∃ n, l.length = n := ⟨_, rfl⟩
  unfold Own at h ⊢
  rw [num_len, hl, num_map] at h
  rw [num_len, srt_len, hl, num_map]
  rcases h.2 with ⟨rfl, h0⟩ | ⟨g, cap, cur, rfl, hbase, hb, h1, h2, h3, h4⟩
  · obtain rfl : l = [] := List.eq_nil_of_length_eq_zero (by omega)
    refine (Tryz.slices_Sort_int_none none 0 w).mono ?_
    rintro e w' ⟨rfl, rfl⟩
    have e : srt [] = [] := List.eq_nil_of_length_eq_zero (srt_len [])
    refine ⟨rfl, ?_, Below.refl _ _⟩
    rw [e, ← hl]
    exact World.ownsRow_nil _ _ _ _
  · subst hl
    have hlt : g < w.heap.size := (Array.getElem?_eq_some_iff.1 hb).1
    have hH : Holds (Value.int .i64) w g 0 l.toArray := holds_of_blockI hb (by simpa using h4)
    refine (Tryz.slices_Sort_int g 0 cap l w hH hlt (by omega)).mono ?_
    rintro e w' ⟨rfl, k, os, rfl⟩
    exact ⟨rfl, ownsRow_sortedI (n := k) (os := os) (ts := srt l) (srt_len l) hbase hb h1 h2 h3, (Below.refl B w).grown (grownBy_sortedI _) (by omega) (fun j hj => by cases hj; exact hbase)⟩

end Go.Proofs.YtlnbjdlooghpeaaGreatDoor
namespace Go.Proofs.YtlnbjdlooghpeaaGreatDoor
open Go.RowKit Go.Maps

section
variable {P : Program} (w : World) {ops : Array Oper} {rest : List Oper} {o : Oper} {a : Act} {Q : Exit → Act → World → Prop}
/-- The step of a range over a map, keys of an integer kind, elements whatever. -/
theorem wpList_next_iv (hg : o.guard = none) (it : Operand) (hop : o.op = Op.next it false) (k : TypeId) (qk : IntKind) (K : Keyed P k) (hk : P.underlying k = some (.int qk)) (R : Value → Option (DataW Unit × List MemPlace))
    (b r n : Nat) (D : DataW Unit) (left : Lit → Bool) (cnt : Nat) (hit : a.eval it = .pointer (some ⟨r, 0, none⟩)) (h : w.ranges P k R b r n D left cnt)
    (hDone : cnt = 0 → (∀ kl, left kl = false) → wpList P ops Q rest (a.put o.dst (.tuple #[.bool false])) w)
    (hMore : ∀ (x : Int) (c : Value) (w' : World) (cnt' : Nat), (Lit.int qk x).wf = true → left (.int qk x) = true → has D (.int qk x) = true → w'.ranges P k R b r n D (fun z => left z && !z.sameKey (.int qk x)) cnt' → cnt' < cnt →
      w.grownBy w' (some r) → w'.heap.size = w.heap.size → (Instr.entry (.pointer (some ⟨r, 0, none⟩))).run P w' = .ok (.tuple #[.int qk x, c]) w' → wpList P ops Q rest (a.put o.dst (.tuple #[.bool true, .int qk x, c])) w') :
    wpList P ops Q (o :: rest) a w :=
  wpList_next_ranges w hg it hop k K R (Value.int qk) (fun v : Value => v) (fun key kl hkey => by obtain ⟨x, rfl, _⟩ := Maps.keyOf_int_inv hk hkey; exact ⟨x, rfl⟩) (fun v y _ => ⟨v, rfl⟩)
    b r n D left cnt hit h hDone (fun x c kl y w' cnt' hkey hlk hv hat hrg hlt hgr hsz hen => by
      obtain ⟨x', ex, rfl, hwx⟩ := Maps.keyOf_int_inv hk hkey
      cases ex
      exact hMore x c w' cnt' hwx hlk (has_true_of_atKey hat) hrg hlt hgr hsz hen)
end

set_option maxRecDepth 20000 in
set_option maxHeartbeats 1600000 in
theorem codes39 (R : Value → Option (DataW Unit × List MemPlace)) (b n : Nat) (D : DataW Unit) (L : List Int) (w : World) (hown : w.ownsMap Tryz.prog 3 R b n D) (hL : Up L) (hD : ∀ x, has D (.int .i64 x) = true ↔ x ∈ L) (hn : n ≤ 100000) :
    Calls Tryz.prog 38 #[.map (some b)] w (GotI w L) := by
  obtain ⟨i0, hi, hz0, hz1, hz2⟩ := info_parts infoI
  have HL := hide hL
  have HD := hide hD
  have hDs := hown.size_le
  have hbl := hown.lt
  have Ho := hide hown
  clear hL hD hown
  go_enter Tryz.func38, Tryz.ntmps38
  go_wp2_with (first
    | (at_range; refine wpList_range_own _ rfl _ 70 rfl 3 34 keyedI3 Tryz.underlying70 R b n D rfl Ho.out ?_; intro w2 hrg2 hg2 hs2)
    | go_in)
  go_frame
  have B2 := hide ((Below.refl w.heap.size w).grown hg2 (Nat.le_refl _) fun g hg => by cases hg)
  clear hg2
  go_loopw [3] (fun v wr => ∃ (left : Lit → Bool) (cnt : Nat) (out : List Int), wr.ranges Tryz.prog 3 R b w.heap.size n D left cnt ∧ Own wr (w.heap.size + 1) 3 v (numCells out) ∧ Coll D left out ∧ out.length + cnt ≤ Maps.size D ∧ Below w.heap.size w wr ∧ w.heap.size + 1 ≤ wr.heap.size) (fun _ wr => wr.rangeLeft b w.heap.size)
  case atStart => exact ⟨has D, Maps.size D, [], hrg2, World.ownsRow_nil _ _ _ _, Coll.start D, by simp, B2.out, by omega⟩
  case round =>
    clear hrg2 hs2 B2 Ho
    obtain ⟨left, cnt, out, hrg, hown, hcoll, hlen, hbel, hsz3⟩ := hrel
    obtain ⟨w3, hw3⟩ : ∃ w3, w3 = wr := ⟨wr, rfl⟩
    subst hw3
    obtain ⟨v, hvv⟩ : ∃ v, v = u3 := ⟨u3, rfl⟩
    subst hvv
    have Hcoll := hide hcoll
    have B3 := hide hbel
    have O3 := hide hown
    have hsz4 := hbel.size
    have hnl := num_len out
    clear hcoll hbel hown
    go_wp2_with (first
      | (at_next; refine wpList_next_iv _ rfl _ rfl 3 .i64 keyedI3 Tryz.underlying3 R b w.heap.size _ _ _ _ rfl hrg ?_ ?_)
      | go_in)
    · intro _ hl0
      have Hs := hide (Hcoll.out.sorted HL.out HD.out hl0)
      clear hrg hl0
      go_wp2_with fail
      with_reducible refine (sort44 v out _ _ O3.out (by omega)).mono ?_
      rintro e w4 ⟨rfl, ho4, hb4⟩
      rw [Hs.out] at ho4
      have O4 := hide ho4
      have B4 := hide (B3.out.trans (hb4.mono (by omega)))
      clear ho4 hb4
      go_wp2
      go_ret
      exact GrewI.got ⟨v, rfl, O4.out.mono (by omega), B4.out⟩
    · intro x c0 w4 cnt4 hwx hlx hhas hrg4 hlt4 hg4 hs4 hen
      have O4 := hide (O3.out.turned hg4 (by omega))
      have B4 := hide (B3.out.grown hg4 hsz4 fun g hg => by cases hg; omega)
      have hs4' : w.heap.size + 1 ≤ w4.heap.size := by omega
      have C4 := hide (Hcoll.out.yes hlx hhas)
      have R4 := hide hrg4
      have Rl := hide hrg.left_eq
      have hob : (numCells out).length ≤ 1000000 := by omega
      clear hs4 hhas hlx hrg4 hrg hg4
      go_wp2_with (first
        | (at_builtin; refine wp_push rfl (.tmp 11) (.tmp 13) 34 rfl 3 i0 (.int .i64 0) 8 Tryz.underlying34 hi hz0 hz1 hz2 rfl (w.heap.size + 1) _ (numCells out) rfl _ _ rfl O4.out.src hs4' _ rfl rfl (by omega) (by unfold maxLen; omega) ?_)
        | go_in)
      intro v' w5 ho5 hb5
      rw [show numCells out ++ [Value.int .i64 x] = numCells (out ++ [x]) by rw [num_app]; rfl] at ho5
      have O5 := hide ho5
      have R5 := hide (ranges_below R4.out hb5 (by omega) (by omega))
      have B5 := hide (B4.out.trans (hb5.mono (by omega)))
      have hsz5 := hb5.size
      clear ho5 hb5
      go_wp2
      go_roundw
      case rel => exact ⟨_, cnt4, out ++ [x], R5.out, O5.out, C4.out, by rw [List.length_append, List.length_singleton]; omega, B5.out, by omega⟩
      case measure => rw [R5.out.left_eq, Rl.out]; exact hlt4

theorem GotMp.has {D : DataW Unit} {d : List UInt8} (h : Groups D (offs d)) : ∀ x, has D (.int .i64 x) = true ↔ x ∈ ofS d := fun x => (h.2 x).2.trans (offs_mem d x)

theorem of25 (s : ByteArray) (w : World) (hs : s.size ≤ 4000) : Calls Tryz.prog 11 #[.string s] w (GotI w (ofS s.data.toList)) := by
  go_enter Tryz.func11, Tryz.ntmps11
  go_wp2_with fail
  refine (offs38 s w (by omega)).mono ?_
  rintro e w1 ⟨b, base, n, D, rfl, hown, hgr, hn, -, -, hb⟩
  have Ho := hide (groups_map hown)
  have Hd := hide (GotMp.has hgr)
  have B1 := hide hb
  clear hown hgr hb
  go_wp2_with fail
  with_reducible refine (codes39 _ b n D (ofS s.data.toList) _ Ho.out (up_of _) Hd.out hn).mono ?_
  rintro e w2 ⟨A, m, c, rfl, h2, hb2⟩
  have H2 := hide h2
  have B2 := hide (B1.out.trans (hb2.mono B1.out.size))
  clear h2 hb2
  go_wp2
  go_ret
  exact ⟨_, _, _, rfl, H2.out, B2.out⟩

end Go.Proofs.YtlnbjdlooghpeaaGreatDoor
/-! ### Qx: Layer 10: the law of Sound over what it asks of the program. -/
namespace Go.Proofs.YtlnbjdlooghpeaaGreatDoor
open Go.RowKit

theorem sound_of {r : Rx} {s : List UInt8} (h : matchA r s = true) : evalS (needS r) (ofS s) = true := by
  unfold matchA at h
  rw [Bool.and_eq_true, decide_eq_true_eq, decide_eq_true_eq] at h
  obtain ⟨hr, hm⟩ := h
  obtain ⟨j, hj⟩ := mask_some hm
  obtain ⟨i, hi, hij⟩ := (stepC_at r s (right_node hr).1 _ (all_len _) j).1 hj
  exact need_sound hr s i j ((all_on _ _).1 hi) hij
theorem ofS_wf (s : List UInt8) : WfL (ofS s) := fun z hz => by
  obtain ⟨i, -, rfl⟩ := (mem_of s z).1 hz
  have := tri_lt s i
  exact WalkArith.wf_i64 (by omega)
theorem need_szN (r : Rx) : sizeN (needS r) ≤ 1000000 := by
  by_cases h : rightR r = 0
  · have := need_size h
    omega
  · unfold needS
    rw [if_neg h, sizeN_mk]
    simp [sizeNL]
set_option maxRecDepth 100000 in
set_option maxHeartbeats 6400000 in
theorem lawS (A : AliveC) (C : Cs) {ok : Nat → Prop} {v : Value} {r : Rx} (s : ByteArray) (hs : s.size ≤ 9223372036854775807) (hsz : weightR r ≤ 1000000) (w : World) (hT : HasT w) (hv : RxV w ok v r) :
    Calls Tryz.prog 3 #[v, .string s] w fun e w' => e = .returned (.bool true) ∧ Below w.heap.size w w' := by
  have hs1 : sizeR r ≤ 1000000 := Nat.le_trans (size_weight r) hsz
  have hd1 : depthR r ≤ 1000000 := Nat.le_trans (depth_le' r) hs1
  obtain ⟨k, a, b, A', B, n, c, m, d, rfl⟩ := rxv_shape hv
  have hb1 := bel_alloc w (.cells #[.int .i64 k, .slice A' n c, .int .i64 a, .int .i64 b, .slice B m d] 25)
  have F := hide (five_new w (.int .i64 k) (.slice A' n c) (.int .i64 a) (.int .i64 b) (.slice B m d) 25)
  have V := hide (hv.kept hb1)
  have T0 := hide (hT.below hb1)
  have B1 := hide hb1
  have HA := hide (A (w.alloc (.cells #[.int .i64 k, .slice A' n c, .int .i64 a, .int .i64 b, .slice B m d] 25)))
  obtain ⟨z, hz⟩ : ∃ z, szR 200 r = z := ⟨_, rfl⟩
  have hzb : z ≤ 1000000 := by rw [← hz]; have := (sz_ok r 200).2; omega
  have hsb : (s.size : Int) ≤ 9223372036854775807 := by omega
  have HS := hide (fun (W : World) (h : RxV W ok (.agg #[.int .i64 k, .slice A' n c, .int .i64 a, .int .i64 b, .slice B m d]) r) => (show Calls Tryz.prog 7 #[.agg #[.int .i64 k, .slice A' n c, .int .i64 a, .int .i64 b, .slice B m d], .int .i64 200] W fun e w' => e = .returned (.int .i64 (z : Int)) ∧ Below W.heap.size W w' from by rw [← hz]; exact rsize r W ok _ 200 h (by omega) (by omega)))
  clear hv hb1 A hz hsz hT
  go_enter Tryz.func3, Tryz.ntmps3
  go_wp2_with fail
  with_reducible refine HA.out.mono ?_
  rintro e w1 ⟨rfl, hb⟩
  have F1 := hide (F.out.keep hb)
  have V1 := hide (V.out.kept hb)
  have T1 := hide (T0.out.below hb)
  have B2 := hide (bgo B1.out hb)
  obtain ⟨-, t0, t1, t2, t3, t4⟩ := F1.out
  clear hb HA F V B1 T0
  go_wp2_with fail
  with_reducible refine (HS.out _ V1.out).mono ?_
  rintro e w2 ⟨rfl, hb⟩
  have F2 := hide (F1.out.keep hb)
  have V2 := hide (V1.out.kept hb)
  have T2 := hide (T1.out.below hb)
  have B3 := hide (bgo B2.out hb)
  obtain ⟨-, t0, t1, t2, t3, t4⟩ := F2.out
  clear hb HS F1 V1 B2 T1
  by_cases hbig : 200 < z
  · have hbig' : (200 : Int) < (z : Int) := by omega
    go_wp2
    go_ret
    exact ⟨rfl, B3.out⟩
  have hbig' : ¬ (200 : Int) < (z : Int) := by omega
  by_cases h6 : 60 < s.size
  · have h6' : (60 : Int) < (s.size : Int) := by omega
    go_wp2
    go_ret
    exact ⟨rfl, B3.out⟩
  have h6' : ¬ (60 : Int) < (s.size : Int) := by omega
  have hs6 : s.size ≤ 60 := by omega
  obtain ⟨q, hq⟩ : ∃ q, matchA r s.data.toList = q := ⟨_, rfl⟩
  have HM := hide (match16 s hs6 r hs1 hd1 w2 ok _ V2.out T2.out)
  rw [hq] at HM
  have Hq := hide hq
  clear hq
  go_wp2_with fail
  with_reducible refine HM.out.mono ?_
  rintro e w3 ⟨rfl, hb⟩
  have F3 := hide (F2.out.keep hb)
  have V3 := hide (V2.out.kept hb)
  have B4 := hide (bgo B3.out hb)
  obtain ⟨-, t0, t1, t2, t3, t4⟩ := F3.out
  clear hb HM
  cases q with
  | false =>
    go_wp2
    go_ret
    exact ⟨rfl, B4.out⟩
  | true =>
    have HO := hide (C.of_ V3.out hs1 hd1)
    go_wp2_with fail
    with_reducible refine HO.out.mono ?_
    rintro e w4 ⟨v4, rfl, hn4, hb⟩
    have N4 := hide hn4
    have B5 := hide (bgo B4.out hb)
    have HT := hide (of25 s w4 (by omega))
    clear hb HO hn4
    go_wp2_with fail
    with_reducible refine HT.out.mono ?_
    rintro e w5 ⟨A5, n5, c5, rfl, hs5, hb⟩
    have hof := of_len s.data.toList
    have hsl : s.data.toList.length = s.size := size_list s
    have HE := hide (C.eval (N4.out.kept hb) (need_szN r) (show (ofS s.data.toList).length ≤ 2000000 by omega) (ofS_wf _) hs5 true (sound_of Hq.out))
    have B6 := hide (bgo B5.out hb)
    clear hb HT hs5
    go_wp2_with fail
    with_reducible refine HE.out.mono ?_
    rintro e w6 ⟨rfl, hb⟩
    have B7 := hide (bgo B6.out hb)
    clear hb HE
    go_wp2
    go_ret
    exact ⟨rfl, B7.out⟩
end Go.Proofs.YtlnbjdlooghpeaaGreatDoor
