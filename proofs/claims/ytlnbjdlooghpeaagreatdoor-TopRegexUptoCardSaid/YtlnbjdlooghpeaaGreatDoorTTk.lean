/- TopRegex: ShelfI, Tj, Loc, Kmp, Cn, Tk. -/
import Derived.Shelf.Sort.Plain
import Derived.Shelf.Slices.In.SortNone
import Derived.Test.YtlnbjdlooghpeaaGreatDoorProg
import Derived.Test.YtlnbjdlooghpeaaGreatDoorTLo
import Derived.Test.YtlnbjdlooghpeaaGreatDoorTPc
import Derived.Maps.OwnRows
import Derived.Maps.OwnOps
import Derived.Maps.OwnSet
import Derived.Maps.RangeWalk
import Derived.Maps.AppendAt
import Derived.Sort.OwnSortedInts
import Derived.Lib.OwnBridge
import Derived.Test.YtlnbjdlooghpeaaGreatDoorTQn
import Derived.Test.YtlnbjdlooghpeaaGreatDoorTNg
import Derived.Test.YtlnbjdlooghpeaaGreatDoorTTri
namespace Go.Proofs
open Go.Shelf
def Tryz.lays189_ren : Go.Shelf.Ren := ⟨fun | 189 => 78 | 125 => 113 | 257 => 112 | 128 => 140 | 129 => 141 | 294 => 131 | 295 => 132 | 296 => 133 | 297 => 134 | 298 => 135 | 299 => 136 | 216 => 137 | 300 => 138 | 301 => 139 | 328 => 153 | 329 => 154 | 330 => 155 | 331 => 156 | 332 => 157 | 215 => 150 | 343 => 165 | n => n, fun | 28 => 34 | 3 => 3 | 46 => 136 | 0 => 0 | 51 => 165 | 53 => 124 | 4 => 4 | 183 => 159 | 182 => 158 | 131 => 152 | 5 => 5 | 9 => 9 | 218 => 174 | 222 => 178 | 228 => 187 | 229 => 91 | n => n, fun | n => n⟩
theorem Tryz.lays189 : Go.Proofs.Lays.n189 Tryz.prog Tryz.lays189_ren := {
  mixed := by kernel_rfl
  f125 := Tryz.func113.trans (congrArg some (by kernel_rfl))
  f128 := Tryz.func140.trans (congrArg some (by kernel_rfl))
  f129 := Tryz.func141.trans (congrArg some (by kernel_rfl))
  f189 := Tryz.func78.trans (congrArg some (by kernel_rfl))
  f215 := Tryz.func150.trans (congrArg some (by kernel_rfl))
  f216 := Tryz.func137.trans (congrArg some (by kernel_rfl))
  f257 := Tryz.func112.trans (congrArg some (by kernel_rfl))
  f294 := Tryz.func131.trans (congrArg some (by kernel_rfl))
  f295 := Tryz.func132.trans (congrArg some (by kernel_rfl))
  f296 := Tryz.func133.trans (congrArg some (by kernel_rfl))
  f297 := Tryz.func134.trans (congrArg some (by kernel_rfl))
  f298 := Tryz.func135.trans (congrArg some (by kernel_rfl))
  f299 := Tryz.func136.trans (congrArg some (by kernel_rfl))
  f300 := Tryz.func138.trans (congrArg some (by kernel_rfl))
  f301 := Tryz.func139.trans (congrArg some (by kernel_rfl))
  f328 := Tryz.func153.trans (congrArg some (by kernel_rfl))
  f329 := Tryz.func154.trans (congrArg some (by kernel_rfl))
  f330 := Tryz.func155.trans (congrArg some (by kernel_rfl))
  f331 := Tryz.func156.trans (congrArg some (by kernel_rfl))
  f332 := Tryz.func157.trans (congrArg some (by kernel_rfl))
  f343 := Tryz.func165.trans (congrArg some (by kernel_rfl))
  t0 := Tryz.underlying0
  a0 := Tryz.isAgg0
  z0 := Tryz.sizeOf0
  v0 := Tryz.zeroValue0
  t3 := Tryz.underlying3
  a3 := Tryz.isAgg3
  z3 := Tryz.sizeOf3
  v3 := Tryz.zeroValue3
  t4 := Tryz.underlying4
  a4 := Tryz.isAgg4
  z4 := Tryz.sizeOf4
  v4 := Tryz.zeroValue4
  t5 := Tryz.underlying5
  a5 := Tryz.isAgg5
  z5 := Tryz.sizeOf5
  v5 := Tryz.zeroValue5
  t9 := Tryz.underlying9
  a9 := Tryz.isAgg9
  z9 := Tryz.sizeOf9
  v9 := Tryz.zeroValue9
  t28 := Tryz.underlying34
  a28 := Tryz.isAgg34
  z28 := Tryz.sizeOf34
  v28 := Tryz.zeroValue34
  t46 := Tryz.underlying136
  a46 := Tryz.isAgg136
  z46 := Tryz.sizeOf136
  v46 := Tryz.zeroValue136
  t51 := Tryz.underlying165
  a51 := Tryz.isAgg165
  z51 := Tryz.sizeOf165
  v51 := Tryz.zeroValue165
  t53 := Tryz.underlying124
  a53 := Tryz.isAgg124
  z53 := Tryz.sizeOf124
  v53 := Tryz.zeroValue124
  t131 := Tryz.underlying152
  a131 := Tryz.isAgg152
  z131 := Tryz.sizeOf152
  v131 := Tryz.zeroValue152
  t182 := Tryz.underlying158
  a182 := Tryz.isAgg158
  z182 := Tryz.sizeOf158
  v182 := Tryz.zeroValue158
  t183 := Tryz.underlying159
  a183 := Tryz.isAgg159
  z183 := Tryz.sizeOf159
  v183 := Tryz.zeroValue159
  t218 := Tryz.underlying174
  a218 := Tryz.isAgg174
  z218 := Tryz.sizeOf174
  v218 := Tryz.zeroValue174
  t222 := Tryz.underlying178
  a222 := Tryz.isAgg178
  z222 := Tryz.sizeOf178
  v222 := Tryz.zeroValue178
  t228 := Tryz.underlying187
  a228 := Tryz.isAgg187
  z228 := Tryz.sizeOf187
  v228 := Tryz.zeroValue187
  t229 := Tryz.underlying91
  a229 := Tryz.isAgg91
  z229 := Tryz.sizeOf91
  v229 := Tryz.zeroValue91 }
open Go.Sort Go.RowKit in
theorem Tryz.slices_Sort_int (blk off cap : Nat) (zs : List Int) (w : World) (hH : Holds (Value.int .i64) w blk off zs.toArray) (hblk : blk < w.heap.size) (hsz : zs.length < 4611686018427387904) :
    Calls Tryz.prog 78 #[.slice (some ⟨blk, off, none⟩) zs.length cap] w fun e w' =>
      e = .returned (.tuple #[]) ∧ ∃ n os, w' = grow (putRow (Value.int .i64) (Sort.ahead w n) blk off (zs.mergeSort fun x y => decide (x ≤ y)).toArray) os := Any.slices_Sort_int Tryz.lays189 blk off cap zs w hH hblk hsz
open Go.RowKit Go.Sort in
theorem Tryz.slices_Sort_int_none (p : Option Addr) (cap : Nat) (w : World) :
    Calls Tryz.prog 78 #[.slice p 0 cap] w fun e w' => e = .returned (.tuple #[]) ∧ w' = w := Any.slices_Sort_int_none Tryz.lays189 p cap w
end Go.Proofs
namespace Go.Proofs.YtlnbjdlooghpeaaGreatDoor
open Go.RowKit
theorem infoI : (Tryz.prog.info? 3).map (fun i => (i.zero, i.size, i.bytes)) = some (some (.int .i64 0), 1, 8) := by kernel_rfl
def GotI (w : World) (l : List Int) (e : Ending) (w' : World) : Prop := ∃ A n c, e = .returned (.slice A n c) ∧ Sl w' A n c (numCells l) ∧ Below w.heap.size w w'
theorem GrewI.got {w w' : World} {l : List Int} {e : Ending} (h : GrewI w l e w') : GotI w l e w' := by
  obtain ⟨A, m, c, rfl, _, hs, hb⟩ := h.sl
  exact ⟨A, m, c, rfl, hs, hb⟩
end Go.Proofs.YtlnbjdlooghpeaaGreatDoor
namespace Go.Proofs.YtlnbjdlooghpeaaGreatDoor
open Go.RowKit Go.Maps
open Go.ChangeShapes (lits)
def Groups (D : DataW Unit) (F : Int → List Int) : Prop :=
  IsMap D ∧ ∀ x : Int, D.atKey (.int .i64 x) .nil = (if F x = [] then .nil else .slice (lits .i64 (F x)) []) ∧ (has D (.int .i64 x) = true ↔ F x ≠ [])
theorem Groups.start : Groups (.map []) fun _ => [] := ⟨isMap_empty, fun x => ⟨rfl, by simp [has]⟩⟩
theorem lit_ne {x y : Int} (h : y ≠ x) : (Lit.int .i64 y) ≠ (Lit.int .i64 x) := fun e => h (by injection e)
theorem lits_inj : ∀ (a b : List Int), lits (H := Unit) .i64 a = lits .i64 b → a = b
  | [], [], _ => rfl
  | [], _ :: _, h => by simp [lits] at h
  | _ :: _, [], h => by simp [lits] at h
  | x :: a, y :: b, h => by
    simp only [lits, List.map_cons, List.cons.injEq] at h
    obtain ⟨h1, h2⟩ := h
    have e : x = y := by injection h1 with h1; injection h1
    rw [e, lits_inj a b h2]
theorem Groups.is {D : DataW Unit} {F : Int → List Int} (h : Groups D F) {x : Int} {w : World} {base : Nat} {e : TypeId} {v : Value} {zs : List Int} (ho : w.ownsInts base e .i64 v zs) (hat : D.atKey (.int .i64 x) .nil = rowDatum .i64 v zs) : zs = F x := by
  rw [(h.2 x).1] at hat
  rcases ho.datum (H := Unit) with ⟨h1, h2⟩ | h1
  · rw [h1] at hat
    by_cases hF : F x = []
    · rw [h2, hF]
    · rw [if_neg hF] at hat; cases hat
  · rw [h1] at hat
    by_cases hF : F x = []
    · rw [if_pos hF] at hat; cases hat
    · rw [if_neg hF] at hat
      injection hat with e1
      exact (lits_inj _ _ e1).symm
theorem Groups.put {D : DataW Unit} {F G : Int → List Int} (h : Groups D F) (x : Int) (l : List Int) (hl : l ≠ []) (hG : ∀ y, G y = if y = x then l else F y) : Groups (D.put (.int .i64 x) (.slice (lits .i64 l) [])) G := by
  refine ⟨?_, fun y => ?_⟩
  · obtain ⟨es, rfl⟩ := h.1
    exact ⟨_, rfl⟩
  · by_cases hy : y = x
    · subst hy
      have hg : G y = l := by rw [hG, if_pos rfl]
      have hk : WideAt.IsKeyLit (.int .i64 y) := trivial
      rw [atKey_put_same h.1 hk, has_put_same h.1 hk, hg]
      exact ⟨by rw [if_neg hl], by simp [hl]⟩
    · have hg : G y = F y := by rw [hG, if_neg hy]
      rw [atKey_put_other (lit_ne hy), has_put_other (lit_ne hy), hg]
      exact h.2 y
theorem Groups.same {D : DataW Unit} {F G : Int → List Int} (h : Groups D F) (hG : ∀ y, G y = F y) : Groups D G := by
  have : G = F := funext hG
  rw [this]
  exact h
def Coll (D : DataW Unit) (left : Lit → Bool) (out : List Int) : Prop := out.Nodup ∧ ∀ x, x ∈ out ↔ (has D (.int .i64 x) = true ∧ left (.int .i64 x) = false)
theorem Coll.start (D : DataW Unit) : Coll D (has D) [] := ⟨List.nodup_nil, fun x => by cases has D (.int .i64 x) <;> simp⟩
theorem left_at (left : Lit → Bool) (x y : Int) : (left (.int .i64 y) && !(Lit.int .i64 y).sameKey (.int .i64 x)) = false ↔ (left (.int .i64 y) = false ∨ y = x) := by
  by_cases hy : y = x <;> simp [Lit.sameKey, hy]
theorem Coll.yes {D : DataW Unit} {left : Lit → Bool} {out : List Int} (h : Coll D left out) {x : Int} (hlk : left (.int .i64 x) = true) (hhas : has D (.int .i64 x) = true) :
    Coll D (fun z => left z && !z.sameKey (.int .i64 x)) (out ++ [x]) := by
  have hnew : x ∉ out := fun hx => by have := ((h.2 x).1 hx).2; rw [hlk] at this; cases this
  refine ⟨List.nodup_append.2 ⟨h.1, by simp, fun a ha b hb => by simp at hb; subst hb; exact fun e => hnew (e ▸ ha)⟩, fun y => ?_⟩
  rw [List.mem_append, List.mem_singleton, h.2, left_at]
  constructor
  · rintro (⟨h1, h2⟩ | rfl)
    · exact ⟨h1, Or.inl h2⟩
    · exact ⟨hhas, Or.inr rfl⟩
  · rintro ⟨h1, h2 | rfl⟩
    · exact Or.inl ⟨h1, h2⟩
    · exact Or.inr rfl
def srt (l : List Int) : List Int := l.mergeSort fun x y => decide (x ≤ y)
theorem srt_len (l : List Int) : (srt l).length = l.length := List.length_mergeSort l
theorem merge_sorted (l : List Int) : (srt l).Pairwise (fun x y => decide (x ≤ y) = true) :=
  List.pairwise_mergeSort (fun a b c h1 h2 => by simp at *; omega) (fun a b => by simp; omega) l
theorem srt_up (l : List Int) (h : l.Nodup) : Up (srt l) := by
  have h1 := merge_sorted l
  have h2 : (srt l).Nodup := (List.mergeSort_perm l _).nodup_iff.2 h
  unfold Up
  have h3 := h1.and h2
  refine List.Pairwise.imp ?_ h3
  rintro a b ⟨h4, h5⟩
  simp at h4
  have : a ≠ b := h5
  omega
theorem srt_mem (l : List Int) (x : Int) : x ∈ srt l ↔ x ∈ l := List.mem_mergeSort
theorem Coll.sorted {D : DataW Unit} {L : List Int} {left : Lit → Bool} {out : List Int} (h : Coll D left out) (hL : Up L) (hD : ∀ x, has D (.int .i64 x) = true ↔ x ∈ L) (hl : ∀ kl, left kl = false) : srt out = L := by
  refine up_ext _ _ (srt_up out h.1) hL fun m => ?_
  rw [srt_mem, h.2, hD, hl]
  simp
section
variable {P : Program} {k : TypeId} {R : Value → Option (DataW Unit × List MemPlace)} {w w' : World} {b r n : Nat} {D : DataW Unit}
theorem ranges_below {left : Lit → Bool} {cnt B : Nat} (h : w.ranges P k R b r n D left cnt) (hb : Below B w w') (h1 : b < B) (h2 : r < B) : w'.ranges P k R b r n D left cnt := by
  obtain ⟨es, clock, since, seen, c0, e1, e2, e3, e4, e5, e6⟩ := h
  exact ⟨es, clock, since, seen, c0, (hb.block b h1).trans e1, e2, e3, e4, (hb.block r h2).trans e5, e6⟩
theorem Own.turned {B e : Nat} {v : Value} {xs : List Value} (h : Own w B e v xs) (hg : w.grownBy w' (some r)) (hr : r < B) : Own w' B e v xs := by
  obtain ⟨h1, h2⟩ := h
  refine ⟨h1, ?_⟩
  rcases h2 with h2 | ⟨g, cap, cur, hv, hgB, hh, rest⟩
  · exact Or.inl h2
  · exact Or.inr ⟨g, cap, cur, hv, hgB, (hg.block g (lt_of_block hh) (fun e => by have := Option.some.inj e; omega)).trans hh, rest⟩
variable {base e : Nat} {q : IntKind}
theorem ownsInts_below {v : Value} {zs : List Int} (h : w.ownsInts base e q v zs) (hb : Below w.heap.size w w') : w'.ownsInts base e q v zs := ⟨owns_below' h.1 hb, h.2⟩
theorem groups_below (h : w.ownsGroups P k base e q b n D) (hb : Below w.heap.size w w') : w'.ownsGroups P k base e q b n D := by
  obtain ⟨es, clock, hbk, F, hs, rfl, hbb, hlen, hap⟩ := h
  have hblt : b < w.heap.size := (Array.getElem?_eq_some_iff.1 hbk).1
  have hst : ∀ x ∈ es.toList, ∀ z, rowElem (H := Unit) w base e q x.val = some z → rowElem w' base e q x.val = some z := fun x hx z hz => by
    obtain ⟨zs, ho, rfl⟩ := rowElem_inv hz
    exact rowElem_mk (ownsInts_below ho hb)
  obtain ⟨F1, hmap, _⟩ := F.stay hst
  refine ⟨es, clock, (hb.block b hblt).trans hbk, F1, hs, by rw [hmap], hbb, fun x hx zs ho => ?_, hap⟩
  obtain ⟨y, hy⟩ := F.reads x hx
  obtain ⟨z, hz, _⟩ := Go.WideElems.rd_val hy
  obtain ⟨zs0, ho0, _⟩ := rowElem_inv hz
  rw [ho.unique (ownsInts_below ho0 hb)]
  exact hlen x hx zs0 ho0
theorem groups_map (h : w.ownsGroups P k base e q b n D) : w.ownsMap P k (rowElem (H := Unit) w base e q) b n D := by
  obtain ⟨es, clock, hbk, F, hs, hD, _⟩ := h
  exact ⟨es, clock, hbk, F, hs, hD⟩
end
theorem offs_step (d : List UInt8) (i : Nat) (m : Int) (h : tri d i = m) (y : Int) : offsN d y (i + 1) = if y = m then offsN d m i ++ [(i : Int)] else offsN d y i := by
  rw [offsN_succ, h]
  by_cases hy : y = m
  · subst hy; simp
  · rw [if_neg (fun e => hy e.symm), if_neg hy, List.append_nil]
theorem offs_mem (d : List UInt8) (x : Int) : offs d x ≠ [] ↔ x ∈ ofS d := by
  rw [mem_of]
  constructor
  · intro h
    obtain ⟨y, hy⟩ := List.exists_mem_of_ne_nil _ h
    obtain ⟨i, hi, e, _⟩ := (mem_offsN d x _ y).1 hy
    exact ⟨i, by omega, e⟩
  · rintro ⟨i, hi, e⟩ h
    have : (i : Int) ∈ offs d x := (mem_offsN d x _ _).2 ⟨i, by omega, e, rfl⟩
    rw [h] at this
    cases this
end Go.Proofs.YtlnbjdlooghpeaaGreatDoor
namespace Go.Proofs.YtlnbjdlooghpeaaGreatDoor
open Go.RowKit Go.Maps
open Go.ChangeShapes (lits)
theorem keyedI3 : Keyed Tryz.prog 3 := int_keyed Tryz.underlying3
theorem zero38 (w : World) : (zeroValue 34).run Tryz.prog w = .ok (.slice none 0 0) w := by kernel_rfl
def GotMp (w : World) (d : List UInt8) (e : Ending) (w' : World) : Prop :=
  ∃ (b base n : Nat) (D : DataW Unit), e = .returned (.map (some b)) ∧ w'.ownsGroups Tryz.prog 3 base 3 .i64 b n D ∧ Groups D (offs d) ∧ n ≤ 100000 ∧ w.heap.size ≤ b ∧ w.heap.size ≤ base ∧ Below w.heap.size w w'
set_option maxRecDepth 20000 in
set_option maxHeartbeats 1600000 in
theorem offs38 (s : ByteArray) (w : World) (hs : s.size ≤ 100000) : Calls Tryz.prog 39 #[.string s] w (GotMp w s.data.toList) := by
  obtain ⟨i0, hi, hz0, hz1, hz2⟩ := info_parts infoI
  have hmm := @run_makeMap Tryz.prog
  have hfold := fold26 s w hs
  have hcode := codeat25 s
  obtain ⟨d, hd⟩ : ∃ d, s.data.toList = d := ⟨_, rfl⟩
  have hdl : d.length = s.size := by rw [← hd, size_list]
  have hts := foldS_size s
  rw [hd] at hcode ⊢
  obtain ⟨t, ht⟩ : ∃ t, foldS s = t := ⟨_, rfl⟩
  rw [ht] at hfold hcode hts
  have Hcode := hide (show ∀ (k : Nat) (m : Int) (w : World), k + 2 < t.size → tri d k = m → Calls Tryz.prog 80 #[.string t, .int .i64 (k : Int)] w fun e w' => e = .returned (.int .i64 m) ∧ Drawn w w' from fun k m w h1 h2 => hcode k m w (by omega) hs h2)
  have hn : t.size ≤ 100000 := by omega
  have Hdl := hide (show d.length - 2 = t.size - 2 by omega)
  clear hd ht hts hcode hdl hs
  go_enter Tryz.func39, Tryz.ntmps39
  go_wp2_with fail
  refine hfold.mono ?_
  rintro e w1 ⟨rfl, hb1⟩
  have B1 := hide hb1
  clear hb1 hfold
  go_wp2
  go_loopw [14] (fun x wr => ∃ i : Nat, i ≤ t.size - 2 ∧ x = .int .i64 (i : Int) ∧ (∃ D : DataW Unit, wr.ownsGroups Tryz.prog 3 (w1.heap.size + 1) 3 .i64 w1.heap.size i D ∧ Groups D (fun c => offsN d c i)) ∧ Below w1.heap.size w1 wr ∧ w1.heap.size + 1 ≤ wr.heap.size) (fun x _ => t.size - (intOf x).toNat)
  case atStart => exact ⟨0, Nat.zero_le _, rfl, ⟨.map [], World.ownsGroups_made _ _ _ _ _, Groups.start⟩, (Below.refl _ _).alloc (Nat.le_refl _) _, by simp⟩
  case round =>
    obtain ⟨i, hi1, rfl, ⟨D, hown, hgr⟩, hbel, hws⟩ := hrel
    obtain ⟨w2, hw2⟩ : ∃ w2, w2 = wr := ⟨wr, rfl⟩
    subst hw2
    have Ho := hide hown
    have Hg := hide hgr
    have B2 := hide hbel
    by_cases hlt : i + 2 < t.size
    · obtain ⟨m, hm⟩ : ∃ m, tri d i = m := ⟨_, rfl⟩
      have hml := tri_lt d i
      rw [hm] at hml
      have hwm : (Lit.int .i64 m).wf = true := WalkArith.wf_i64 (by omega)
      have hwi : (Lit.int .i64 (i : Int)).wf = true := WalkArith.wf_i64 (by omega)
      have Hm := hide hm
      have Hwm := hide hwm
      have Hwi := hide hwi
      clear hown hgr hbel hm hwm hwi
      go_wp2_with fail
      with_reducible refine (Hcode.out i m _ hlt Hm.out).mono ?_
      rintro e w3 ⟨rfl, hd3⟩
      have hb3 := hd3.below w2.heap.size
      have O3 := hide (groups_below Ho.out hb3)
      have B3 := hide (B2.out.trans (hb3.mono (by omega)))
      have hws3 : w1.heap.size + 1 ≤ w3.heap.size := Nat.le_trans hws hb3.size
      clear hd3 hb3
      go_wp2_with (first
        | (at_lookup; refine wpList_lookup_groups _ rfl _ _ 70 rfl 3 34 3 .i64 keyedI3 Tryz.underlying70 (zero38 _) (w1.heap.size + 1) w1.heap.size i _ rfl O3.out (by unfold maxLen; omega) _ _ rfl (keyOf_int_mk Tryz.underlying3 Hwm.out) ?_; intro v zs hat hoi hzl hback)
        | (at_builtin; refine wpList_append_own_at _ rfl _ _ 34 rfl (w1.heap.size + 1) 3 i0 (.int .i64 0) 1 8 Tryz.underlying34 hi hz0 hz1 hz2 rfl (by decide) _ _ _ rfl (hoi.1.alloc _) ⟨w3.heap.size, 0, none⟩ 1 1 [.int .i64 (i : Int)] rfl rfl (cell_one_new _ _ _) (ints_oneCell .i64 [(i : Int)]) (by unfold maxLen; omega) (by omega) (by simp; omega) ?_; intro v' w4 hown' hgrow hnil hloc)
        | (at_mapUpdate; refine wpList_mapUpdate_back (v' := v') _ rfl _ _ _ 70 rfl hback rfl rfl rfl ((World.grownBy_alloc _ _ _).trans hgrow) (hoi.appended hown' Hwi.out) (by simp; omega) (hloc.imp id (fun h => ⟨_, h, by simp⟩)) ?_; intro w5 hown2 hgrow2)
        | go_in)
      have hall := (World.grownBy_alloc w3 _ _).trans hgrow
      have hzs := Hg.out.is hoi hat
      rw [(hoi.appended hown' Hwi.out).datum_pos (by simp)] at hown2
      have G4 := hide (Hg.out.put (G := fun c => offsN d c (i + 1)) m (zs ++ [(i : Int)]) (by simp) fun y => by
        show offsN d y (i + 1) = _
        rw [offs_step d i m Hm.out y, hzs])
      have O4 := hide hown2
      have B4 := hide (B3.out.groups hoi hall hgrow2 B3.out.size (Nat.le_succ _) (Nat.le_refl _))
      have hws4 := Nat.le_trans hws3 (Nat.le_trans hall.size hgrow2.size)
      clear hown2 hall hzs hgrow hgrow2 hback hat hoi hloc hnil hown'
      go_roundw
      case rel => exact ⟨i + 1, by omega, by go_num, ⟨_, O4.out, G4.out⟩, B4.out, hws4⟩
      case measure => simp [intOf]; omega
    · have G4 := hide (Hg.out.same (G := offs d) fun y => by unfold offs; rw [Hdl.out, show t.size - 2 = i by omega])
      have B4 := hide (B1.out.trans (B2.out.mono B1.out.size))
      have hsz1 := B1.out.size
      clear hown hgr hbel
      go_wp2
      go_ret
      exact ⟨w1.heap.size, w1.heap.size + 1, i, D, rfl, Ho.out, G4.out, by omega, hsz1, by omega, B4.out⟩
end Go.Proofs.YtlnbjdlooghpeaaGreatDoor
namespace Go.Proofs.YtlnbjdlooghpeaaGreatDoor
open Go.RowKit Go.Shelf Go.Sort
theorem num_map (l : List Int) : numCells l = l.map (Value.int .i64) := rfl
theorem sort44 (v : Value) (l : List Int) (B : Nat) (w : World) (h : Own w B 3 v (numCells l)) (hn : l.length ≤ 1000000) :
    Calls Tryz.prog 78 #[v] w fun e w' => e = .returned (.tuple #[]) ∧ Own w' B 3 v (numCells (srt l)) ∧ Below B w w' := by
  obtain ⟨n, hl⟩ : ∃ n, l.length = n := ⟨_, rfl⟩
  unfold Own at h ⊢
  rw [num_len, hl, num_map] at h
  rw [num_len, srt_len, hl, num_map]
  rcases h.2 with ⟨rfl, h0⟩ | ⟨g, cap, cur, rfl, hbase, hb, h1, h2, h3, h4⟩
  · obtain rfl : l = [] := List.eq_nil_of_length_eq_zero (by omega)
    refine (Tryz.slices_Sort_int_none none 0 w).mono ?_
    rintro e w' ⟨rfl, rfl⟩
    have e : srt [] = [] := List.eq_nil_of_length_eq_zero (srt_len [])
    refine ⟨rfl, ?_, Below.refl _ _⟩
    rw [e, ← hl]
    exact World.ownsRow_nil _ _ _ _
  · subst hl
    have hlt : g < w.heap.size := (Array.getElem?_eq_some_iff.1 hb).1
    have hH : Holds (Value.int .i64) w g 0 l.toArray := holds_of_blockI hb (by simpa using h4)
    refine (Tryz.slices_Sort_int g 0 cap l w hH hlt (by omega)).mono ?_
    rintro e w' ⟨rfl, k, os, rfl⟩
    exact ⟨rfl, ownsRow_sortedI (n := k) (os := os) (ts := srt l) (srt_len l) hbase hb h1 h2 h3, (Below.refl B w).grown (grownBy_sortedI _) (by omega) (fun j hj => by cases hj; exact hbase)⟩
end Go.Proofs.YtlnbjdlooghpeaaGreatDoor
namespace Go.Proofs.YtlnbjdlooghpeaaGreatDoor
open Go.RowKit Go.Maps
section
variable {P : Program} (w : World) {ops : Array Oper} {rest : List Oper} {o : Oper} {a : Act} {Q : Exit → Act → World → Prop}
theorem wpList_next_iv (hg : o.guard = none) (it : Operand) (hop : o.op = Op.next it false) (k : TypeId) (qk : IntKind) (K : Keyed P k) (hk : P.underlying k = some (.int qk)) (R : Value → Option (DataW Unit × List MemPlace))
    (b r n : Nat) (D : DataW Unit) (left : Lit → Bool) (cnt : Nat) (hit : a.eval it = .pointer (some ⟨r, 0, none⟩)) (h : w.ranges P k R b r n D left cnt)
    (hDone : cnt = 0 → (∀ kl, left kl = false) → wpList P ops Q rest (a.put o.dst (.tuple #[.bool false])) w)
    (hMore : ∀ (x : Int) (c : Value) (w' : World) (cnt' : Nat), (Lit.int qk x).wf = true → left (.int qk x) = true → has D (.int qk x) = true → w'.ranges P k R b r n D (fun z => left z && !z.sameKey (.int qk x)) cnt' → cnt' < cnt →
      w.grownBy w' (some r) → w'.heap.size = w.heap.size → (Instr.entry (.pointer (some ⟨r, 0, none⟩))).run P w' = .ok (.tuple #[.int qk x, c]) w' → wpList P ops Q rest (a.put o.dst (.tuple #[.bool true, .int qk x, c])) w') :
    wpList P ops Q (o :: rest) a w :=
  wpList_next_ranges w hg it hop k K R (Value.int qk) (fun v : Value => v) (fun key kl hkey => by obtain ⟨x, rfl, _⟩ := Maps.keyOf_int_inv hk hkey; exact ⟨x, rfl⟩) (fun v y _ => ⟨v, rfl⟩)
    b r n D left cnt hit h hDone (fun x c kl y w' cnt' hkey hlk hv hat hrg hlt hgr hsz hen => by
      obtain ⟨x', ex, rfl, hwx⟩ := Maps.keyOf_int_inv hk hkey
      cases ex
      exact hMore x c w' cnt' hwx hlk (has_true_of_atKey hat) hrg hlt hgr hsz hen)
end
set_option maxRecDepth 20000 in
set_option maxHeartbeats 1600000 in
theorem codes39 (R : Value → Option (DataW Unit × List MemPlace)) (b n : Nat) (D : DataW Unit) (L : List Int) (w : World) (hown : w.ownsMap Tryz.prog 3 R b n D) (hL : Up L) (hD : ∀ x, has D (.int .i64 x) = true ↔ x ∈ L) (hn : n ≤ 100000) :
    Calls Tryz.prog 38 #[.map (some b)] w (GotI w L) := by
  obtain ⟨i0, hi, hz0, hz1, hz2⟩ := info_parts infoI
  have HL := hide hL
  have HD := hide hD
  have hDs := hown.size_le
  have hbl := hown.lt
  have Ho := hide hown
  clear hL hD hown
  go_enter Tryz.func38, Tryz.ntmps38
  go_wp2_with (first
    | (at_range; refine wpList_range_own _ rfl _ 70 rfl 3 34 keyedI3 Tryz.underlying70 R b n D rfl Ho.out ?_; intro w2 hrg2 hg2 hs2)
    | go_in)
  go_frame
  have B2 := hide ((Below.refl w.heap.size w).grown hg2 (Nat.le_refl _) fun g hg => by cases hg)
  clear hg2
  go_loopw [3] (fun v wr => ∃ (left : Lit → Bool) (cnt : Nat) (out : List Int), wr.ranges Tryz.prog 3 R b w.heap.size n D left cnt ∧ Own wr (w.heap.size + 1) 3 v (numCells out) ∧ Coll D left out ∧ out.length + cnt ≤ Maps.size D ∧ Below w.heap.size w wr ∧ w.heap.size + 1 ≤ wr.heap.size) (fun _ wr => wr.rangeLeft b w.heap.size)
  case atStart => exact ⟨has D, Maps.size D, [], hrg2, World.ownsRow_nil _ _ _ _, Coll.start D, by simp, B2.out, by omega⟩
  case round =>
    clear hrg2 hs2 B2 Ho
    obtain ⟨left, cnt, out, hrg, hown, hcoll, hlen, hbel, hsz3⟩ := hrel
    obtain ⟨w3, hw3⟩ : ∃ w3, w3 = wr := ⟨wr, rfl⟩
    subst hw3
    obtain ⟨v, hvv⟩ : ∃ v, v = u3 := ⟨u3, rfl⟩
    subst hvv
    have Hcoll := hide hcoll
    have B3 := hide hbel
    have O3 := hide hown
    have hsz4 := hbel.size
    have hnl := num_len out
    clear hcoll hbel hown
    go_wp2_with (first
      | (at_next; refine wpList_next_iv _ rfl _ rfl 3 .i64 keyedI3 Tryz.underlying3 R b w.heap.size _ _ _ _ rfl hrg ?_ ?_)
      | go_in)
    · intro _ hl0
      have Hs := hide (Hcoll.out.sorted HL.out HD.out hl0)
      clear hrg hl0
      go_wp2_with fail
      with_reducible refine (sort44 v out _ _ O3.out (by omega)).mono ?_
      rintro e w4 ⟨rfl, ho4, hb4⟩
      rw [Hs.out] at ho4
      have O4 := hide ho4
      have B4 := hide (B3.out.trans (hb4.mono (by omega)))
      clear ho4 hb4
      go_wp2
      go_ret
      exact GrewI.got ⟨v, rfl, O4.out.mono (by omega), B4.out⟩
    · intro x c0 w4 cnt4 hwx hlx hhas hrg4 hlt4 hg4 hs4 hen
      have O4 := hide (O3.out.turned hg4 (by omega))
      have B4 := hide (B3.out.grown hg4 hsz4 fun g hg => by cases hg; omega)
      have hs4' : w.heap.size + 1 ≤ w4.heap.size := by omega
      have C4 := hide (Hcoll.out.yes hlx hhas)
      have R4 := hide hrg4
      have Rl := hide hrg.left_eq
      have hob : (numCells out).length ≤ 1000000 := by omega
      clear hs4 hhas hlx hrg4 hrg hg4
      go_wp2_with (first
        | (at_builtin; refine wp_push rfl (.tmp 11) (.tmp 13) 34 rfl 3 i0 (.int .i64 0) 8 Tryz.underlying34 hi hz0 hz1 hz2 rfl (w.heap.size + 1) _ (numCells out) rfl _ _ rfl O4.out.src hs4' _ rfl rfl (by omega) (by unfold maxLen; omega) ?_)
        | go_in)
      intro v' w5 ho5 hb5
      rw [show numCells out ++ [Value.int .i64 x] = numCells (out ++ [x]) by rw [num_app]; rfl] at ho5
      have O5 := hide ho5
      have R5 := hide (ranges_below R4.out hb5 (by omega) (by omega))
      have B5 := hide (B4.out.trans (hb5.mono (by omega)))
      have hsz5 := hb5.size
      clear ho5 hb5
      go_wp2
      go_roundw
      case rel => exact ⟨_, cnt4, out ++ [x], R5.out, O5.out, C4.out, by rw [List.length_append, List.length_singleton]; omega, B5.out, by omega⟩
      case measure => rw [R5.out.left_eq, Rl.out]; exact hlt4
theorem GotMp.has {D : DataW Unit} {d : List UInt8} (h : Groups D (offs d)) : ∀ x, has D (.int .i64 x) = true ↔ x ∈ ofS d := fun x => (h.2 x).2.trans (offs_mem d x)
theorem of25 (s : ByteArray) (w : World) (hs : s.size ≤ 4000) : Calls Tryz.prog 11 #[.string s] w (GotI w (ofS s.data.toList)) := by
  go_enter Tryz.func11, Tryz.ntmps11
  go_wp2_with fail
  refine (offs38 s w (by omega)).mono ?_
  rintro e w1 ⟨b, base, n, D, rfl, hown, hgr, hn, -, -, hb⟩
  have Ho := hide (groups_map hown)
  have Hd := hide (GotMp.has hgr)
  have B1 := hide hb
  clear hown hgr hb
  go_wp2_with fail
  with_reducible refine (codes39 _ b n D (ofS s.data.toList) _ Ho.out (up_of _) Hd.out hn).mono ?_
  rintro e w2 ⟨A, m, c, rfl, h2, hb2⟩
  have H2 := hide h2
  have B2 := hide (B1.out.trans (hb2.mono B1.out.size))
  clear h2 hb2
  go_wp2
  go_ret
  exact ⟨_, _, _, rfl, H2.out, B2.out⟩
end Go.Proofs.YtlnbjdlooghpeaaGreatDoor
namespace Go.Proofs.YtlnbjdlooghpeaaGreatDoor
def fbL (f : Bool) (d : List UInt8) (i : Nat) : Nat := if f then fat d i else (d.getD i 0).toNat
def Occ (f : Bool) (d e : List UInt8) (k : Nat) : Prop := k + e.length ≤ d.length ∧ ∀ i, i < e.length → fbL f d (k + i) = fbL f e i
def occB (f : Bool) (d e : List UInt8) (k : Nat) : Bool := decide (k + e.length ≤ d.length) && (List.range e.length).all fun i => decide (fbL f d (k + i) = fbL f e i)
theorem occ_iff (f : Bool) (d e : List UInt8) (k : Nat) : occB f d e k = true ↔ Occ f d e k := by
  unfold occB Occ
  simp [List.all_eq_true]
theorem occ_far {f : Bool} {d e : List UInt8} {k : Nat} (h : d.length < k + e.length) : occB f d e k = false := by
  cases hb : occB f d e k with
  | false => rfl
  | true => have := ((occ_iff f d e k).1 hb).1; omega
def findNL (f : Bool) (d e : List UInt8) (n : Nat) : List Int := ((List.range n).filter fun k => occB f d e k).map fun (k : Nat) => (k : Int)
def findS (f : Bool) (d e : List UInt8) : List Int := findNL f d e (d.length + 1)
theorem findN_succ (f : Bool) (d e : List UInt8) (n : Nat) : findNL f d e (n + 1) = findNL f d e n ++ (if occB f d e n = true then [(n : Int)] else []) := by
  unfold findNL
  rw [List.range_succ, List.filter_append, List.map_append]
  cases h : occB f d e n <;> simp [h]
theorem findN_yes (f : Bool) (d e : List UInt8) (n : Nat) (h : occB f d e n = true) : findNL f d e (n + 1) = findNL f d e n ++ [(n : Int)] := by rw [findN_succ, if_pos h]
theorem findN_noL (f : Bool) (d e : List UInt8) (n : Nat) (h : occB f d e n = false) : findNL f d e (n + 1) = findNL f d e n := by rw [findN_succ, if_neg (by rw [h]; simp), List.append_nil]
theorem mem_findN (f : Bool) (d e : List UInt8) (n : Nat) (x : Int) : x ∈ findNL f d e n ↔ ∃ k : Nat, k < n ∧ Occ f d e k ∧ x = (k : Int) := by
  unfold findNL
  simp only [List.mem_map, List.mem_filter, List.mem_range]
  constructor
  · rintro ⟨k, ⟨h1, h2⟩, rfl⟩; exact ⟨k, h1, (occ_iff f d e k).1 h2, rfl⟩
  · rintro ⟨k, h1, h2, rfl⟩; exact ⟨k, ⟨h1, (occ_iff f d e k).2 h2⟩, rfl⟩
theorem up_findN (f : Bool) (d e : List UInt8) : ∀ n, Up (findNL f d e n)
  | 0 => up_nil
  | n + 1 => by
    rw [findN_succ]
    unfold Up
    rw [List.pairwise_append]
    refine ⟨up_findN f d e n, ?_, fun a ha b hb => ?_⟩
    · split <;> simp
    · obtain ⟨k, hk, _, rfl⟩ := (mem_findN f d e n a).1 ha
      split at hb
      · simp at hb; omega
      · simp at hb
theorem findN_len (f : Bool) (d e : List UInt8) (n : Nat) : (findNL f d e n).length ≤ n := by
  unfold findNL
  rw [List.length_map]
  exact Nat.le_trans (List.length_filter_le _ _) (by simp)
theorem findN_more (f : Bool) (d e : List UInt8) : ∀ j n, d.length < n + e.length → findNL f d e (n + j) = findNL f d e n
  | 0, _, _ => rfl
  | j + 1, n, h => by
    rw [show n + (j + 1) = (n + j) + 1 by omega, findN_noL f d e (n + j) (occ_far (by omega)), findN_more f d e j n h]
theorem find_short (f : Bool) (d e : List UInt8) (h : d.length < e.length) : findS f d e = [] := by
  have := findN_more f d e (d.length + 1) 0 (by omega)
  rw [Nat.zero_add] at this
  exact this
theorem find_upto (f : Bool) (d e : List UInt8) (n : Nat) (h : n + e.length = d.length + 1) : findNL f d e n = findS f d e := by
  by_cases he : e.length = 0
  · unfold findS
    rw [show n = d.length + 1 by omega]
  · have := findN_more f d e (d.length + 1 - n) n (by omega)
    rw [show n + (d.length + 1 - n) = d.length + 1 by omega] at this
    exact this.symm
theorem fb_fold (d : List UInt8) (i : Nat) : fbL true d i = fbL false (d.map fld) i := by
  unfold fbL fat
  rw [if_pos rfl, if_neg (by simp), List.getD_eq_getElem?_getD, List.getD_eq_getElem?_getD, List.getElem?_map]
  cases d[i]? with
  | none => rfl
  | some c => rfl
theorem occ_fold (d e : List UInt8) : occB true d e = occB false (d.map fld) (e.map fld) := by
  funext k
  unfold occB
  rw [List.length_map, List.length_map]
  congr 1
  congr 1
  funext i
  rw [fb_fold, fb_fold]
theorem find_fold (d e : List UInt8) : findS true d e = findS false (d.map fld) (e.map fld) := by
  unfold findS findNL
  rw [occ_fold, List.length_map]
def possS (cs : List Int) (e : List UInt8) : Bool := (ofS e).all fun c => decide (c ∈ cs)
end Go.Proofs.YtlnbjdlooghpeaaGreatDoor
namespace Go.Proofs.YtlnbjdlooghpeaaGreatDoor
def best (p : Nat → Bool) : Nat → Int
  | 0 => -1
  | n + 1 => if p n = true then (n : Int) else best p n
theorem best_lo (p : Nat → Bool) : ∀ n, -1 ≤ best p n
  | 0 => by unfold best; omega
  | n + 1 => by
    unfold best
    split
    · omega
    · exact best_lo p n
theorem best_hi (p : Nat → Bool) : ∀ n, best p n < (n : Int)
  | 0 => by unfold best; omega
  | n + 1 => by
    unfold best
    split
    · omega
    · have := best_hi p n; omega
theorem best_yes (p : Nat → Bool) (j : Nat) : ∀ n, best p n = (j : Int) → p j = true
  | 0, h => by unfold best at h; omega
  | n + 1, h => by
    unfold best at h
    split at h
    · rename_i hp
      obtain rfl : n = j := by omega
      exact hp
    · exact best_yes p j n h
theorem best_max (p : Nat → Bool) (j : Nat) (hj : p j = true) : ∀ n, j < n → (j : Int) ≤ best p n
  | 0, h => by omega
  | n + 1, h => by
    unfold best
    split
    · omega
    · rename_i hp
      by_cases e : j = n
      · subst e; exact absurd hj hp
      · exact best_max p j hj n (by omega)
theorem best_is (p : Nat → Bool) (j n : Nat) (hn : j < n) (hj : p j = true) (hm : ∀ k, k < n → p k = true → k ≤ j) : best p n = (j : Int) := by
  have h1 := best_max p j hj n hn
  have h2 := best_hi p n
  obtain ⟨k, hk⟩ : ∃ k : Nat, best p n = (k : Int) := ⟨(best p n).toNat, by omega⟩
  have h3 := best_yes p k n hk
  have h4 := hm k (by omega) h3
  omega
def Suf (d e : List UInt8) (m n : Nat) : Prop := n ≤ m ∧ n ≤ e.length ∧ ∀ i, i < n → d.getD (m - n + i) 0 = e.getD i 0
def sufB (d e : List UInt8) (m n : Nat) : Bool := decide (n ≤ m) && decide (n ≤ e.length) && (List.range n).all fun i => decide (d.getD (m - n + i) 0 = e.getD i 0)
theorem suf_iff (d e : List UInt8) (m n : Nat) : sufB d e m n = true ↔ Suf d e m n := by
  unfold sufB Suf
  simp [List.all_eq_true, and_assoc]
theorem suf_zero (d e : List UInt8) (m : Nat) : Suf d e m 0 := ⟨Nat.zero_le _, Nat.zero_le _, fun i hi => by omega⟩
theorem Suf.pre {d e : List UInt8} {m n : Nat} (h : Suf d e (m + 1) (n + 1)) : Suf d e m n ∧ d.getD m 0 = e.getD n 0 ∧ n < e.length := by
  obtain ⟨h1, h2, h3⟩ := h
  refine ⟨⟨by omega, by omega, fun i hi => ?_⟩, ?_, by omega⟩
  · have := h3 i (by omega)
    rwa [show m + 1 - (n + 1) + i = m - n + i by omega] at this
  · have := h3 n (by omega)
    rwa [show m + 1 - (n + 1) + n = m by omega] at this
theorem Suf.snoc {d e : List UInt8} {m n : Nat} (h : Suf d e m n) (hb : d.getD m 0 = e.getD n 0) (hn : n < e.length) : Suf d e (m + 1) (n + 1) := by
  obtain ⟨h1, h2, h3⟩ := h
  refine ⟨by omega, by omega, fun i hi => ?_⟩
  by_cases e' : i = n
  · subst e'
    rw [show m + 1 - (i + 1) + i = m by omega]
    exact hb
  · rw [show m + 1 - (n + 1) + i = m - n + i by omega]
    exact h3 i (by omega)
theorem Suf.border {d e : List UInt8} {m n k : Nat} (h : Suf d e m n) (hk : Suf e e n k) : Suf d e m k := by
  obtain ⟨h1, h2, h3⟩ := h
  obtain ⟨k1, k2, k3⟩ := hk
  refine ⟨by omega, by omega, fun i hi => ?_⟩
  have := h3 (n - k + i) (by omega)
  rw [show m - n + (n - k + i) = m - k + i by omega] at this
  rw [this]
  exact k3 i hi
theorem Suf.of_both {d e : List UInt8} {m n k : Nat} (h : Suf d e m n) (hk : Suf d e m k) (hl : k ≤ n) : Suf e e n k := by
  obtain ⟨h1, h2, h3⟩ := h
  obtain ⟨k1, k2, k3⟩ := hk
  refine ⟨hl, by omega, fun i hi => ?_⟩
  have := h3 (n - k + i) (by omega)
  rw [show m - n + (n - k + i) = m - k + i by omega] at this
  rw [← this]
  exact k3 i hi
def bord (e : List UInt8) (n : Nat) : Int := best (sufB e e n) n
def lng (d e : List UInt8) (m : Nat) : Int := best (sufB d e m) (e.length + 1)
theorem bord_lo (e : List UInt8) (n : Nat) : -1 ≤ bord e n := best_lo _ _
theorem bord_hi (e : List UInt8) (n : Nat) : bord e n < (n : Int) := best_hi _ _
theorem lng_nat (d e : List UInt8) (m : Nat) : ∃ j : Nat, lng d e m = (j : Int) ∧ Suf d e m j ∧ j ≤ e.length := by
  have h0 := best_max (sufB d e m) 0 ((suf_iff d e m 0).2 (suf_zero d e m)) (e.length + 1) (by omega)
  have h1 := best_hi (sufB d e m) (e.length + 1)
  refine ⟨(lng d e m).toNat, by unfold lng; omega, (suf_iff d e m _).1 (best_yes _ _ (e.length + 1) (by unfold lng; omega)), by unfold lng; omega⟩
theorem lng_max (d e : List UInt8) (m k : Nat) (h : Suf d e m k) : (k : Int) ≤ lng d e m := best_max _ k ((suf_iff d e m k).2 h) _ (by have := h.2.1; omega)
theorem lng_is (d e : List UInt8) (m j : Nat) (h : Suf d e m j) (hm : ∀ k, Suf d e m k → k ≤ j) : lng d e m = (j : Int) :=
  best_is _ j _ (by have := h.2.1; omega) ((suf_iff d e m j).2 h) fun k _ hk => hm k ((suf_iff d e m k).1 hk)
theorem bord_suf (e : List UInt8) (n j : Nat) (h : bord e n = (j : Int)) : Suf e e n j := (suf_iff e e n j).1 (best_yes _ j n h)
theorem bord_max (e : List UInt8) (n k : Nat) (h : Suf e e n k) (hk : k < n) : (k : Int) ≤ bord e n := best_max _ k ((suf_iff e e n k).2 h) n hk
def Pre (d e : List UInt8) (m : Nat) (n : Int) : Prop := -1 ≤ n ∧ n < (e.length : Int) ∧ (∀ j : Nat, n = (j : Int) → Suf d e m j) ∧ ∀ k, Suf d e (m + 1) (k + 1) → (k : Int) ≤ n
theorem Pre.none {d e : List UInt8} {m : Nat} (h : Pre d e m (-1)) : lng d e (m + 1) = 0 :=
  lng_is d e (m + 1) 0 (suf_zero _ _ _) fun k hk => by
    cases k with
    | zero => omega
    | succ k => have := h.2.2.2 k hk; omega
theorem Pre.done {d e : List UInt8} {m j : Nat} (h : Pre d e m (j : Int)) (hb : d.getD m 0 = e.getD j 0) : lng d e (m + 1) = (j : Int) + 1 := by
  have := lng_is d e (m + 1) (j + 1) ((h.2.2.1 j rfl).snoc hb (by have := h.2.1; omega)) fun k hk => by
    cases k with
    | zero => omega
    | succ k => have := h.2.2.2 k hk; omega
  rw [this]
  omega
theorem pre_down {d e : List UInt8} {m j : Nat} (h : Suf d e m j) (hm : ∀ k, Suf d e (m + 1) (k + 1) → k < j) (hj : j ≤ e.length) : Pre d e m (bord e j) := by
  refine ⟨bord_lo e j, by have := bord_hi e j; omega, fun k hk => h.border (bord_suf e j k hk), fun k hk => ?_⟩
  have hl := hm k hk
  exact bord_max e j k (h.of_both hk.pre.1 (by omega)) hl
theorem Pre.next {d e : List UInt8} {m j : Nat} (h : Pre d e m (j : Int)) (hb : d.getD m 0 ≠ e.getD j 0) : Pre d e m (bord e j) :=
  pre_down (h.2.2.1 j rfl) (fun k hk => by
    have h1 := h.2.2.2 k hk
    have h2 := hk.pre.2.1
    by_cases e' : k = j
    · subst e'; exact absurd h2 hb
    · omega) (by have := h.2.1; omega)
theorem pre_lng {d e : List UInt8} {m j : Nat} (h : lng d e m = (j : Int)) (hj : j < e.length) : Pre d e m (j : Int) := by
  obtain ⟨j', h1, h2, _⟩ := lng_nat d e m
  obtain rfl : j = j' := by omega
  refine ⟨by omega, by omega, fun k hk => ?_, fun k hk => ?_⟩
  · obtain rfl : j = k := by omega
    exact h2
  · rw [← h]
    exact lng_max d e m k hk.pre.1
theorem pre_full {d e : List UInt8} {m j : Nat} (h : lng d e m = (j : Int)) (hj : j = e.length) : Pre d e m (bord e j) := by
  obtain ⟨j', h1, h2, _⟩ := lng_nat d e m
  obtain rfl : j = j' := by omega
  exact pre_down h2 (fun k hk => by have := hk.2.1; omega) (by omega)
theorem drop_atL (e : List UInt8) (i : Nat) : (e.drop 1).getD i 0 = e.getD (i + 1) 0 := by
  rw [List.getD_eq_getElem?_getD, List.getD_eq_getElem?_getD, List.getElem?_drop, Nat.add_comm]
theorem suf_drop (e : List UInt8) (m k : Nat) (hk : k ≤ m) : Suf (e.drop 1) e m k ↔ Suf e e (m + 1) k := by
  unfold Suf
  constructor
  · rintro ⟨_, h2, h3⟩
    refine ⟨by omega, h2, fun i hi => ?_⟩
    have := h3 i hi
    rw [drop_atL] at this
    rwa [show m + 1 - k + i = m - k + i + 1 by omega]
  · rintro ⟨_, h2, h3⟩
    refine ⟨hk, h2, fun i hi => ?_⟩
    rw [drop_atL, show m - k + i + 1 = m + 1 - k + i by omega]
    exact h3 i hi
theorem bord_next (e : List UInt8) (m : Nat) : bord e (m + 1) = lng (e.drop 1) e m := by
  obtain ⟨j, h1, h2, h3⟩ := lng_nat (e.drop 1) e m
  rw [h1]
  have hj := h2.1
  refine best_is _ j _ (by omega) ((suf_iff _ _ _ _).2 ((suf_drop e m j hj).1 h2)) fun k hk hs => ?_
  have := lng_max (e.drop 1) e m k ((suf_drop e m k (by omega)).2 ((suf_iff _ _ _ _).1 hs))
  omega
theorem bord_one (e : List UInt8) : bord e 1 = 0 :=
  best_is _ 0 _ (by omega) ((suf_iff _ _ _ _).2 (suf_zero _ _ _)) fun k hk _ => by omega
theorem pre_bord (e : List UInt8) (m : Nat) (hm : m < e.length) : Pre (e.drop 1) e m (bord e (m + 1)) := by
  have h := bord_next e m
  obtain ⟨j, h1, h2, h3⟩ := lng_nat (e.drop 1) e m
  rw [h, h1]
  have hj := h2.1
  exact pre_lng h1 (by omega)
def bords (e : List UInt8) (n : Nat) : List Int := (List.range n).map (bord e)
theorem bords_len (e : List UInt8) (n : Nat) : (bords e n).length = n := by simp [bords]
theorem bords_succ (e : List UInt8) (n : Nat) : bords e (n + 1) = bords e n ++ [bord e n] := by
  unfold bords
  rw [List.range_succ, List.map_append]
  rfl
theorem bords_at (e : List UInt8) (n i : Nat) (h : i < n) : (bords e n)[i]? = some (bord e i) := by
  unfold bords
  rw [List.getElem?_map, List.getElem?_range h]
  rfl
theorem occ_suf (d e : List UInt8) (k : Nat) (hk : k + e.length ≤ d.length) : occB false d e k = true ↔ Suf d e (k + e.length) e.length := by
  rw [occ_iff]
  unfold Occ Suf
  constructor
  · rintro ⟨_, h⟩
    refine ⟨by omega, Nat.le_refl _, fun i hi => ?_⟩
    have := h i hi
    unfold fbL at this
    rw [if_neg (by simp), if_neg (by simp)] at this
    rw [show k + e.length - e.length + i = k + i by omega]
    exact UInt8.toNat_inj.1 this
  · rintro ⟨_, _, h⟩
    refine ⟨hk, fun i hi => ?_⟩
    have := h i hi
    rw [show k + e.length - e.length + i = k + i by omega] at this
    unfold fbL
    rw [if_neg (by simp), if_neg (by simp), this]
theorem lng_full (d e : List UInt8) (m j : Nat) (h : lng d e m = (j : Int)) : j = e.length ↔ Suf d e m e.length := by
  obtain ⟨j', h1, h2, h3⟩ := lng_nat d e m
  obtain rfl : j = j' := by omega
  constructor
  · intro h'; rw [← h']; exact h2
  · intro h'
    have := lng_max d e m _ h'
    omega
theorem find_yes (d e : List UInt8) (m j : Nat) (h : lng d e m = (j : Int)) (hm : m ≤ d.length) (hj : j = e.length) : e.length ≤ m ∧ findNL false d e (m + 1 - e.length) = findNL false d e (m - e.length) ++ [((m - e.length : Nat) : Int)] := by
  have hs := (lng_full d e m j h).1 hj
  have hl := hs.1
  refine ⟨hl, ?_⟩
  rw [show m + 1 - e.length = (m - e.length) + 1 by omega]
  refine findN_yes false d e (m - e.length) ((occ_suf d e _ (by omega)).2 ?_)
  rw [show m - e.length + e.length = m by omega]
  exact hs
theorem find_no (d e : List UInt8) (m j : Nat) (h : lng d e m = (j : Int)) (hm : m ≤ d.length) (hj : j ≠ e.length) : findNL false d e (m + 1 - e.length) = findNL false d e (m - e.length) := by
  by_cases hl : e.length ≤ m
  · rw [show m + 1 - e.length = (m - e.length) + 1 by omega]
    refine findN_noL false d e (m - e.length) ?_
    cases hb : occB false d e (m - e.length) with
    | false => rfl
    | true =>
      have := (occ_suf d e (m - e.length) (by omega)).1 hb
      rw [show m - e.length + e.length = m by omega] at this
      exact absurd ((lng_full d e m j h).2 this) hj
  · rw [show m + 1 - e.length = 0 by omega, show m - e.length = 0 by omega]
theorem find_end (d e : List UInt8) : findNL false d e (d.length + 1 - e.length) = findS false d e := by
  by_cases h : e.length ≤ d.length
  · exact find_upto false d e _ (by omega)
  · rw [show d.length + 1 - e.length = 0 by omega, find_short false d e (by omega)]
    rfl
theorem lng_zero (d e : List UInt8) : lng d e 0 = 0 := lng_is d e 0 0 (suf_zero _ _ _) fun _ hk => hk.1
end Go.Proofs.YtlnbjdlooghpeaaGreatDoor
namespace Go.Proofs.YtlnbjdlooghpeaaGreatDoor
def missS (l cs : List Int) : List Int := l.filter fun c => decide (c ∉ cs)
theorem miss_nil (cs : List Int) (e : List UInt8) : possS cs e = true ↔ missS (ofS e) cs = [] := by
  unfold possS missS
  rw [List.all_eq_true, List.filter_eq_nil_iff]
  simp
end Go.Proofs.YtlnbjdlooghpeaaGreatDoor
namespace Go.Proofs.YtlnbjdlooghpeaaGreatDoor
open Go.RowKit
open Go.ChangeShapes (block_add)
theorem Own.set_other {w : World} {B b : Nat} {e : TypeId} {v : Value} {xs : List Value} (h : Own w B e v xs) (hb : b < B) (o : Nat) (u : Value) : Own (w.setCell ⟨b, o, none⟩ u) B e v xs :=
  ownsRow_setCell_other h (fun e => by have := (h.lt b e).1; omega) u
end Go.Proofs.YtlnbjdlooghpeaaGreatDoor
namespace Go.Proofs.YtlnbjdlooghpeaaGreatDoor
open Go.RowKit
structure Ext (t : ByteArray) (bs : List Int) (y : UInt8) (r : Int) (Q : Int → Prop) : Prop where
  lo : ∀ z, Q z → -1 ≤ z
  ins : ∀ j : Nat, Q (j : Int) → j < t.size ∧ j < bs.length
  step : ∀ (j : Nat) (b : Int) (h : j < t.size), Q (j : Int) → t[j] ≠ y → bs[j]? = some b → Q b ∧ b < (j : Int)
  done : ∀ (j : Nat) (h : j < t.size), Q (j : Int) → t[j] = y → r = (j : Int) + 1
  none : Q (-1) → r = 0
set_option maxRecDepth 20000 in
set_option maxHeartbeats 1600000 in
theorem ext41 (Bl Bb : Nat) (t : ByteArray) (A : Option Addr) (m c : Nat) (bs : List Int) (y : UInt8) (r x : Int) (Q : Int → Prop) (w : World)
    (hl : w.cell? ⟨Bl, 0, none⟩ = some (.string t)) (hb : w.cell? ⟨Bb, 0, none⟩ = some (.slice A m c)) (hs : Sl w A m c (numCells bs)) (ht : t.size ≤ 100000) (hE : Ext t bs y r Q) (hx : Q x) :
    Calls Tryz.prog 96 #[.int .i64 x, .int .u8 (y.toNat : Int), .pointer (some ⟨Bl, 0, none⟩), .pointer (some ⟨Bb, 0, none⟩)] w fun e w' => e = .returned (.int .i64 r) ∧ w = w' := by
  have E := hide hE
  have S := hide hs
  have Hx := hide hx
  have Hlen := hide hs.nlen
  have hmc := hs.1
  clear hE hs hx
  go_enter Tryz.func96, Tryz.ntmps96
  go_wp2
  go_loop [0] (fun u => ∃ z : Int, u = .int .i64 z ∧ Q z) (fun u => (intOf u + 1).toNat)
  case atStart => exact ⟨x, rfl, Hx.out⟩
  case round =>
    obtain ⟨z, rfl, hq⟩ := hrel
    have hlo := E.out.lo z hq
    have Hq := hide hq
    clear hq
    by_cases hneg : z = -1
    · subst hneg
      have Hr := hide (E.out.none Hq.out)
      go_wp2
      go_ret
      exact ⟨ret_int Hr.out.symm, rfl⟩
    · obtain ⟨j, rfl⟩ : ∃ j : Nat, z = (j : Int) := ⟨z.toNat, by omega⟩
      obtain ⟨hj, hjb⟩ := E.out.ins j Hq.out
      have hjm : j < m := by rw [Hlen.out] at hjb; exact hjb
      have hge : decide ((j : Int) ≥ 0) = true := decide_eq_true (by omega)
      by_cases he : t[j] = y
      · have Hr := hide (E.out.done j hj Hq.out he)
        have hne : ((t[j].toNat : Int) != (y.toNat : Int)) = false := by rw [he]; simp
        have hlt : (j : Int) < 9223372036854775807 := by omega
        clear he
        go_wp2
        go_ret
        exact ⟨ret_int Hr.out.symm, rfl⟩
      · have hne : ((t[j].toNat : Int) != (y.toNat : Int)) = true := by
          rw [bne_iff_ne]
          intro h
          exact he (UInt8.toNat_inj.1 (by omega))
        obtain ⟨ad, b, rfl, hbz, hcell⟩ := num_cell S.out.reads hjm
        obtain ⟨hqb, hbl⟩ := E.out.step j b hj Hq.out he hbz
        have Hqb := hide hqb
        have hbo := E.out.lo b hqb
        clear he hbz hqb
        go_wp2
        go_round
        case rel => exact ⟨b, rfl, Hqb.out⟩
        case measure => simp [intOf]; omega
end Go.Proofs.YtlnbjdlooghpeaaGreatDoor
namespace Go.Proofs.YtlnbjdlooghpeaaGreatDoor
open Go.RowKit
open Go.ChangeShapes (block_add)
def Ag (Y X : Nat) (w w' : World) : Prop := w.heap.size ≤ w'.heap.size ∧ ∀ b, Y ≤ b → b < X → w'.heap[b]? = w.heap[b]?
theorem Ag.refl (Y X : Nat) (w : World) : Ag Y X w w := ⟨Nat.le_refl _, fun _ _ _ => rfl⟩
theorem Ag.trans {Y X : Nat} {a b c : World} (h : Ag Y X a b) (k : Ag Y X b c) : Ag Y X a c := ⟨Nat.le_trans h.1 k.1, fun g h1 h2 => (k.2 g h1 h2).trans (h.2 g h1 h2)⟩
theorem Ag.cell {Y X : Nat} {w w' : World} (h : Ag Y X w w') {p : Addr} (h1 : Y ≤ p.block) (h2 : p.block < X) : w'.cell? p = w.cell? p := World.cell?_of_block (h.2 _ h1 h2)
def SlX (w : World) (Y X : Nat) (A : Option Addr) (n c : Nat) (xs : List Value) : Prop := Sl w A n c xs ∧ ∀ ad, A = some ad → Y ≤ ad.block ∧ ad.block < X
theorem SlX.ag {w w' : World} {Y X : Nat} {A : Option Addr} {n c : Nat} {xs : List Value} (h : SlX w Y X A n c xs) (ha : Ag Y X w w') : SlX w' Y X A n c xs := by
  obtain ⟨⟨h1, h2, h3, h4⟩, h5⟩ := h
  refine ⟨⟨h1, h2, h3, h4.1, fun k u hu => ?_⟩, h5⟩
  obtain ⟨ad, e, hb, hc⟩ := h4.2 k u hu
  obtain ⟨a1, a2⟩ := h5 ad e
  exact ⟨ad, e, Nat.lt_of_lt_of_le hb ha.1, (ha.cell (p := ad.add k) (by rw [block_add]; exact a1) (by rw [block_add]; exact a2)).trans hc⟩
def StF (w : World) (B X : Nat) (W : World) (l : List Int) : Prop :=
  B < X ∧ X ≤ W.heap.size ∧ (∃ v, W.heap[B]? = some (.cells #[v] 34 (0, 0)) ∧ Own W X 3 v (numCells l)) ∧ Below B w W
set_option maxRecDepth 20000 in
set_option maxHeartbeats 1600000 in
theorem visit27 (w : World) (B X : Nat) (W : World) (l : List Int) (k : Nat) (h : StF w B X W l) (hl : l.length ≤ 100001) :
    Calls Tryz.prog 52 #[.int .i64 (k : Int), .pointer (some ⟨B, 0, none⟩)] W fun e W' => e = .returned (.tuple #[]) ∧ StF w B X W' (l ++ [(k : Int)]) ∧ Ag (B + 1) X W W' := by
  obtain ⟨i0, hi, hz0, hz1, hz2⟩ := info_parts infoI
  obtain ⟨hBX, hX, ⟨v, hv, ho⟩, hb⟩ := h
  have hlen : (numCells l).length ≤ 100001 := by rw [num_len]; exact hl
  have hc := cell_of_one hv
  have E := hide (show numCells l ++ [.int .i64 (k : Int)] = numCells (l ++ [(k : Int)]) by rw [num_app]; rfl)
  have Hv := hide hv
  have Ho := hide ho
  have Hb := hide hb
  clear hv ho hb hl
  go_enter Tryz.func52, Tryz.ntmps52
  go_wp2_with (first
    | (at_builtin; refine wp_push rfl (.tmp 3) (.tmp 5) 34 rfl 3 i0 (.int .i64 0) 8 Tryz.underlying34 hi hz0 hz1 hz2 rfl X v (numCells l) rfl W _ rfl Ho.out.src hX _ rfl rfl (by omega) (by unfold maxLen; omega) ?_; intro v' W1 ho1 hb1; have hv1 := (hb1.block B hBX).trans Hv.out; have hc1 := cell_of_one hv1; have hf1 := free_of_one hv1; have Hv1 := hide hv1; have B1 := hide hb1; have O1 := hide ho1; rw [E.out] at ho1; obtain ⟨A', m', c', rfl, -, -⟩ := ho1.slI; clear hv1 hb1 ho1)
    | fail)
  go_end0
  have hs1 := B1.out.size
  have O2 := O1.out.set_other hBX 0 (.slice A' m' c')
  rw [E.out] at O2
  exact ⟨rfl, ⟨hBX, by simp [World.setCell]; omega, ⟨_, one_setCell Hv1.out, O2⟩, (Hb.out.trans (B1.out.mono (by omega))).setCell (Nat.le_refl _) _⟩, by simp [World.setCell]; omega, fun b h1 h2 => (Below.heap_setCell W1 ⟨B, 0, none⟩ _ b (by show b ≠ B; omega)).trans (B1.out.block b h2)⟩
end Go.Proofs.YtlnbjdlooghpeaaGreatDoor
namespace Go.Proofs.YtlnbjdlooghpeaaGreatDoor
open Go.RowKit
theorem ext_bord (t : ByteArray) (k : Nat) (hk : k < t.size) : ∃ Q, Ext t (bords t.data.toList (k + 1)) t[k] (bord t.data.toList (k + 1)) Q ∧ Q (bord t.data.toList k) := by
  have ls := size_list t
  have gd := getD_byte t
  obtain ⟨e, he⟩ : ∃ e, t.data.toList = e := ⟨_, rfl⟩
  rw [he] at ls gd ⊢
  cases k with
  | zero =>
    refine ⟨fun z => z = -1, ⟨fun z hz => by omega, fun j hj => by omega, fun j b _ hj => by omega, fun j _ hj => by omega, fun _ => bord_one e⟩, rfl⟩
  | succ m =>
    have hy : (e.drop 1).getD m 0 = t[m + 1] := by rw [drop_atL]; exact gd (m + 1) hk
    refine ⟨Pre (e.drop 1) e m, ⟨fun z hz => hz.1, fun j hj => ?_, fun j b h hj hne hb => ?_, fun j h hj heq => ?_, fun hz => ?_⟩, pre_bord e m (by omega)⟩
    · have h1 := (hj.2.2.1 j rfl).1
      have h2 := hj.2.1
      rw [bords_len]
      constructor <;> omega
    · have h1 := (hj.2.2.1 j rfl).1
      rw [bords_at e (m + 1 + 1) j (by omega)] at hb
      obtain rfl : bord e j = b := by simpa using hb
      refine ⟨hj.next ?_, bord_hi e j⟩
      rw [hy, gd j h]
      exact fun h' => hne h'.symm
    · rw [bord_next e (m + 1)]
      exact hj.done (by rw [hy, gd j h, heq])
    · rw [bord_next e (m + 1)]
      exact hz.none
theorem ext_lng (s t : ByteArray) (m : Nat) (hm : m < s.size) : Ext t (bords t.data.toList (t.size + 1)) s[m] (lng s.data.toList t.data.toList (m + 1)) (Pre s.data.toList t.data.toList m) := by
  have ls := size_list t
  have gd := getD_byte t
  have hy := getD_byte s m hm
  obtain ⟨e, he⟩ : ∃ e, t.data.toList = e := ⟨_, rfl⟩
  obtain ⟨d, hd⟩ : ∃ d, s.data.toList = d := ⟨_, rfl⟩
  rw [he] at ls gd ⊢
  rw [hd] at hy ⊢
  refine ⟨fun z hz => hz.1, fun j hj => ?_, fun j b h hj hne hb => ?_, fun j h hj heq => ?_, fun hz => hz.none⟩
  · have h2 := hj.2.1
    rw [bords_len]
    constructor <;> omega
  · rw [bords_at e (t.size + 1) j (by omega)] at hb
    obtain rfl : bord e j = b := by simpa using hb
    refine ⟨hj.next ?_, bord_hi e j⟩
    rw [hy, gd j h]
    exact fun h' => hne h'.symm
  · exact hj.done (by rw [hy, gd j h, heq])
theorem own_heap {w W : World} {B e : Nat} {sz n : Nat} {v : Value} {xs : List Value} (h : w.ownsRow B e sz v n xs) (hw : W.heap = w.heap) : W.ownsRow B e sz v n xs := by
  obtain ⟨h1, h2⟩ := h
  refine ⟨h1, ?_⟩
  rcases h2 with h2 | ⟨g, cap, cur, hv, hg, hh, r⟩
  · exact Or.inl h2
  · exact Or.inr ⟨g, cap, cur, hv, hg, by rw [hw]; exact hh, r⟩
theorem sl_heap {w W : World} {A : Option Addr} {n c : Nat} {xs : List Value} (h : Sl w A n c xs) (hw : W.heap = w.heap) : Sl W A n c xs := by
  obtain ⟨h1, h2, h3, h4⟩ := h
  refine ⟨h1, h2, h3, h4.1, fun k u hu => ?_⟩
  obtain ⟨ad, e, hb, hc⟩ := h4.2 k u hu
  refine ⟨ad, e, by rw [hw]; exact hb, ?_⟩
  rw [← hc]
  exact World.cell?_of_block (by rw [hw])
theorem cap_sl {B Bl n : Nat} {T : TypeId} {bs : List Int} {w : World} (h : Cap B Bl T 3 1 n (numCells bs) w) (hn : 0 < n) : ∃ g cap, w.heap[Bl]? = some (.cells #[.slice (some ⟨g, 0, none⟩) n cap] T (0, 0)) ∧ w.ownsRow B 3 1 (.slice (some ⟨g, 0, none⟩) n cap) n (numCells bs) ∧ Sl w (some ⟨g, 0, none⟩) n cap (numCells bs) ∧ B ≤ g ∧ g < w.heap.size := by
  obtain ⟨_, v, hv, ho⟩ := h
  obtain ⟨g, cap, rfl, h1, h2⟩ := ho.form hn
  have hl : (numCells bs).length = n := by have := ho.1; omega
  have ho' : Own w B 3 (.slice (some ⟨g, 0, none⟩) n cap) (numCells bs) := by unfold Own; rw [hl]; exact ho
  obtain ⟨A, c, e, hs⟩ := ho'.sl
  rw [hl] at hs e
  cases e
  exact ⟨g, cap, hv, ho, hs, h1, h2⟩
end Go.Proofs.YtlnbjdlooghpeaaGreatDoor
