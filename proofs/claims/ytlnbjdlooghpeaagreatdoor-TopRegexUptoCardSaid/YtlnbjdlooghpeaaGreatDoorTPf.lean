/- TopRegex: Pf. -/
import Derived.Test.YtlnbjdlooghpeaaGreatDoorTPe
namespace Go.Proofs.YtlnbjdlooghpeaaGreatDoor
open Go.RowKit Go.Maps
open Go.Lib (byteCells byteCells_append)
theorem set_comm (w : World) (a b : Addr) (u v : Value) (h : a.block ≠ b.block) : (w.setCell a u).setCell b v = (w.setCell b v).setCell a u := by
  unfold World.setCell
  congr 1
  apply Array.ext
  · simp
  · intro i h1 h2
    simp only [Array.getElem_modify]
    by_cases ha : a.block = i
    · have hb : ¬ b.block = i := fun e => h (ha.trans e.symm)
      simp only [ha, hb, if_true, if_false]
    · simp only [ha, if_false]
theorem putAt_comm (w : World) (b o q : Nat) (u0 u1 u2 v : Value) (h : q ≠ b) : putAt (w.setCell ⟨q, 0, none⟩ v) b o u0 u1 u2 = (putAt w b o u0 u1 u2).setCell ⟨q, 0, none⟩ v := by
  unfold putAt
  rw [set_comm w ⟨q, 0, none⟩ ⟨b, o, none⟩ v u0 h, set_comm _ ⟨q, 0, none⟩ ⟨b, o + 1, none⟩ v u1 h, set_comm _ ⟨q, 0, none⟩ ⟨b, o + 2, none⟩ v u2 h]
theorem ownN_kept {w w' : World} {B b : Nat} {ok : Nat → Prop} {v : Value} {xs : List Nd} (h : OwnN w B ok v xs) (hb : b < B) (hg : w.grownBy w' (some b)) (hok : ∀ g, ok g → g ≠ b) : OwnN w' B ok v xs := by
  obtain ⟨cs, vs, h1, h2, h3, h4⟩ := h
  refine ⟨cs, vs, ⟨h1.1, ?_⟩, h2, h3, fun i u x hu hx => (h4 i u x hu hx).map (fun q hq hl => World.cell?_of_block (hg.block _ hl (fun e => by injection e with e; exact hok _ hq.1 e))) fun _ hq _ => hq⟩
  rcases h1.2 with h5 | ⟨g, cap, cur, hv, hB, hh, hr⟩
  · exact Or.inl h5
  · exact Or.inr ⟨g, cap, cur, hv, hB, (hg.block g (h1.lt g (by rw [hv]; rfl)).2 (fun e => by injection e with e; omega)).trans hh, hr⟩
theorem own_cells {w : World} {B g cap n : Nat} {ok : Nat → Prop} {xs : List Nd} (h : OwnN w B ok (.slice (some ⟨g, 0, none⟩) (n + 1) cap) (xs ++ [.mk 0 0 []])) (hn : xs.length = n) :
    (∃ c0, w.cell? ⟨g, n * 3, none⟩ = some c0) ∧ (∃ c1, w.cell? ⟨g, n * 3 + 1, none⟩ = some c1) ∧ (∃ c2, w.cell? ⟨g, n * 3 + 2, none⟩ = some c2) ∧ ∀ j, w.frozen? ⟨g, j, none⟩ = false := by
  subst hn
  obtain ⟨cs, vs, hrow, -, -, -⟩ := h
  have hl : (xs ++ [Nd.mk 0 0 []]).length = xs.length + 1 := by simp
  rw [hl] at hrow
  have hcl : cs.length = (xs.length + 1) * 3 := hrow.1
  have key : ∀ j, j < cs.length → ∃ c, w.cell? ⟨g, j, none⟩ = some c := fun j hj => ⟨cs[j], by rw [hrow.cellAt j (by omega), List.getElem?_eq_getElem hj]⟩
  refine ⟨key _ (by omega), key _ (by omega), key _ (by omega), fun j => ?_⟩
  rcases hrow.2 with ⟨h0, _⟩ | ⟨g', cap', cur, hv, hB, hh, hr⟩
  · cases h0
  · simp only [Value.slice.injEq, Option.some.injEq, Addr.mk.injEq, and_true, true_and] at hv
    obtain ⟨rfl, rfl⟩ := hv
    simp [World.frozen?, hh]
set_option maxRecDepth 100000 in
set_option maxHeartbeats 6400000 in
theorem take78 {h0 : Nat} {k N D : Int} {W : World} {p : Bool × List Nd} {vo v : Value} {x : Nd} (hN : N = skipK k) (hD : D = endK k) (hS : JSt h0 N D W p vo) (hv : NdV W (fun g => h0 + 8 ≤ g ∧ vo.ownBlock ≠ some g) v x) (hx : NmN x) (hall : AllNm p)
    (hsx : sizeN x ≤ 1000000) (hpl : p.2.length ≤ 4000000) :
    Calls Tryz.prog 106 #[v, .pointer (some ⟨h0 + 2, 0, none⟩), .pointer (some ⟨h0 + 5, 0, none⟩), .pointer (some ⟨h0 + 1, 0, none⟩), .pointer (some ⟨h0 + 7, 0, none⟩), .pointer (some ⟨h0 + 4, 0, none⟩)] W
      fun e w' => e = .returned (.tuple #[]) ∧ ∃ vo', JSt h0 N D w' (takeP k p x) vo' ∧ JRel h0 W w' vo vo' ∧ Below h0 W w' := by
  obtain ⟨k', g', A, m, d, rfl, hk', hg', hm', hmd, hdd, hkk, hgg⟩ := ndv_shape hv
  obtain ⟨i0, hi0, hz0, hz1, hz2⟩ := info_parts infoN
  have hW8 := hS.1
  have hb1 := bel_alloc W (.cells #[.int .i64 k', .int .i64 g', .slice A m d] 32)
  have f1 := tri3_alloc W k' g' A m d 32
  have F1 := hide f1
  obtain ⟨-, t0, t1, t2⟩ := f1
  have HC := hide (key79 x hx.wf hsx (W.alloc (.cells #[.int .i64 k', .int .i64 g', .slice A m d] 32)) (W.alloc (.cells #[.int .i64 k', .int .i64 g', .slice A m d] 32)).heap.size (.slice none 0 0) _ [] ((hv.kept hb1).weak fun _ _ => by simp [Value.ownBlock]) (World.ownsRow_nil _ _ _ _) (Nat.le_refl _) (by simp; omega))
  have BB := hide hb1
  have S1 := hide (hS.below hb1)
  have V1 := hide (hv.kept hb1)
  have Hk := hide hk'
  have Hpw := hide (show ∀ y ∈ p.2, WfN y from fun y hy => (hall y hy).wf)
  have Hxw := hide hx.wf
  clear hk' hg' hm' hv hS hb1 hall
  go_enter Tryz.func106, Tryz.ntmps106
  go_wp2_with fail
  with_reducible refine HC.out.mono ?_
  rintro e w2 ⟨kv2, rfl, ho2, hb2, hf2⟩
  obtain ⟨A2, n2, c2, rfl, hn2, hs2⟩ := ho2.sl5
  have hconv := conv_run (P := Tryz.prog) hs2.reads 129 9 5 Tryz.underlying129 Tryz.underlying5 Tryz.underlying9 (fun e => by have := hs2.2.2.1 e; have := hs2.1; omega) (c := c2)
  rw [List.nil_append] at hconv
  obtain ⟨ks, hks⟩ : ∃ ks : ByteArray, (⟨(keyN x).toArray⟩ : ByteArray) = ks := ⟨_, rfl⟩
  rw [hks] at hconv
  have Hks := hide (show ks.data.toList = keyN x by rw [← hks])
  have Hksz := hide (show ks.size ≤ maxLen by
    have := keyN_len x
    rw [← hks]
    simp only [ByteArray.size, List.size_toArray, maxLen]
    omega)
  have S2 := hide (S1.out.below hb2)
  have F2 := hide (F1.out.keep hb2)
  have V2 := hide (V1.out.kept hb2)
  have BB2 := hide (bgo BB.out hb2)
  have hW2 : W.heap.size < w2.heap.size := by have := F2.out.1; exact this
  clear HC ho2 hb2 hf2 hs2 hks hn2 S1 F1 V1 BB
  obtain ⟨-, t0, t1, t2⟩ := F2.out
  obtain ⟨-, a1, a2, ⟨a3, a3'⟩, a5, ⟨Dm, a6, a7⟩, ⟨a8, a8'⟩, a10⟩ := S2.out
  have Hrel := hide (JRel.of_below (h0 := h0) (vo := vo) BB2.out)
  have B2 := hide (BB2.out.mono (show h0 ≤ W.heap.size by omega))
  by_cases he : x.kind = endK k
  · have Ht := hide (show takeP k p x = (true, p.2) by unfold takeP; rw [if_pos he])
    have q1 : (k' == D) = true := ibeq (by rw [Hk.out, hD, he])
    obtain ⟨hst, hrel⟩ := S2.out.decided
    have S3 := hide hst
    have R3 := hide (Hrel.out.trans hrel)
    have B3 := hide (B2.out.setCell (p := ⟨h0 + 5, 0, none⟩) (show h0 ≤ h0 + 5 by omega) (.bool true))
    clear hst hrel he a6 a7 a10 hN hD
    go_wp2
    go_end0
    exact ⟨rfl, vo, by rw [Ht.out]; exact S3.out, R3.out, B3.out⟩
  have q1 : (k' == D) = false := ibne (by rw [Hk.out, hD]; exact he)
  by_cases hs : x.kind = skipK k
  · have Ht := hide (show takeP k p x = p from take_skip hs)
    have q2 : (k' != N) = false := ineq (by rw [Hk.out, hN]; exact hs)
    clear he hs a6 a7 a10 hN hD
    go_wp2
    go_end0
    exact ⟨rfl, vo, by rw [Ht.out]; exact S2.out, Hrel.out, B2.out⟩
  have q2 : (k' != N) = true := inne (by rw [Hk.out, hN]; exact hs)
  have hkey : keyOf Tryz.prog 9 (.string ks) = some (keyB (keyN x)) := by rw [Go.WideMaps.keyOf_string_mk Tryz.underlying9 Hksz.out, Hks.out]; rfl
  have hlook := look_true a6 keyed9 Tryz.underlying128 (zero4 w2) hkey
  have hhas : Maps.has Dm (keyB (keyN x)) = decide (x ∈ p.2) := by rw [Bool.eq_iff_iff, a7.2, decide_eq_true_eq]; exact seen_iff Hxw.out Hpw.out
  rw [hhas] at hlook
  by_cases hm : x ∈ p.2
  · have Ht := hide (show takeP k p x = p by unfold takeP; rw [if_neg he, if_neg (fun h => h.2 hm)])
    rw [decide_eq_true hm] at hlook
    clear he hs a6 a7 a10 hkey hhas hm hN hD
    go_wp2
    go_end0
    exact ⟨rfl, vo, by rw [Ht.out]; exact S2.out, Hrel.out, B2.out⟩
  have Ht := hide (show takeP k p x = (p.1, p.2 ++ [x]) by unfold takeP; rw [if_neg he, if_pos ⟨hs, hm⟩])
  rw [decide_eq_false hm] at hlook
  have A6 := hide a6
  have A7 := hide a7
  have A10 := hide a10
  have Hkey := hide hkey
  clear he hs a6 a7 a10 hkey hhas hm hN hD
  go_wp2_with (first
    | (at_mapUpdate; refine wpList_mapUpdate_own _ rfl _ _ _ 128 rfl 9 4 keyed9 Tryz.underlying128 _ (h0 + 6) p.2.length _ rfl A6.out (by unfold maxLen; omega) _ _ _ rfl rfl Hkey.out _ [] trueElem_mk ?_; intro w3 hown3 hg3)
    | fail)
  have hs3 := hg3.size
  have c8 := cell_far A6.out hg3 a8
  have c8' : w3.frozen? ⟨h0 + 4, 0, none⟩ = false := (World.frozen?_of_block (w := w2) (a := ⟨h0 + 4, 0, none⟩) (hg3.block (h0 + 4) (show h0 + 4 < w2.heap.size by omega) (fun e => by injection e with e; omega))).trans a8'
  have F3 := tri3_far F2.out A6.out hg3
  have Hs3 := hide hs3
  have V3 := hide (show NdV w3 (fun g => h0 + 8 ≤ g ∧ vo.ownBlock ≠ some g) (.agg #[.int .i64 k', .int .i64 g', .slice A m d]) x from V2.out.map (fun q hq hl => World.cell?_of_block (hg3.block _ hl (fun e => by injection e with e; omega))) fun _ hg _ => hg)
  have A3 := hide (show OwnN w3 (h0 + 8) (fun g => h0 + 8 ≤ g) vo p.2 from ownN_kept A10.out (by omega) hg3 fun g hg => by omega)
  have H3 := hide hown3
  have G3 := hide hg3
  obtain ⟨UA, un, ud, uvs, rfl, hun, -, -⟩ := A3.out.s
  subst hun
  have HD3 := hide (show Below (h0 + 8) w3 w3.drew from (bel_drew w3).mono (by omega))
  have BW3 := hide (show Below h0 W w3 from B2.out.grown G3.out (by omega) fun k hk => by cases hk; omega)
  have O4 := hide (A3.out.below (bel_drew w3))
  have hB4 : h0 + 8 ≤ w3.drew.heap.size := by have h2 : w3.drew.heap.size = w3.heap.size := rfl; omega
  have Z4 := hide (ndv_leaf (W := w3.drew) (ok := fun g => h0 + 8 ≤ g ∧ (Value.slice UA p.2.length ud).ownBlock ≠ some g) 0 0 (by omega) (by omega))
  have Fz := F3.keep (bel_alloc w3 (.cells #[.int .i64 0, .int .i64 0, .slice none 0 0] 32))
  have c8z := ((bel_alloc w3 (.cells #[.int .i64 0, .int .i64 0, .slice none 0 0] 32)).cell (p := ⟨h0 + 4, 0, none⟩) (show h0 + 4 < w3.heap.size by omega)).trans c8
  obtain ⟨-, yz0, yz1, yz2⟩ := Fz
  obtain ⟨-, y0, y1, y2⟩ := F3
  have hlt1 : (p.2.length : Int) < (p.2.length : Int) + 1 := by omega
  clear t0 t1 t2 a1 a2 a3 a3' a5 a8 a8' hown3 hg3 hs3
  go_region_law (first
    | (refine step_push_ndF (by rfl) (.tmp 29) (.tmp 32) 30 (by rfl) i0 _ 40 Tryz.underlying30 hi0 hz0 hz1 hz2 rfl (h0 + 8) (fun g => h0 + 8 ≤ g) (.slice UA p.2.length ud) p.2 (by rfl) w3.drew _ _ _ (.mk 0 0 []) O4.out hB4 _ rfl (by rfl) Z4.out (by omega) (by unfold maxLen; omega) ?_; intro gg cap w7 hown7 hb7 hf7; have X7 := hide hown7; have B7 := hide hb7; have FF7 := hide hf7; have hgg7 := (hown7.lt (g := gg) rfl).1; obtain ⟨⟨d0, e0⟩, ⟨d1, e1⟩, ⟨d2, e2⟩, ef⟩ := own_cells hown7 rfl; have ef0 := ef (p.2.length * 3); have ef1 := ef (p.2.length * 3 + 1); have ef2 := ef (p.2.length * 3 + 2); have e8 := (hb7.cell (p := ⟨h0 + 4, 0, none⟩) (show h0 + 4 < h0 + 8 by omega)).trans c8; have e8' := (hb7.frozen (p := ⟨h0 + 4, 0, none⟩) (show h0 + 4 < h0 + 8 by omega)).trans c8'; clear ef hown7 hb7 hf7)
    | fail)
  all_goals
    have FF := hide (show Far w3 w7 (.slice UA p.2.length ud) (.slice (some ⟨gg, 0, none⟩) (p.2.length + 1) cap) from FF7.out)
    have R7 := hide (show NdV w7 (fun g => h0 + 8 ≤ g ∧ g ≠ gg) (.agg #[.int .i64 k', .int .i64 g', .slice A m d]) x from V3.out.map (fun q hq hl => World.cell?_of_block (FF.out.2 q.block hl hq.2).1) fun g hg hl => ⟨hg.1, fun e => (FF.out.2 g hl hg.2).2 (by rw [e]; rfl)⟩)
    have P := hide (jst_push S2.out A7.out H3.out G3.out X7.out (HD3.out.trans B7.out) FF.out R7.out)
    have BP := hide (show Below h0 W (putAt w7 gg (p.2.length * 3) (.int .i64 k') (.int .i64 g') (.slice A m d)) from putAt_below (BW3.out.trans ((HD3.out.trans B7.out).mono (by omega))) (by omega))
    have BF := hide (BP.out.setCell (p := ⟨h0 + 4, 0, none⟩) (show h0 ≤ h0 + 4 by omega) (.slice (some ⟨gg, 0, none⟩) (p.2.length + 1) cap))
    have EC := putAt_comm w7 gg (p.2.length * 3) (h0 + 4) (.int .i64 k') (.int .i64 g') (.slice A m d) (.slice (some ⟨gg, 0, none⟩) (p.2.length + 1) cap) (by omega)
    have PX := hide P.out
    have BX := hide BF.out
    rw [← EC] at PX BX
    clear EC
    go_wp2
    go_end0
    first
      | exact ⟨rfl, _, by rw [Ht.out]; exact P.out.1, Hrel.out.trans P.out.2, BF.out⟩
      | exact ⟨rfl, _, by rw [Ht.out]; exact PX.out.1, Hrel.out.trans PX.out.2, BX.out⟩
end Go.Proofs.YtlnbjdlooghpeaaGreatDoor
