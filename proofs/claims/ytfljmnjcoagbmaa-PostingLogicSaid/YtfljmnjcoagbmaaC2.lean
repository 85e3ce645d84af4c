/- Walk of layer 5's program: Pack. -/
import Derived.Test.YtfljmnjcoagbmaaC0
import Derived.Test.YtfljmnjcoagbmaaV6
import Derived.IntWalk
namespace Go.Proofs.Ytfljmnjcoagbmaa
open Go.RowKit Go.Shelf
open Go.Lib (byteCells)

/-- Block x of l. -/
def blkF (l : List Int) {nb : Nat} (x : Fin nb) : List Int := (l.drop (16 * x.1)).take 16
theorem blk_all (l : List Int) (n : Nat) (hl : l.length = n) : (List.finRange ((n + 15) / 16)).map (blkF l) = blocksP l := by
  have hb := blocks_len l
  rw [hl] at hb
  apply List.ext_getElem?
  intro i
  by_cases hi : i < (n + 15) / 16
  · rw [blocks_at l i (by rw [hl]; exact hi), List.getElem?_map, List.getElem?_eq_getElem (by simpa using hi)]
    simp [blkF]
  · rw [List.getElem?_eq_none (by simp; omega), List.getElem?_eq_none (by omega)]
theorem blk_good (l : List Int) (n : Nat) (hl : l.length = n) (hv : valP l = true) (x : Fin ((n + 15) / 16)) : Good (blkF l x) := by
  refine blocks_good l hv _ ?_
  rw [← blk_all l n hl]
  exact List.mem_map_of_mem (List.mem_finRange x)
theorem blk_sl {w : World} {g o n c : Nat} {l : List Int} (h : Sl w (some ⟨g, o, none⟩) n c (numCells l)) (x : Fin ((n + 15) / 16)) : 0 < clen n (16 * x.1) ∧ (blkF l x).length = clen n (16 * x.1) ∧ Sl w (some ⟨g, o + 16 * x.1, none⟩) (clen n (16 * x.1)) (clen n (16 * x.1)) (numCells (blkF l x)) := by
  have hx := x.2
  have hl := h.nlen
  have hnc := h.1
  have hc := h.2.1
  obtain ⟨k, hk⟩ : ∃ k, 16 * x.1 = k := ⟨_, rfl⟩
  have hkn : k < n := by omega
  have he : k + clen n k ≤ n ∧ 0 < clen n k ∧ clen n k ≤ 16 := by unfold clen; omega
  have hw := h.winI (k := k) (m := k + clen n k) (by omega) he.1 (by omega)
  have hlen : (blkF l x).length = clen n k := by
    unfold blkF clen
    rw [hk, List.length_take, List.length_drop, hl]
  have e1 : (l.drop k).take (k + clen n k - k) = blkF l x := by
    unfold blkF
    rw [hk, show k + clen n k - k = clen n k by omega]
    by_cases h16 : 16 ≤ n - k
    · rw [show clen n k = 16 by unfold clen; omega]
    · rw [List.take_of_length_le (by rw [List.length_drop]; unfold clen; omega), List.take_of_length_le (by rw [List.length_drop]; omega)]
  rw [e1, show k + clen n k - k = clen n k by omega] at hw
  rw [hk]
  have hr := hw.2.2.2
  simp only [Option.map_some] at hr
  rw [add_at] at hr
  refine ⟨he.2.1, hlen, ?_⟩
  exact ⟨Nat.le_refl _, by omega, (fun q => by cases q), hr⟩

theorem heads_snoc (cs : List (List Int)) (d : List Int) : headsP (cs ++ [d]) = headsP cs ++ (enc (d.getLastD 0).toNat ++ enc (encL d).length) := by
  rw [heads_app]
  show _ ++ (_ ++ (_ ++ [])) = _
  rw [List.append_nil]
theorem bodies_snoc (cs : List (List Int)) (d : List Int) : bodiesP (cs ++ [d]) = bodiesP cs ++ encL d := by
  rw [bodies_app]
  show _ ++ (_ ++ []) = _
  rw [List.append_nil]

attribute [local go_sem] Oper.semAt_some

set_option maxRecDepth 100000 in
set_option maxHeartbeats 8000000 in
theorem pack22 (A : Option Addr) (n c : Nat) (l : List Int) (w : World) (h : Sl w A n c (numCells l)) :
    Calls Try.prog 22 #[.slice A n c] w (PutL w (packR l)) := by
  obtain ⟨i0, hi, hz0, hz1, hz2⟩ := info_parts info5
  have H := hide h
  have hnc := h.1
  have hcc := h.2.1
  have hl := h.nlen
  cases hv : valP l with
  | false =>
    have hr : packR l = ([], 1) := by unfold packR; rw [hv]; rfl
    have Hr := hide hr
    have Hv := hide hv
    clear hv hr h hnc hcc hl
    go_enter Try.func22, Try.ntmps22
    go_wp2_with fail
    with_reducible refine (valid11 A n c l _ H.out).mono ?_
    rintro e w1 ⟨rfl, rfl⟩
    rw [Hv.out]
    go_wp2
    go_ret2
    exact ⟨_, by rw [Hr.out]; rfl, by rw [Hr.out]; exact World.ownsRow_nil _ _ _ _, Below.refl _ _⟩
  | true =>
    have hn : n ≤ 100000 := by have := val_len l hv; omega
    obtain ⟨g, o, hA⟩ : ∃ g o, n = 0 ∨ A = some ⟨g, o, none⟩ := by
      by_cases h0 : n = 0
      · exact ⟨0, 0, Or.inl h0⟩
      · obtain ⟨ad, z, hAd, _, hc⟩ := num_cell h.reads (k := 0) (by omega)
        obtain ⟨g, o, rfl⟩ := addr_plain hc
        exact ⟨g, o, Or.inr hAd⟩
    have Hgood := hide (blk_good l n hl hv)
    have Hall := hide (blk_all l n hl)
    have Hv := hide hv
    have HA := hide hA
    have Hl := hide hl
    clear h hv hA hl
    refine (callsIn_wide (n := 8)).1 ?_
    refine callsIn_of_wp_marks Try.func22 rfl trivial ?_ rfl
    simp only [Try.ntmps22, List.size_toArray, List.length_cons, List.length_nil, Nat.reduceAdd, Nat.reduceSub, Array.replicate_succ, Array.replicate_zero, List.push_toArray, List.append_toArray, List.nil_append, List.cons_append]
    gi_wp2_with (refine ⟨trivial, ?_⟩; gi_at_call 11; refine (callsIn_wide.2 (valid11 A n c l _ H.out)).mono ?_; rintro e w1 ⟨rfl, rfl⟩; rw [Hv.out])
    gi_wp2_with (refine ⟨trivial, ?_⟩; gi_at_call 39; refine (callsIn_wide.2 (put39 none 0 0 [] (n : Int) _ (Sl.nil _) (by omega) (by decide))).mono ?_; rintro e w1 ⟨v1, rfl, ho1, hb1⟩; rw [List.nil_append, Int.toNat_natCast] at ho1; obtain ⟨AA, mm, cc, rfl, hm1, hs1⟩ := ho1.sl5; have O1 := hide ho1; have B1 := hide hb1; clear ho1 hb1 hm1 hs1)
    gi_wp2_with (refine ⟨trivial, ?_⟩; gi_at_call 40; refine (callsIn_wide.2 (chunk40 A n c _)).mono ?_; rintro e w2 ⟨rfl, rfl⟩)
    obtain ⟨W0, hW0⟩ : ∃ W0, (((w1.alloc (Obj.cells #[Value.slice AA mm cc] 30)).alloc (Obj.cells #[Value.slice none 0 0] 30)).alloc (Obj.cells #[Value.slice A n c] 22)).alloc (Obj.cells #[Value.int IntKind.i64 16] 3) = W0 := ⟨_, rfl⟩
    obtain ⟨H0, hH0⟩ : ∃ H0, w1.heap.size = H0 := ⟨_, rfl⟩
    have hP := pack_start O1.out B1.out H0 hH0 W0 hW0
    rw [hW0, hH0]
    clear hW0
    obtain ⟨hP0, hsz0, hcs, hcn⟩ := hP
    refine wpIn_rangeFunc_ownG (F := Fence.wide) rfl (by omega) (gf := 58) (lb := #[.pointer (some ⟨H0 + 2, 0, none⟩), .pointer (some ⟨H0 + 3, 0, none⟩)]) rfl trivial (enters_of Try.func58 (by kernel_rfl) rfl)
      (chunk_stops 7 (by omega) (H0 + 2) (H0 + 3) g o A n c hnc (by omega) HA.out W0 (by omega) (by omega) hcs hcn)
      (fun h k => h.trans k) (fun W l o o' h1 _ _ _ => ⟨World.putObj_heap_other (by omega), World.putObj_heap_other (by omega)⟩) (Below.refl _ _) (fun _ => rfl)
      (fun pre W => ∃ A1 m1 c1 A2 m2 c2, PackV w H0 (H0 + 1) (H0 + 2) (H0 + 3) (.slice A1 m1 c1) (.slice A2 m2 c2) (enc n ++ headsP (pre.map (blkF l))) (bodiesP (pre.map (blkF l))) W)
      (fun _ _ _ => False)
      (fun s A B row hs hg hr => by obtain ⟨A1, m1, c1, A2, m2, c2, P⟩ := hs; exact ⟨A1, m1, c1, A2, m2, c2, P.turned hg fun r e => by obtain ⟨q1, q2⟩ := hr r e; exact ⟨by omega, q2⟩⟩)
      (fun _ _ _ _ _ hs _ _ => hs)
      ⟨AA, mm, cc, none, 0, 0, by simpa [headsP, bodiesP] using hP0⟩
      (fun x => { tmps := #[.slice A n c, undef, .slice none 0 0, .int .i64 0, .pointer (some ⟨H0, 0, none⟩), .pointer (some ⟨H0 + 1, 0, none⟩), .slice (some ⟨g, o + 16 * x.1, none⟩) (clen n (16 * x.1)) (clen n (16 * x.1)), undef, undef, .slice A n c, .bool true, .bool false, .slice A n c, .int .i64 n, .slice AA mm cc, .slice A n c, .func (.func 58) #[] #[.pointer (some ⟨H0 + 2, 0, none⟩), .pointer (some ⟨H0 + 3, 0, none⟩)], .slice (some ⟨g, o + 16 * x.1, none⟩) (clen n (16 * x.1)) (clen n (16 * x.1)), undef, undef, undef, undef, undef, undef, undef, undef, undef, undef, undef, undef, undef, undef, undef, undef, undef, undef, undef, undef, undef, undef, undef, undef, undef], defers := [] })
      ?assign ?body ?done ?stop
    case assign =>
      intro l x W K hK
      unfold encC
      gi_wp2
      exact hK
    case stop =>
      rintro D c pre W _ _ h _
      exact h.elim
    case done =>
      rintro D ys W hD rfl ⟨A1, m1, c1, A2, m2, c2, P⟩ hK
      rw [Hall.out] at P
      have hc1 := P.c1
      have hc2 := P.c2
      have PP := hide P
      obtain ⟨A5, m5, c5, e5, hm5, hs5⟩ := P.o2.sl5
      cases e5
      have hnl := blocks_len l
      rw [Hl.out] at hnl
      have hgb := blocks_good l Hv.out
      have hhl := heads_len (blocksP l) hgb
      have hbl := bodies_len (blocksP l) hgb
      have hn9 := enc_len9' n (by unfold big; omega)
      have hpk : packR l = ((enc n ++ headsP (blocksP l)) ++ bodiesP (blocksP l), 0) := by
        unfold packR packP
        rw [Hv.out, if_pos rfl, Hl.out, List.append_assoc]
      have Hpk := hide hpk
      have S5 := hide hs5
      have HK := hide hK
      have hHD : w.heap.size ≤ D := by have := P.lo; omega
      have hm2b : m2 ≤ 2000000 := by omega
      have hbsz : (bodiesP (blocksP l)).length ≤ 2000000 := by omega
      have hhsz : (headsP (blocksP l)).length ≤ 200000 := by omega
      clear P hs5 hnl hgb hpk hK hm5 hhl hbl
      gi_wp2_with (gi_at_builtin; refine wpIn_join rfl (.tmp 40) (.tmp 41) 30 rfl i0 (.int .u8 0) Try.underlying30 hi hz0 hz1 hz2 rfl w.heap.size _ (enc n ++ headsP (blocksP l)) (bodiesP (blocksP l)) rfl PP.out.o1 PP.out.bel.size A2 m2 c2 rfl S5.out (by rw [List.length_append]; omega) ?_; intro v7 w7 ho7 hb7 hf7; have O7 := hide ho7; have B7 := hide (PP.out.bel.trans hb7); have K7 := hide ((hf7.2 D (lt_of_block HK.out) (fun e => by have := own_cells PP.out.o1 e HK.out; cases this)).1.trans HK.out); clear ho7 hb7 hf7)
      refine ⟨by simp, .inl ⟨_, _, rfl, run_takeDeferred K7.out, ?_⟩⟩
      refine ⟨_, results_tmp2 rfl _ _ _, v7, by rw [Hpk.out]; rfl, ?_, B7.out.trans (belowK_b (w := w) (Nat.le_refl _) w7 D _ _ hHD K7.out rfl rfl)⟩
      rw [Hpk.out]
      have := O7.out
      exact ownsRow_putObj this _ K7.out rfl
    case body =>
      rintro l' pre x W ⟨A1, m1, c1, A2, m2, c2, P⟩ hlen
      obtain rfl : A = some ⟨g, o, none⟩ := HA.out.resolve_left (by have := x.2; omega)
      obtain ⟨hpos, hdl, hsl⟩ := blk_sl H.out x
      have hgd := Hgood.out x
      have hsn1 := heads_snoc (pre.map (blkF l)) (blkF l x)
      have hsn2 := bodies_snoc (pre.map (blkF l)) (blkF l x)
      have hhl := heads_len (pre.map (blkF l)) (fun d hd => by obtain ⟨y, _, rfl⟩ := List.mem_map.1 hd; exact Hgood.out y)
      have hbl := bodies_len (pre.map (blkF l)) (fun d hd => by obtain ⟨y, _, rfl⟩ := List.mem_map.1 hd; exact Hgood.out y)
      rw [List.length_map] at hhl hbl
      have hmap : (pre ++ [x]).map (blkF l) = pre.map (blkF l) ++ [blkF l x] := by simp
      obtain ⟨d, hd⟩ : ∃ d, blkF l x = d := ⟨_, rfl⟩
      obtain ⟨hs, hhs⟩ : ∃ hs, headsP (pre.map (blkF l)) = hs := ⟨_, rfl⟩
      obtain ⟨bs, hbs⟩ : ∃ bs, bodiesP (pre.map (blkF l)) = bs := ⟨_, rfl⟩
      obtain ⟨p, hp⟩ : ∃ p, o + 16 * x.1 = p := ⟨_, rfl⟩
      obtain ⟨ee, he⟩ : ∃ ee, clen n (16 * x.1) = ee := ⟨_, rfl⟩
      rw [hd] at hdl hsl hgd hsn1 hsn2 hmap
      rw [hhs] at hsn1 hhl P
      rw [hbs] at hsn2 hbl P
      rw [hp, he] at hsl
      rw [he] at hpos hdl
      rw [hp, he]
      have Hmap := hide hmap
      have Hsn1 := hide hsn1
      have Hsn2 := hide hsn2
      have P0 := hide P
      have Sd := hide hsl
      have hel := encL_len d hgd
      have hn9 := enc_len9' n (by unfold big; omega)
      have hgB : g < w.heap.size := by obtain ⟨ad, u, e, hlt, _⟩ := H.out.reads.at_ (k := 0) (by have := x.2; omega); cases e; exact hlt
      have hlg := last_good d hgd
      have hpd : putL [] d = (encL d, 0) := by
        unfold putL
        rw [if_pos ((incr_up d (-1)).2 ⟨fun y hy => by have := ((val_iff d).1 hgd.2).2 y hy; omega, ((val_iff d).1 hgd.2).1⟩)]
        rfl
      have hd99 : ∀ z ∈ d, z ≤ 9223372036854775807 := fun z hz => by have := ((val_iff d).1 hgd.2).2 z hz; omega
      obtain ⟨la, hla⟩ : ∃ la, d.getLastD 0 = la := ⟨_, rfl⟩
      obtain ⟨e1, he1⟩ : ∃ e1, e1 + 1 = ee := ⟨ee - 1, by omega⟩
      have hlast : d[e1]? = some la := by
        rw [← hla, List.getLastD_eq_getLast?, List.getLast?_eq_getElem?, hdl, show ee - 1 = e1 by omega, List.getElem?_eq_getElem (by omega)]
        rfl
      rw [hla] at hlg hsn1
      have hee1 : (ee : Int) - 1 = (e1 : Int) := by omega
      have hlt1 : (e1 : Int) < (ee : Int) := by omega
      have hge1 : e1 < ee := by omega
      have hee16 : ee ≤ 16 := by have := hgd.1; omega
      have Hpd := hide hpd
      have Hd99 := hide hd99
      have Hlast := hide hlast
      have Hla := hide hla
      clear hpd hd99 hlast hla he1 hd hhs hbs hp he hmap hsn1 hsn2 P hsl hdl hgd
      refine wpIn_block ?_
      refine wpIn_seq ?_
      refine region_round_lit l' _ (by kernel_rfl) (fun ⟨_, _, h⟩ => h) ?_
      go_wp2_with fail
      with_reducible refine (putl41 none (some ⟨g, p, none⟩) 0 0 ee ee [] d _ (Sl.nil _) (Sd.out.below P0.out.bel) (by omega) (by omega) Hd99.out).mono ?_
      rw [Hpd.out]
      rintro e w2 ⟨v2, rfl, hown2, hb2⟩
      have hown2' : Own w2 W.heap.size 5 v2 (byteCells (encL d)) := hown2
      obtain ⟨A8, m8, c8, rfl, hm8, hs8⟩ := hown2'.sl5
      have hA8 : ∀ ad, A8 = some ad → H0 + 4 ≤ ad.block := fun ad e => by have h1 := (hown2'.lt ad.block (by rw [e]; rfl)).1; obtain ⟨s4, e4⟩ := P0.out.h4; have := lt_of_block e4; omega
      have L8 := hide (show Lies w2 (.slice A1 m1 c1) A8 m8 c8 (byteCells (encL d)) from ⟨hs8, fun _ ad e hv => by have h1 := (hown2'.lt ad.block (by rw [e]; rfl)).1; have h2 := (P0.out.o1.lt _ hv).2; omega⟩)
      have L8' := hide (show Lies w2 (.slice A2 m2 c2) A8 m8 c8 (byteCells (encL d)) from ⟨hs8, fun _ ad e hv => by have h1 := (hown2'.lt ad.block (by rw [e]; rfl)).1; have h2 := (P0.out.o2.lt _ hv).2; omega⟩)
      have HA8 := hide hA8
      have P2 := hide (P0.out.keep hb2)
      have T2 := hide (P0.out.stBelow hb2)
      have L2 := hide L8.out
      have L2' := hide L8'.out
      have Hm8 := hide hm8
      have hm8b : m8 ≤ 200 := by omega
      have hlo := P2.out.lo
      clear hown2 hown2' hs8 hb2 hm8 P0 hA8 L8 L8'
      go_wp2
      refine seq_mid (fun a' W' => ∃ s23 s24 s25 s26 s27 s28 s29 s30 s31 : Value, ∃ A4 m4 c4, a' = { tmps := #[.slice (some ⟨g, o, none⟩) n c, undef, .slice none 0 0, .int .i64 0, .pointer (some ⟨H0, 0, none⟩), .pointer (some ⟨H0 + 1, 0, none⟩), .slice (some ⟨g, p, none⟩) ee ee, .slice A8 m8 c8, .int .i64 0, .slice (some ⟨g, o, none⟩) n c, .bool true, .bool false, .slice (some ⟨g, o, none⟩) n c, .int .i64 n, .slice AA mm cc, .slice (some ⟨g, o, none⟩) n c, .func (.func 58) #[] #[.pointer (some ⟨H0 + 2, 0, none⟩), .pointer (some ⟨H0 + 3, 0, none⟩)], .slice (some ⟨g, p, none⟩) ee ee, .tuple #[.slice A8 m8 c8, .int .i64 0], .slice (some ⟨g, p, none⟩) ee ee, .tuple #[.slice A8 m8 c8, .int .i64 0], .slice A8 m8 c8, .int .i64 0, s23, s24, s25, s26, s27, s28, s29, s30, s31, undef, undef, undef, undef, undef, undef, undef, undef, undef, undef, undef], defers := [] } ∧ PackV w H0 (H0 + 1) (H0 + 2) (H0 + 3) (.slice A4 m4 c4) (.slice A2 m2 c2) ((enc n ++ hs) ++ enc la.toNat) bs W' ∧ St (H0 + 2) (H0 + 3) W W' ∧ Lies W' (.slice A4 m4 c4) A8 m8 c8 (byteCells (encL d)) ∧ Lies W' (.slice A2 m2 c2) A8 m8 c8 (byteCells (encL d))) ?_ ?_
      · have hbd : Below w2.heap.size w2 w2.drew := Drawn.below ⟨1, rfl⟩ _
        have Pd := hide (P2.out.keep hbd)
        have Td := hide (T2.out.trans (P2.out.stBelow hbd))
        have Ld := hide (L2.out.below hbd)
        have Ld' := hide (L2'.out.below hbd)
        obtain ⟨ad, z, had, hz, hcz⟩ := num_cell (Sd.out.below Pd.out.bel).reads hge1
        cases had
        obtain rfl : z = la := by have := Hlast.out; rw [hz] at this; exact Option.some.inj this
        rw [add_at] at hcz
        have hS : w2.drew.cell? ⟨g, p + e1, none⟩ = some (.int .i64 z) := hcz
        have hc2 := Pd.out.c1
        clear hz hcz
        clear P2 T2 L2 L2' hbd
        refine region_round (S := fun w' => w'.cell? ⟨g, p + e1, none⟩ = some (.int .i64 z)) l' _ (by kernel_rfl) (fun ⟨_, _, h⟩ => h) (by kernel_rfl) ?_
        refine wpAnyH_take (i := 1) (v := .slice (some ⟨g, p, none⟩) ee ee) rfl (by kernel_rfl) (by kernel_rfl) (by kernel_rfl) (fun _ _ _ h => h) (Or.inl ⟨by rfl, ?_⟩) hS ?_
        · intro w hw
          go_simp
        simp only [Act.put, List.setIfInBounds_toArray]
        refine wpAnyH_take (i := 2) (v := .slice (some ⟨g, p, none⟩) ee ee) rfl (by kernel_rfl) (by kernel_rfl) (by kernel_rfl) (fun _ _ _ h => h) (Or.inl ⟨by rfl, ?_⟩) hS ?_
        · intro w hw
          go_simp
        simp only [Act.put]
        refine wpAnyH_take (i := 3) (v := .int .i64 (ee : Int)) rfl (by kernel_rfl) (by kernel_rfl) (by kernel_rfl) (fun _ _ _ h => h) (Or.inl ⟨by rfl, ?_⟩) hS ?_
        · intro w hw
          go_simp
        simp only [Act.put]
        refine wpAnyH_take (i := 4) (v := .int .i64 (e1 : Int)) rfl (by kernel_rfl) (by kernel_rfl) (by kernel_rfl) (fun _ _ _ h => h) (Or.inl ⟨by rfl, ?_⟩) hS ?_
        · intro w hw
          go_simp
          exact IntWalk.i64_in _ (by omega)
        simp only [Act.put]
        refine wpAnyH_take (i := 5) (v := .pointer (some ⟨g, p + e1, none⟩)) rfl (by kernel_rfl) (by kernel_rfl) (by kernel_rfl) (fun _ _ _ h => h) (Or.inl ⟨by rfl, ?_⟩) hS ?_
        · intro w hw
          go_simp
        simp only [Act.put]
        refine wpAnyH_take (i := 6) (v := .int .i64 z) rfl (by kernel_rfl) (by kernel_rfl) (by kernel_rfl) (fun _ _ _ h => h) (Or.inl ⟨by rfl, ?_⟩) hS ?_
        · intro w hw
          go_simp
        simp only [Act.put]
        refine wpAnyH_ready (rs := [0, 7]) (by kernel_rfl) (by simp) (AllReadyH.cons rfl (fun K hK => ?_) (AllReadyH.cons rfl (fun K hK => ?_) AllReadyH.nil))
        · rw [if_pos (by rfl)]
          go_simp
          refine hK.out _ _ hS (fun _ => ?_)
          clear hK K
          refine wpAnyH_ready (rs := [7]) (by kernel_rfl) (by simp) (AllReadyH.cons rfl (fun K hK => ?_) AllReadyH.nil)
          rw [if_pos (by rfl)]
          go_simp
          with_reducible refine (put39 none 0 0 [] z _ (Sl.nil _) (by omega) (by decide)).mono ?_
          rintro e w3 ⟨v3, rfl, hown3, hb3⟩
          rw [List.nil_append] at hown3
          obtain ⟨A3, m3, c3, rfl, hm3, hs3⟩ := hown3.sl5
          have P3 := hide (Pd.out.keep hb3)
          have T3 := hide (Td.out.trans (Pd.out.stBelow hb3))
          have L3 := hide (Ld.out.below hb3)
          have L3' := hide (Ld'.out.below hb3)
          have S3 := hide hs3
          have hm3a := enc_len9' (z).toNat (by unfold big; omega)
          have hm3p := enc_pos (z).toNat
          rw [← hm3] at hm3a hm3p
          have hc3 := P3.out.c1
          have hS3 := (hb3.cell (p := ⟨g, p + e1, none⟩) (World.block_lt_of_cell? _ _ hS)).trans hS
          clear hown3 hb3 hs3 hm3 hS Pd Td Ld Ld'
          refine hK.out _ _ hS3 (fun _ => ?_)
          clear hK K
          refine wpAnyH_ready (rs := [8]) (by kernel_rfl) (by simp) (AllReadyH.cons rfl (fun K hK => ?_) AllReadyH.nil)
          refine step_join rfl (.tmp 23) (.tmp 30) 30 rfl i0 (.int .u8 0) Try.underlying30 hi hz0 hz1 hz2 rfl w.heap.size _ (enc n ++ hs) (enc (z).toNat) rfl P3.out.o1 P3.out.bel.size A3 m3 c3 rfl S3.out hm3p (by simp only [List.length_append]; omega) ?_
          intro A4 m4 c4 w4 ho4 hb4 hf4
          obtain ⟨hc4, hz4⟩ := P3.out.box1 hf4
          have P4 := hide (P3.out.head ho4 hb4 hf4)
          have T4 := hide (T3.out.trans (P3.out.stHead hf4))
          have L4 := hide ((L3.out.far hf4).set (fun ad e => by have := HA8.out ad e; omega) (.slice A4 m4 c4) (k := H0))
          have L4' := hide ((show Lies w4 (.slice A2 m2 c2) A8 m8 c8 (byteCells (encL d)) from ⟨(L3.out.far hf4).1, L3'.out.2⟩).set (fun ad e => by have := HA8.out ad e; omega) (.slice A4 m4 c4) (k := H0))
          have hS4 := (hb4.cell (p := ⟨g, p + e1, none⟩) hgB).trans hS3
          have hS5 : (w4.setCell ⟨H0, 0, none⟩ (.slice A4 m4 c4)).cell? ⟨g, p + e1, none⟩ = some (.int .i64 z) := (World.cell?_of_block (set_other (show g ≠ H0 by omega))).trans hS4
          clear ho4 hb4 hf4 P3 T3 L3 L3' S3
          refine hK.out _ _ hS4 (fun _ => ?_)
          clear hK K
          refine wpAnyH_ready (rs := [9]) (by kernel_rfl) (by simp) (AllReadyH.cons rfl (fun K hK => ?_) AllReadyH.nil)
          rw [if_pos (by rfl)]
          go_simp
          refine hK.out _ _ hS5 (fun _ => ?_)
          clear hK K
          refine wpAnyH_done (by kernel_rfl) ?_ _
          exact ⟨_, _, _, _, _, _, _, _, _, A4, m4, c4, rfl, P4.out, T4.out, L4.out, L4'.out⟩
        · rw [if_pos (by rfl)]
          go_simp
          with_reducible refine (put39 none 0 0 [] z _ (Sl.nil _) (by omega) (by decide)).mono ?_
          rintro e w3 ⟨v3, rfl, hown3, hb3⟩
          rw [List.nil_append] at hown3
          obtain ⟨A3, m3, c3, rfl, hm3, hs3⟩ := hown3.sl5
          have P3 := hide (Pd.out.keep hb3)
          have T3 := hide (Td.out.trans (Pd.out.stBelow hb3))
          have L3 := hide (Ld.out.below hb3)
          have L3' := hide (Ld'.out.below hb3)
          have S3 := hide hs3
          have hm3a := enc_len9' (z).toNat (by unfold big; omega)
          have hm3p := enc_pos (z).toNat
          rw [← hm3] at hm3a hm3p
          have hc3 := P3.out.c1
          have hS3 := (hb3.cell (p := ⟨g, p + e1, none⟩) (World.block_lt_of_cell? _ _ hS)).trans hS
          clear hown3 hb3 hs3 hm3 hS Pd Td Ld Ld'
          refine hK.out _ _ hS3 (fun _ => ?_)
          clear hK K
          refine wpAnyH_ready (rs := [0]) (by kernel_rfl) (by simp) (AllReadyH.cons rfl (fun K hK => ?_) AllReadyH.nil)
          rw [if_pos (by rfl)]
          go_simp
          refine hK.out _ _ hS3 (fun _ => ?_)
          clear hK K
          refine wpAnyH_ready (rs := [8]) (by kernel_rfl) (by simp) (AllReadyH.cons rfl (fun K hK => ?_) AllReadyH.nil)
          refine step_join rfl (.tmp 23) (.tmp 30) 30 rfl i0 (.int .u8 0) Try.underlying30 hi hz0 hz1 hz2 rfl w.heap.size _ (enc n ++ hs) (enc (z).toNat) rfl P3.out.o1 P3.out.bel.size A3 m3 c3 rfl S3.out hm3p (by simp only [List.length_append]; omega) ?_
          intro A4 m4 c4 w4 ho4 hb4 hf4
          obtain ⟨hc4, hz4⟩ := P3.out.box1 hf4
          have P4 := hide (P3.out.head ho4 hb4 hf4)
          have T4 := hide (T3.out.trans (P3.out.stHead hf4))
          have L4 := hide ((L3.out.far hf4).set (fun ad e => by have := HA8.out ad e; omega) (.slice A4 m4 c4) (k := H0))
          have L4' := hide ((show Lies w4 (.slice A2 m2 c2) A8 m8 c8 (byteCells (encL d)) from ⟨(L3.out.far hf4).1, L3'.out.2⟩).set (fun ad e => by have := HA8.out ad e; omega) (.slice A4 m4 c4) (k := H0))
          have hS4 := (hb4.cell (p := ⟨g, p + e1, none⟩) hgB).trans hS3
          have hS5 : (w4.setCell ⟨H0, 0, none⟩ (.slice A4 m4 c4)).cell? ⟨g, p + e1, none⟩ = some (.int .i64 z) := (World.cell?_of_block (set_other (show g ≠ H0 by omega))).trans hS4
          clear ho4 hb4 hf4 P3 T3 L3 L3' S3
          refine hK.out _ _ hS4 (fun _ => ?_)
          clear hK K
          refine wpAnyH_ready (rs := [9]) (by kernel_rfl) (by simp) (AllReadyH.cons rfl (fun K hK => ?_) AllReadyH.nil)
          rw [if_pos (by rfl)]
          go_simp
          refine hK.out _ _ hS5 (fun _ => ?_)
          clear hK K
          refine wpAnyH_done (by kernel_rfl) ?_ _
          exact ⟨_, _, _, _, _, _, _, _, _, A4, m4, c4, rfl, P4.out, T4.out, L4.out, L4'.out⟩
      · intro a' w5 hx
        obtain ⟨s23, s24, s25, s26, s27, s28, s29, s30, s31, A1, m1, c1, rfl, hP5, hT5, hL5, hL5'⟩ := hx
        clear P2 T2 L2 L2'
        have P5 := hide hP5
        have T5 := hide hT5
        have L5 := hide hL5
        have L5' := hide hL5'
        clear hP5 hT5 hL5 hL5'
        have hla9 := enc_len9' la.toNat (by unfold big; omega)
        refine seq_mid (fun a' W' => ∃ s23 s24 s25 s26 s27 s28 s29 s30 s31 s32 s33 s34 s35 s36 : Value, ∃ A4 m4 c4, a' = { tmps := #[.slice (some ⟨g, o, none⟩) n c, undef, .slice none 0 0, .int .i64 0, .pointer (some ⟨H0, 0, none⟩), .pointer (some ⟨H0 + 1, 0, none⟩), .slice (some ⟨g, p, none⟩) ee ee, .slice A8 m8 c8, .int .i64 0, .slice (some ⟨g, o, none⟩) n c, .bool true, .bool false, .slice (some ⟨g, o, none⟩) n c, .int .i64 n, .slice AA mm cc, .slice (some ⟨g, o, none⟩) n c, .func (.func 58) #[] #[.pointer (some ⟨H0 + 2, 0, none⟩), .pointer (some ⟨H0 + 3, 0, none⟩)], .slice (some ⟨g, p, none⟩) ee ee, .tuple #[.slice A8 m8 c8, .int .i64 0], .slice (some ⟨g, p, none⟩) ee ee, .tuple #[.slice A8 m8 c8, .int .i64 0], .slice A8 m8 c8, .int .i64 0, s23, s24, s25, s26, s27, s28, s29, s30, s31, s32, s33, s34, s35, s36, undef, undef, undef, undef, undef, undef], defers := [] } ∧ PackV w H0 (H0 + 1) (H0 + 2) (H0 + 3) (.slice A4 m4 c4) (.slice A2 m2 c2) (((enc n ++ hs) ++ enc la.toNat) ++ enc ((m8 : Nat) : Int).toNat) bs W' ∧ St (H0 + 2) (H0 + 3) W W' ∧ Lies W' (.slice A4 m4 c4) A8 m8 c8 (byteCells (encL d)) ∧ Lies W' (.slice A2 m2 c2) A8 m8 c8 (byteCells (encL d))) ?_ ?_
        · have hbd : Below w5.heap.size w5 w5.drew := Drawn.below ⟨1, rfl⟩ _
          have Pd := hide (P5.out.keep hbd)
          have Td := hide (T5.out.trans (P5.out.stBelow hbd))
          have Ld := hide (L5.out.below hbd)
          have Ld' := hide (L5'.out.below hbd)
          have hS : True := trivial
          have hc2 := Pd.out.c1
          clear P5 T5 L5 L5' hbd
          refine region_round (S := fun w' => True) l' _ (by kernel_rfl) (fun ⟨_, _, h⟩ => h) (by kernel_rfl) ?_
          refine wpAnyH_take (i := 1) (v := .slice A8 m8 c8) rfl (by kernel_rfl) (by kernel_rfl) (by kernel_rfl) (fun _ _ _ h => h) (Or.inl ⟨by rfl, ?_⟩) hS ?_
          · intro w hw
            go_simp
          simp only [Act.put, List.setIfInBounds_toArray]
          refine wpAnyH_take (i := 2) (v := .int .i64 (m8 : Int)) rfl (by kernel_rfl) (by kernel_rfl) (by kernel_rfl) (fun _ _ _ h => h) (Or.inl ⟨by rfl, ?_⟩) hS ?_
          · intro w hw
            go_simp
          simp only [Act.put]
          refine wpAnyH_ready (rs := [0, 3]) (by kernel_rfl) (by simp) (AllReadyH.cons rfl (fun K hK => ?_) (AllReadyH.cons rfl (fun K hK => ?_) AllReadyH.nil))
          · rw [if_pos (by rfl)]
            go_simp
            refine hK.out _ _ hS (fun _ => ?_)
            clear hK K
            refine wpAnyH_ready (rs := [3]) (by kernel_rfl) (by simp) (AllReadyH.cons rfl (fun K hK => ?_) AllReadyH.nil)
            rw [if_pos (by rfl)]
            go_simp
            with_reducible refine (put39 none 0 0 [] ((m8 : Nat) : Int) _ (Sl.nil _) (by omega) (by decide)).mono ?_
            rintro e w3 ⟨v3, rfl, hown3, hb3⟩
            rw [List.nil_append] at hown3
            obtain ⟨A3, m3, c3, rfl, hm3, hs3⟩ := hown3.sl5
            have P3 := hide (Pd.out.keep hb3)
            have T3 := hide (Td.out.trans (Pd.out.stBelow hb3))
            have L3 := hide (Ld.out.below hb3)
            have L3' := hide (Ld'.out.below hb3)
            have S3 := hide hs3
            have hm3a := enc_len9' (((m8 : Nat) : Int)).toNat (by unfold big; omega)
            have hm3p := enc_pos (((m8 : Nat) : Int)).toNat
            rw [← hm3] at hm3a hm3p
            have hc3 := P3.out.c1
            have hS3 : True := trivial
            clear hown3 hb3 hs3 hm3 hS Pd Td Ld Ld'
            refine hK.out _ _ hS3 (fun _ => ?_)
            clear hK K
            refine wpAnyH_ready (rs := [4]) (by kernel_rfl) (by simp) (AllReadyH.cons rfl (fun K hK => ?_) AllReadyH.nil)
            refine step_join rfl (.tmp 32) (.tmp 35) 30 rfl i0 (.int .u8 0) Try.underlying30 hi hz0 hz1 hz2 rfl w.heap.size _ ((enc n ++ hs) ++ enc la.toNat) (enc (((m8 : Nat) : Int)).toNat) rfl P3.out.o1 P3.out.bel.size A3 m3 c3 rfl S3.out hm3p (by simp only [List.length_append]; omega) ?_
            intro A4 m4 c4 w4 ho4 hb4 hf4
            obtain ⟨hc4, hz4⟩ := P3.out.box1 hf4
            have P4 := hide (P3.out.head ho4 hb4 hf4)
            have T4 := hide (T3.out.trans (P3.out.stHead hf4))
            have L4 := hide ((L3.out.far hf4).set (fun ad e => by have := HA8.out ad e; omega) (.slice A4 m4 c4) (k := H0))
            have L4' := hide ((show Lies w4 (.slice A2 m2 c2) A8 m8 c8 (byteCells (encL d)) from ⟨(L3.out.far hf4).1, L3'.out.2⟩).set (fun ad e => by have := HA8.out ad e; omega) (.slice A4 m4 c4) (k := H0))
            have hS4 : True := trivial
            have hS5 : True := trivial
            clear ho4 hb4 hf4 P3 T3 L3 L3' S3
            refine hK.out _ _ hS4 (fun _ => ?_)
            clear hK K
            refine wpAnyH_ready (rs := [5]) (by kernel_rfl) (by simp) (AllReadyH.cons rfl (fun K hK => ?_) AllReadyH.nil)
            rw [if_pos (by rfl)]
            go_simp
            refine hK.out _ _ hS5 (fun _ => ?_)
            clear hK K
            refine wpAnyH_done (by kernel_rfl) ?_ _
            exact ⟨_, _, _, _, _, _, _, _, _, _, _, _, _, _, A4, m4, c4, rfl, P4.out, T4.out, L4.out, L4'.out⟩
          · rw [if_pos (by rfl)]
            go_simp
            with_reducible refine (put39 none 0 0 [] ((m8 : Nat) : Int) _ (Sl.nil _) (by omega) (by decide)).mono ?_
            rintro e w3 ⟨v3, rfl, hown3, hb3⟩
            rw [List.nil_append] at hown3
            obtain ⟨A3, m3, c3, rfl, hm3, hs3⟩ := hown3.sl5
            have P3 := hide (Pd.out.keep hb3)
            have T3 := hide (Td.out.trans (Pd.out.stBelow hb3))
            have L3 := hide (Ld.out.below hb3)
            have L3' := hide (Ld'.out.below hb3)
            have S3 := hide hs3
            have hm3a := enc_len9' (((m8 : Nat) : Int)).toNat (by unfold big; omega)
            have hm3p := enc_pos (((m8 : Nat) : Int)).toNat
            rw [← hm3] at hm3a hm3p
            have hc3 := P3.out.c1
            have hS3 : True := trivial
            clear hown3 hb3 hs3 hm3 hS Pd Td Ld Ld'
            refine hK.out _ _ hS3 (fun _ => ?_)
            clear hK K
            refine wpAnyH_ready (rs := [0]) (by kernel_rfl) (by simp) (AllReadyH.cons rfl (fun K hK => ?_) AllReadyH.nil)
            rw [if_pos (by rfl)]
            go_simp
            refine hK.out _ _ hS3 (fun _ => ?_)
            clear hK K
            refine wpAnyH_ready (rs := [4]) (by kernel_rfl) (by simp) (AllReadyH.cons rfl (fun K hK => ?_) AllReadyH.nil)
            refine step_join rfl (.tmp 32) (.tmp 35) 30 rfl i0 (.int .u8 0) Try.underlying30 hi hz0 hz1 hz2 rfl w.heap.size _ ((enc n ++ hs) ++ enc la.toNat) (enc (((m8 : Nat) : Int)).toNat) rfl P3.out.o1 P3.out.bel.size A3 m3 c3 rfl S3.out hm3p (by simp only [List.length_append]; omega) ?_
            intro A4 m4 c4 w4 ho4 hb4 hf4
            obtain ⟨hc4, hz4⟩ := P3.out.box1 hf4
            have P4 := hide (P3.out.head ho4 hb4 hf4)
            have T4 := hide (T3.out.trans (P3.out.stHead hf4))
            have L4 := hide ((L3.out.far hf4).set (fun ad e => by have := HA8.out ad e; omega) (.slice A4 m4 c4) (k := H0))
            have L4' := hide ((show Lies w4 (.slice A2 m2 c2) A8 m8 c8 (byteCells (encL d)) from ⟨(L3.out.far hf4).1, L3'.out.2⟩).set (fun ad e => by have := HA8.out ad e; omega) (.slice A4 m4 c4) (k := H0))
            have hS4 : True := trivial
            have hS5 : True := trivial
            clear ho4 hb4 hf4 P3 T3 L3 L3' S3
            refine hK.out _ _ hS4 (fun _ => ?_)
            clear hK K
            refine wpAnyH_ready (rs := [5]) (by kernel_rfl) (by simp) (AllReadyH.cons rfl (fun K hK => ?_) AllReadyH.nil)
            rw [if_pos (by rfl)]
            go_simp
            refine hK.out _ _ hS5 (fun _ => ?_)
            clear hK K
            refine wpAnyH_done (by kernel_rfl) ?_ _
            exact ⟨_, _, _, _, _, _, _, _, _, _, _, _, _, _, A4, m4, c4, rfl, P4.out, T4.out, L4.out, L4'.out⟩
        · intro a' w6 hx
          clear s23 s24 s25 s26 s27 s28 s29 s30 s31
          obtain ⟨s23, s24, s25, s26, s27, s28, s29, s30, s31, s32, s33, s34, s35, s36, A4, m4, c4, rfl, hP6, hT6, hL6, hL6'⟩ := hx
          clear P5 T5 L5 L5'
          have hc6 := hP6.c2
          have hbsl := bytes_size bs
          have P6 := hide hP6
          have T6 := hide hT6
          have L6' := hide hL6'
          clear hP6 hT6 hL6 hL6'
          refine region_round_lit l' _ (by kernel_rfl) (fun ⟨_, _, h⟩ => h) ?_
          go_wp2_with (at_builtin; refine wp_join_far rfl (.tmp 37) (.tmp 38) 30 rfl 5 i0 (.int .u8 0) 1 Try.underlying30 hi hz0 hz1 hz2 rfl w.heap.size _ (byteCells bs) rfl _ P6.out.o2 P6.out.bel.size A8 m8 c8 (byteCells (encL d)) rfl L6'.out.1 (bytes_one _) (by omega) (by unfold maxLen; omega) ?_)
          intro v7 w7 ho7 hb7 hf7
          rw [← Go.Lib.byteCells_append] at ho7
          obtain ⟨A7, m7, c7, rfl, hm7, hs7⟩ := ho7.sl5
          obtain ⟨hc7, hz7⟩ := P6.out.box2 hf7
          have P7 := hide (P6.out.body ho7 hb7 hf7)
          have T7 := hide (T6.out.trans (P6.out.stBody hf7))
          clear ho7 hb7 hf7 hm7 hs7 P6 T6 L6'
          go_wp2
          refine ⟨T7.out.1.from _, T7.out.2, A4, m4, c4, A7, m7, c7, ?_⟩
          have hfin := P7.out
          rw [Int.toNat_natCast, Hm8.out, List.append_assoc, List.append_assoc, ← Hla.out, ← Hsn1.out, ← Hsn2.out, ← Hmap.out] at hfin
          exact hfin

end Go.Proofs.Ytfljmnjcoagbmaa
