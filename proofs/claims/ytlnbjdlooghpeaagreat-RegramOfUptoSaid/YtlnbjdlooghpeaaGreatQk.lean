/- Layer 10: walks of the reference: parts, raw, Of, Simplify. -/
import Derived.Test.YtlnbjdlooghpeaaGreatQj
import Derived.Deep.RegionLaw
import Derived.Deep.AppendLies
namespace Go.Proofs.YtlnbjdlooghpeaaGreat
open Go.RowKit

section
variable {P : Program} {ops : Array Oper} {o : Oper} {a : Act} {K : Act → World → Prop} {Q : Exit → Act → World → Prop} {E : Prop}
/-- An append to a row of conditions at a step of a region that draws its order. -/
theorem step_push_nd (hgd : o.guard = none) (s x : Operand) (t : TypeId) (ho : o.op = .call { callee := .builtin .append, args := #[s, x], argTypes := #[t, t] })
    (i : TypeInfo) (z : Value) (bytes : Nat) (ht : P.underlying t = some (.slice 31)) (hi : P.info? 31 = some i) (hz : i.zero = some z) (hsize : i.size = 3) (hby : i.bytes = bytes) (hzs : z.cells.size = 3)
    (B : Nat) (ok : Nat → Prop) (v : Value) (xs : List Nd) (hs : a.eval s = v) (w0 : World) (c0 c1 c2 : Value) (r : Nd) (hown : OwnN w0 B ok v xs) (hB : B ≤ w0.heap.size) (H : Nat) (hH : H = w0.heap.size)
    (hx : a.eval x = .slice (some ⟨H, 0, none⟩) 1 1) (hr : NdV w0 (fun g => ok g ∧ v.ownBlock ≠ some g) (.agg #[c0, c1, c2]) r) (hlen : (xs.length + 1) * bytes ≤ 140737488355328) (h63 : xs.length + 1 ≤ maxLen)
    (h : ∀ g cap w', OwnN w' B ok (.slice (some ⟨g, 0, none⟩) (xs.length + 1) cap) (xs ++ [r]) → Below B w0 w' → K (a.put o.dst (.slice (some ⟨g, 0, none⟩) (xs.length + 1) cap)) w') :
    if Region.wanted o (yielded ops a.tmps) = true then Oper.wp P o a (w0.alloc (.cells #[c0, c1, c2] 31)) K Q else E := by
  subst hH
  obtain ⟨cs, vs, hown, hvl, h3, h4⟩ := hown
  have hone : ∀ u ∈ [c0, c1, c2], u.oneCell' = true := by
    obtain ⟨d0, d1, d2, e, h0, h1, h2⟩ := hr.agg
    injection e with e
    injection e with e
    simp only [List.cons.injEq, and_true] at e
    obtain ⟨rfl, rfl, rfl⟩ := e
    intro u hu
    simp only [List.mem_cons, List.not_mem_nil, or_false] at hu
    rcases hu with rfl | rfl | rfl <;> assumption
  refine step_append_lies _ hgd s x t ho B 31 i z 3 bytes ht hi hz hsize hby hzs (by decide) v xs.length cs hs (hown.alloc _) ⟨w0.heap.size, 0, none⟩ 1 1 [c0, c1, c2] hx rfl (c1_tri _ _ _ _ _) hone (by decide) h63 hlen (by simp; omega) (w0.heap.size + 1) (by simp) ?_
  intro g cap w' hown' hg hat0 _
  obtain ⟨v', hv'⟩ : ∃ v', Value.slice (some ⟨g, 0, none⟩) (xs.length + 1) cap = v' := ⟨_, rfl⟩
  have hob : v'.ownBlock = some g := by rw [← hv']; rfl
  have hat : v'.ownBlock = v.ownBlock ∨ v'.ownBlock = some (w0.alloc (.cells #[c0, c1, c2] 31)).heap.size := by
    rcases hat0 with h | h
    · exact Or.inl (hob.trans h.symm)
    · exact Or.inr (by rw [hob, h]; simp)
  rw [hv'] at hown'
  have main : OwnN w' B ok v' (xs ++ [r]) ∧ Below B w0 w' := by
    have hF : Far w0 w' v v' := by
      refine ⟨by have := hg.size; simp at this; omega, fun g hlt hne => ⟨?_, ?_⟩⟩
      · exact (hg.block g (by simp; omega) (fun e => hne e.symm)).trans (((Below.refl w0.heap.size w0).alloc (Nat.le_refl _) _).block g hlt)
      · rcases hat with hat | hat
        · rw [hat]; exact hne
        · rw [hat]; intro e; injection e with e; simp at e; omega
    have hmap : ∀ (u : Value) (y : Nd), NdV w0 (fun g => ok g ∧ v.ownBlock ≠ some g) u y → NdV w' (fun g => ok g ∧ v'.ownBlock ≠ some g) u y := fun u y hy => hy.far hF
    have hcl : cs.length = xs.length * 3 := hown.1
    refine ⟨⟨cs ++ [c0, c1, c2], vs ++ [.agg #[c0, c1, c2]], by rw [List.length_append]; exact hown', by simp [hvl], fun j u hu => ?_, fun j u y hu hy => ?_⟩, ?_⟩
    · by_cases hj : j < vs.length
      · rw [List.getElem?_append_left hj] at hu
        obtain ⟨d0, d1, d2, e, e0, e1, e2⟩ := h3 j u hu
        have key : ∀ (q : Nat) (d : Value), q < 3 → cs[j * 3 + q]? = some d → (cs ++ [c0, c1, c2])[j * 3 + q]? = some d := fun q d hq hd => by
          rw [List.getElem?_append_left (by omega)]; exact hd
        exact ⟨d0, d1, d2, e, key 0 _ (by omega) e0, key 1 _ (by omega) e1, key 2 _ (by omega) e2⟩
      · rw [List.getElem?_append_right (by omega)] at hu
        have hj' : j = vs.length := by
          have := (List.getElem?_eq_some_iff.1 hu).1
          simp at this
          omega
        subst hj'
        rw [Nat.sub_self] at hu
        cases hu
        have key : ∀ q, q < 3 → (cs ++ [c0, c1, c2])[vs.length * 3 + q]? = [c0, c1, c2][q]? := fun q hq => by
          rw [List.getElem?_append_right (by omega), show vs.length * 3 + q - cs.length = q by omega]
        exact ⟨c0, c1, c2, rfl, key 0 (by omega), key 1 (by omega), key 2 (by omega)⟩
    · by_cases hj : j < vs.length
      · rw [List.getElem?_append_left hj] at hu
        rw [List.getElem?_append_left (by omega)] at hy
        exact hmap u y (h4 j u y hu hy)
      · rw [List.getElem?_append_right (by omega)] at hu hy
        have hj' : j = vs.length := by
          have := (List.getElem?_eq_some_iff.1 hu).1
          simp at this
          omega
        subst hj'
        rw [Nat.sub_self] at hu
        rw [hvl, Nat.sub_self] at hy
        cases hu
        cases hy
        exact hmap _ _ hr
    · exact ((Below.refl B w0).alloc hB _).grown hg (by simp; omega) fun k hk => (hown.lt k hk).1
  rw [← hv'] at main
  exact h g cap w' main.1 main.2
end
def boolNat : Value → Nat
  | .bool true => 1
  | _ => 0
theorem drop_nilX {α : Type} {l : List α} {i : Nat} (h : l.length ≤ i) : l.drop i = [] := List.drop_of_length_le h

set_option maxRecDepth 100000 in
set_option maxHeartbeats 12800000 in
theorem rparts {W : World} {ok : Nat → Prop} {B : Option Addr} {m d : Nat} {vs : List Value} {l : List Rx} (hvs : VsS W ok B m d vs) (hlen : l.length = m) (hml : m ≤ 1000000)
    (hr : ∀ (i : Nat) (v : Value) (x : Rx), vs[i]? = some v → l[i]? = some x → RxV W ok v x) (hn : ∀ x ∈ l, nodeR x = 0)
    (HR : ∀ x ∈ l, ∀ (W : World) (ok : Nat → Prop) (v : Value), RxV W ok v x → Calls Tryz.prog 22 #[v] W (GotN W (rawR x))) :
    Calls Tryz.prog 43 #[.slice B m d] W (GotN W (.mk 4 0 (partsR none l))) := by
  obtain ⟨i0, hi0, hz0, hz1, hz2⟩ := info_parts infoN
  have hmd := hvs.1
  have hdd := hvs.2.1
  have Hvs := hide hvs
  have Hlen := hide hlen
  have Hr := hide hr
  have Hn := hide hn
  have HRw := hide HR
  clear hvs hlen hr hn HR
  go_enter Tryz.func43, Tryz.ntmps43
  go_wp2
  obtain ⟨h0, hh0⟩ : ∃ h0, W.heap.size = h0 := ⟨_, rfl⟩
  have hf1 := triF_new (W.alloc (.cells #[.int .i64 0, .int .i64 0, .slice none 0 0] 31)) (.int .i64 4) (.int .i64 0) (.slice none 0 0) 31
  have hf0 := (triF_new W (.int .i64 0) (.int .i64 0) (.slice none 0 0) 31).keep (bel_alloc _ (.cells #[.int .i64 4, .int .i64 0, .slice none 0 0] 31))
  have hbb := bnew (bel_alloc W (.cells #[.int .i64 0, .int .i64 0, .slice none 0 0] 31)) (.cells #[.int .i64 4, .int .i64 0, .slice none 0 0] 31)
  have hsz1 : (W.alloc (.cells #[.int .i64 0, .int .i64 0, .slice none 0 0] 31)).heap.size = h0 + 1 := by simp [hh0]
  have hsz2 : ((W.alloc (.cells #[.int .i64 0, .int .i64 0, .slice none 0 0] 31)).alloc (.cells #[.int .i64 4, .int .i64 0, .slice none 0 0] 31)).heap.size = h0 + 2 := by simp [hh0]
  rw [hsz1] at hf1
  rw [hh0] at hf0
  obtain ⟨w1, hw1⟩ : ∃ w1, (W.alloc (.cells #[.int .i64 0, .int .i64 0, .slice none 0 0] 31)).alloc (.cells #[.int .i64 4, .int .i64 0, .slice none 0 0] 31) = w1 := ⟨_, rfl⟩
  rw [hw1] at hf1 hf0 hbb hsz2 ⊢
  rw [hh0]
  have F0 := hide hf0
  have F1 := hide hf1
  have BB := hide hbb
  have Hh0 := hide hh0
  have Hz2 := hide hsz2
  clear hw1 hf0 hf1 hbb hsz1 hsz2 hh0
  go_loopw [4, 5, 6, 7, 8, 9, 10, 11] (fun u4 _ _ _ _ _ _ _ wr => ∃ i : Nat, i ≤ m ∧ u4 = .int .i64 (i : Int) ∧ (∃ vo done, TriF wr (h0 + 1) (.int .i64 4) (.int .i64 0) vo ∧ OwnN wr (h0 + 2) (fun g => h0 + 2 ≤ g) vo done ∧ done ++ partsR none (l.drop i) = partsR none l ∧ done.length ≤ i) ∧ Below (h0 + 1) w1 wr) (fun u4 _ _ _ _ _ _ _ _ => m - (intOf u4).toNat)
  case atStart => exact ⟨0, Nat.zero_le _, rfl, ⟨_, [], F1.out, OwnN.nil _ _ _, by rw [List.drop_zero]; rfl, Nat.le_refl _⟩, Below.refl _ _⟩
  case round =>
    obtain ⟨i, hi, rfl, ⟨vo, done, hfo, hown, hdone, hdl⟩, hbel⟩ := hrel
    obtain ⟨x2, hx2⟩ : ∃ x2, x2 = wr := ⟨wr, rfl⟩
    subst hx2
    have B2 := hide hbel
    have FO := hide hfo
    have HO := hide hown
    have HD := hide hdone
    have hsb := hbel.size
    rw [Hz2.out] at hsb
    have BW := hide (show Below W.heap.size W x2 from BB.out.trans (hbel.mono (by rw [Hh0.out]; omega)))
    have hib : (i : Int) ≤ 1000000 := by omega
    obtain ⟨UA, un, ud, uvs, rfl, -, -, -⟩ := HO.out.s
    clear hfo hown hbel hdone
    by_cases hlt : i < m
    · have hlt' : (i : Int) < (m : Int) := by omega
      obtain ⟨gb, o, c0, c1, c2, c3, c4, rfl, hx, x0, x1, x2', x3, x4⟩ := (Hvs.out.below BW.out).at_ hlt
      have hil : i < l.length := by rw [Hlen.out]; exact hlt
      have hxl := List.getElem?_eq_getElem hil
      have rx := Hr.out i _ _ hx hxl
      obtain ⟨x, hxe⟩ : ∃ x, l[i] = x := ⟨_, rfl⟩
      rw [hxe] at hxl rx
      have hmem : x ∈ l := List.mem_of_getElem? hxl
      have HC := hide (rliterals true x (Hn.out x hmem) x2 ok _ (rx.kept BW.out))
      have HX := hide (fun (X : World) (hb : Below x2.heap.size x2 X) => HRw.out x hmem X ok _ ((rx.kept BW.out).kept hb))
      have hdrop := drop_at hxl
      have hDD := HD.out
      rw [hdrop] at hDD
      have Hxl := hide hxl
      clear hx rx hxe hmem hxl hdrop
      cases hl : litR true x with
      | none =>
        rw [parts_none hl] at hDD
        have HD2 := hide (show (done ++ [rawR x]) ++ partsR none (l.drop (i + 1)) = partsR none l by rw [← hDD]; simp [flushS])
        rw [hl] at HC
        clear hDD hl
        go_wp2_with fail
        with_reducible refine HC.out.mono ?_
        intro e w4 hg4
        obtain ⟨A4, n4, c4', rfl, hb4⟩ := gotO_none hg4
        have BD := hide (show Below (h0 + 1) w1 w4.drew from (B2.out.trans (hb4.mono (by omega))).trans ((bel_drew w4).mono (by have := hb4.size; omega)))
        have hBw : h0 + 2 ≤ w4.drew.heap.size := Nat.le_trans hsb hb4.size
        have hBD : h0 + 1 ≤ w4.drew.heap.size := by omega
        have FO4 := hide (FO.out.keep hb4)
        have HO4 := hide (HO.out.below hb4)
        have Hul := hide (fun g (hg : (Value.slice UA un ud).ownBlock = some g) => (HO4.out.lt hg).2)
        have HCd := hide (HX.out w4.drew (bgo hb4 (bel_drew w4)))
        have hk0 := (hb4.cell (World.block_lt_of_cell? _ _ x0)).trans x0
        have hk1 := (hb4.cell (World.block_lt_of_cell? _ _ x1)).trans x1
        have hk2 := (hb4.cell (World.block_lt_of_cell? _ _ x2')).trans x2'
        have hk3 := (hb4.cell (World.block_lt_of_cell? _ _ x3)).trans x3
        have hk4 := (hb4.cell (World.block_lt_of_cell? _ _ x4)).trans x4
        clear hg4 hb4 x0 x1 x2' x3 x4 HX
        have Fd := hide (FO4.out.keep (bel_drew w4))
        have Od := hide (HO4.out.below (bel_drew w4))
        obtain ⟨⟨-, p0, p1, p2⟩, p3, p4, p5⟩ := FO4.out
        go_upto_region 6 with (fail)
        go_region_law (first
          | (refine step_push_nd (by rfl) (.tmp 28) (.tmp 34) 29 (by rfl) i0 _ 40 Tryz.underlying29 hi0 hz0 hz1 hz2 rfl (h0 + 2) (fun g => h0 + 2 ≤ g) (.slice UA un ud) done (by rfl) w5 _ _ _ (rawR x) O5.out hB5 _ rfl (by rfl) R5.out (by omega) (by unfold maxLen; omega) ?_; intro gg cap w7 hown7 hb7; have X7 := hide hown7; have B7 := hide hb7; have O7 := F5.out.at_ hb7 (by omega); have H7 := hide O7; obtain ⟨⟨-, k0, k1, k2⟩, k3, k4, k5⟩ := O7; clear hown7 hb7)
          | (go_simp; go_at_call 22; refine HCd.out.mono ?_; rintro e w5 ⟨vv, rfl, hr5, hb5⟩; obtain ⟨zk, zg, zB, zm, zd, rfl, -, -, -, -⟩ := ndv_shape hr5; have O5 := hide (Od.out.below hb5); have hB5 : h0 + 2 ≤ w5.heap.size := Nat.le_trans hBw hb5.size; have B5 := hide hb5; have R5 := hide (show NdV w5 (fun g => h0 + 2 ≤ g ∧ (Value.slice UA un ud).ownBlock ≠ some g) (.agg #[.int .i64 zk, .int .i64 zg, .slice zB zm zd]) (rawR x) from hr5.weak fun g hg => ⟨Nat.le_trans hBw hg, fun e => by have h1 := Hul.out g e; have h2 : w4.heap.size ≤ g := hg; omega⟩); have o5 := Fd.out.keep hb5; have F5 := hide o5; obtain ⟨⟨-, r0, r1, r2⟩, r3, r4, r5⟩ := o5; have o6 := F5.out.keep (bel_alloc w5 (.cells #[.int .i64 zk, .int .i64 zg, .slice zB zm zd] 31)); obtain ⟨⟨-, i0', i1', i2'⟩, -⟩ := o6; clear hr5 hb5))
        all_goals
          have FX := hide (H7.out.set2 (.slice (some ⟨gg, 0, none⟩) (done.length + 1) cap))
          have OX := hide (X7.out.setc (u := .slice (some ⟨gg, 0, none⟩) (done.length + 1) cap) (j := 2) (Nat.lt_succ_self (h0 + 1)) (by omega))
          have BX := hide (((BD.out.trans (B5.out.mono hBD)).trans (B7.out.mono (Nat.le_succ (h0 + 1)))).setCell (p := ⟨h0 + 1, 2, none⟩) (Nat.le_refl (h0 + 1)) (.slice (some ⟨gg, 0, none⟩) (done.length + 1) cap))
          go_wp2
          go_roundw
          case rel => exact ⟨i + 1, by omega, by go_num, ⟨_, done ++ [rawR x], FX.out, OX.out, HD2.out, by rw [List.length_append, List.length_singleton]; omega⟩, BX.out⟩
          case measure => simp [intOf]; omega
      | some y =>
        rw [parts_new hl] at hDD
        have Hdd := hide hDD
        have Hyg := hide (litR_good x y hl)
        rw [hl] at HC
        clear hDD hl HX
        go_wp2_with fail
        with_reducible refine HC.out.mono ?_
        intro e w4 hg4
        obtain ⟨A4, n4, c4', rfl, hn4, hs4, hb4⟩ := gotO_some hg4
        have B4 := hide (B2.out.trans (hb4.mono (by omega)))
        have hsb4 := Nat.le_trans hsb hb4.size
        have FO4 := hide (FO.out.keep hb4)
        have HO4 := hide (HO.out.below hb4)
        have BW4 := hide (bgo BW.out hb4)
        have S4 := hide hs4
        clear hg4 hb4 x0 x1 x2' x3 x4 hn4 hs4 FO HO B2
        go_wp2
        go_loopw [4, 5, 7, 8, 9, 10, 11] (fun u4 u5 u7 _ _ _ _ wr => ∃ (i' : Nat) (c : List (List UInt8)) (q : Bool) (A : Option Addr) (n cap : Nat), i < i' ∧ i' ≤ m ∧ u4 = .int .i64 (i' : Int) ∧ u7 = .bool q ∧ u5 = .slice A n cap ∧ LitL c ∧ Sl wr A n cap (strCells c) ∧ (q = true → done ++ partsR (some c) (l.drop i') = partsR none l) ∧ (q = false → done ++ ofStr c :: partsR none (l.drop i') = partsR none l) ∧ Below w4.heap.size w4 wr) (fun u4 _ u7 _ _ _ _ _ => 2 * (m - (intOf u4).toNat) + boolNat u7)
        case atStart => exact ⟨i + 1, y, true, A4, n4, c4', by omega, by omega, by go_num, rfl, rfl, Hyg.out, S4.out, fun _ => Hdd.out, fun h => (by cases h), Below.refl _ _⟩
        case round =>
          obtain ⟨i', cs, q, A6, n6, c6, hii, him, rfl, rfl, rfl, hlit, hs6, hqt, hqf, hbel⟩ := hrel
          obtain ⟨x6, hx6⟩ : ∃ x6, x6 = wr := ⟨wr, rfl⟩
          subst hx6
          have X6 := hide hbel
          have HL := hide hlit
          have S6 := hide hs6
          have Hqt := hide hqt
          have Hqf := hide hqf
          have hi6 : (i' : Int) ≤ 1000000 := by omega
          have hc8 := hlit.2.1
          have hnc6 := hs6.1
          have hcc6 := hs6.2.1
          have hn68 : n6 ≤ 8 := by have := hs6.nstr; omega
          clear hbel hlit hs6 hqt hqf
          cases q with
          | false =>
            have HE := hide (show (done ++ [ofStr cs]) ++ partsR none (l.drop i') = partsR none l by rw [← Hqf.out rfl]; simp)
            clear Hqt Hqf
            have hBD : h0 + 1 ≤ x6.drew.heap.size := by have := X6.out.size; have h2 : x6.drew.heap.size = x6.heap.size := rfl; omega
            have hBw : h0 + 2 ≤ x6.drew.heap.size := by have := X6.out.size; have h2 : x6.drew.heap.size = x6.heap.size := rfl; omega
            have BD := hide (show Below (h0 + 1) w1 x6.drew from ((B4.out.trans (X6.out.mono (by omega)))).trans ((bel_drew x6).mono (by have := X6.out.size; omega)))
            have FO6 := hide (FO4.out.keep X6.out)
            have HO6 := hide (HO4.out.below X6.out)
            have Hul := hide (fun g (hg : (Value.slice UA un ud).ownBlock = some g) => (HO6.out.lt hg).2)
            have HCd := hide (rofStrings (S6.out.below (bel_drew x6)) (by have := HL.out.2.1; omega) (fun z hz => Nat.le_trans (HL.out.2.2 z hz) (by omega)))
            have Fd := hide (FO6.out.keep (bel_drew x6))
            have Od := hide (HO6.out.below (bel_drew x6))
            obtain ⟨⟨-, p0, p1, p2⟩, p3, p4, p5⟩ := FO6.out
            go_upto_region 19 with (fail)
            go_region_law (first
              | (refine step_push_nd (by rfl) (.tmp 70) (.tmp 73) 29 (by rfl) i0 _ 40 Tryz.underlying29 hi0 hz0 hz1 hz2 rfl (h0 + 2) (fun g => h0 + 2 ≤ g) (.slice UA un ud) done (by rfl) w5 _ _ _ (ofStr cs) O5.out hB5 _ rfl (by rfl) R5.out (by omega) (by unfold maxLen; omega) ?_; intro gg cap w7 hown7 hb7; have X7 := hide hown7; have B7 := hide hb7; have O7 := F5.out.at_ hb7 (by omega); have H7 := hide O7; obtain ⟨⟨-, k0, k1, k2⟩, k3, k4, k5⟩ := O7; clear hown7 hb7)
              | (go_simp; go_at_call 42; refine HCd.out.mono ?_; rintro e w5 ⟨vv, rfl, hr5, hb5⟩; obtain ⟨zk, zg, zB, zm, zd, rfl, -, -, -, -⟩ := ndv_shape hr5; have O5 := hide (Od.out.below hb5); have hB5 : h0 + 2 ≤ w5.heap.size := Nat.le_trans hBw hb5.size; have B5 := hide hb5; have R5 := hide (show NdV w5 (fun g => h0 + 2 ≤ g ∧ (Value.slice UA un ud).ownBlock ≠ some g) (.agg #[.int .i64 zk, .int .i64 zg, .slice zB zm zd]) (ofStr cs) from hr5.weak fun g hg => ⟨Nat.le_trans hBw hg, fun e => by have h1 := Hul.out g e; have h2 : x6.heap.size ≤ g := hg; omega⟩); have o5 := Fd.out.keep hb5; have F5 := hide o5; obtain ⟨⟨-, r0, r1, r2⟩, r3, r4, r5⟩ := o5; have o6 := F5.out.keep (bel_alloc w5 (.cells #[.int .i64 zk, .int .i64 zg, .slice zB zm zd] 31)); obtain ⟨⟨-, i0', i1', i2'⟩, -⟩ := o6; clear hr5 hb5))
            all_goals
              have FX := hide (H7.out.set2 (.slice (some ⟨gg, 0, none⟩) (done.length + 1) cap))
              have OX := hide (X7.out.setc (u := .slice (some ⟨gg, 0, none⟩) (done.length + 1) cap) (j := 2) (Nat.lt_succ_self (h0 + 1)) (by omega))
              have BX := hide (((BD.out.trans (B5.out.mono hBD)).trans (B7.out.mono (Nat.le_succ (h0 + 1)))).setCell (p := ⟨h0 + 1, 2, none⟩) (Nat.le_refl (h0 + 1)) (.slice (some ⟨gg, 0, none⟩) (done.length + 1) cap))
              go_wp2
              go_roundw
              case rel => exact ⟨i', by omega, by go_num, ⟨_, done ++ [ofStr cs], FX.out, OX.out, HE.out, by rw [List.length_append, List.length_singleton]; omega⟩, BX.out⟩
              case measure => simp [intOf]; omega
          | true =>
            by_cases hlt6 : i' < m
            · have hlt6' : (i' : Int) < (m : Int) := by omega
              have hBW6 := bgo BW4.out X6.out
              obtain ⟨gb', o', d0, d1, d2, d3, d4, e5, hx', q0, q1, q2, q3, q4⟩ := (Hvs.out.below hBW6).at_ hlt6
              cases e5
              have hil' : i' < l.length := by rw [Hlen.out]; exact hlt6
              have hxl' := List.getElem?_eq_getElem hil'
              have rx' := Hr.out i' _ _ hx' hxl'
              obtain ⟨x', hxe'⟩ : ∃ x', l[i'] = x' := ⟨_, rfl⟩
              rw [hxe'] at hxl' rx'
              have hmem' : x' ∈ l := List.mem_of_getElem? hxl'
              have HCi := hide (rliterals true x' (Hn.out x' hmem') x6 ok _ (rx'.kept hBW6))
              have hdrop' := drop_at hxl'
              have hDt := Hqt.out rfl
              rw [hdrop'] at hDt
              have Hdrop := hide hdrop'
              clear hx' rx' hxe' hmem' hxl' hdrop' hBW6 Hqf
              cases hl' : litR true x' with
              | none =>
                have HE := hide (show done ++ ofStr cs :: partsR none (l.drop i') = partsR none l by
                  rw [← hDt, Hdrop.out, parts_none hl', parts_none hl']; simp [flushS])
                rw [hl'] at HCi
                clear hDt hl' Hqt
                go_wp2_with fail
                with_reducible refine HCi.out.mono ?_
                intro e w7 hg7
                obtain ⟨A7, n7, c7, rfl, hb7⟩ := gotO_none hg7
                have X7 := hide (bgo X6.out hb7)
                have S7 := hide (S6.out.below hb7)
                clear hg7 hb7
                go_wp2
                go_roundw
                case rel => exact ⟨i', cs, false, A6, n6, c6, hii, him, rfl, rfl, rfl, HL.out, S7.out, fun h => (by cases h), fun _ => HE.out, X7.out⟩
                case measure => simp [intOf, boolNat]
              | some y' =>
                have Hy' := hide (litR_good x' y' hl')
                have hy8 := Hy'.out.2.1
                rw [hl'] at HCi
                cases hop : prodS cs y' with
                | none =>
                  have HE := hide (show done ++ ofStr cs :: partsR none (l.drop i') = partsR none l by
                    rw [← hDt, Hdrop.out, parts_cut hl' hop, parts_new hl'])
                  clear hDt hl' Hqt
                  go_wp2_with fail
                  with_reducible refine HCi.out.mono ?_
                  intro e w7 hg7
                  obtain ⟨A7, n7, c7, rfl, hn7, hs7, hb7⟩ := gotO_some hg7
                  have X7 := hide (bgo X6.out hb7)
                  have S7 := hide (S6.out.below hb7)
                  have hnc7 := hs7.1
                  have hcc7 := hs7.2.1
                  have hn78 : n7 ≤ 8 := by omega
                  have HCp := hide (show Calls Tryz.prog 60 #[.slice A6 n6 c6, .slice A7 n7 c7] w7 (GotO w7 none) by rw [← hop]; exact rproduct S7.out hs7 (by omega) (by omega) (fun z hz => Nat.le_trans (HL.out.2.2 z hz) (by omega)) (fun z hz => Nat.le_trans (Hy'.out.2.2 z hz) (by omega)))
                  clear hg7 hb7 hs7 hn7 hop
                  go_wp2_with fail
                  with_reducible refine HCp.out.mono ?_
                  intro e w8 hg8
                  obtain ⟨A8, n8, c8, rfl, hb8⟩ := gotO_none hg8
                  have X8 := hide (bgo X7.out hb8)
                  have S8 := hide (S7.out.below hb8)
                  clear hg8 hb8
                  go_wp2
                  go_roundw
                  case rel => exact ⟨i', cs, false, A6, n6, c6, hii, him, rfl, rfl, rfl, HL.out, S8.out, fun h => (by cases h), fun _ => HE.out, X8.out⟩
                  case measure => simp [intOf, boolNat]
                | some pp =>
                  have HE := hide (show done ++ partsR (some pp) (l.drop (i' + 1)) = partsR none l by
                    rw [← hDt, parts_more hl' hop])
                  have HLp := hide (prodS_some hop).1
                  clear hDt hl' Hqt
                  go_wp2_with fail
                  with_reducible refine HCi.out.mono ?_
                  intro e w7 hg7
                  obtain ⟨A7, n7, c7, rfl, hn7, hs7, hb7⟩ := gotO_some hg7
                  have X7 := hide (bgo X6.out hb7)
                  have hnc7 := hs7.1
                  have hcc7 := hs7.2.1
                  have hn78 : n7 ≤ 8 := by omega
                  have HCp := hide (show Calls Tryz.prog 60 #[.slice A6 n6 c6, .slice A7 n7 c7] w7 (GotO w7 (some pp)) by rw [← hop]; exact rproduct (S6.out.below hb7) hs7 (by omega) (by omega) (fun z hz => Nat.le_trans (HL.out.2.2 z hz) (by omega)) (fun z hz => Nat.le_trans (Hy'.out.2.2 z hz) (by omega)))
                  clear hg7 hb7 hs7 hn7 hop
                  go_wp2_with fail
                  with_reducible refine HCp.out.mono ?_
                  intro e w8 hg8
                  obtain ⟨A8, n8, c8, rfl, hn8, hs8, hb8⟩ := gotO_some hg8
                  have X8 := hide (bgo X7.out hb8)
                  have S8 := hide hs8
                  clear hg8 hb8 hs8 hn8
                  go_wp2
                  go_roundw
                  case rel => exact ⟨i' + 1, pp, true, A8, n8, c8, by omega, by omega, by go_num, rfl, rfl, HLp.out, S8.out, fun _ => HE.out, fun h => (by cases h), X8.out⟩
                  case measure => simp [intOf, boolNat]; omega
            · have hlt6' : ¬ (i' : Int) < (m : Int) := by omega
              have hnil : l.drop i' = [] := drop_nilX (by rw [Hlen.out]; omega)
              have HE := hide (show (done ++ [ofStr cs]) ++ partsR none (l.drop i') = partsR none l by rw [← Hqt.out rfl, hnil, partsR, partsR]; simp [flushS])
              clear Hqt Hqf hnil
              have hBD : h0 + 1 ≤ x6.drew.heap.size := by have := X6.out.size; have h2 : x6.drew.heap.size = x6.heap.size := rfl; omega
              have hBw : h0 + 2 ≤ x6.drew.heap.size := by have := X6.out.size; have h2 : x6.drew.heap.size = x6.heap.size := rfl; omega
              have BD := hide (show Below (h0 + 1) w1 x6.drew from ((B4.out.trans (X6.out.mono (by omega)))).trans ((bel_drew x6).mono (by have := X6.out.size; omega)))
              have FO6 := hide (FO4.out.keep X6.out)
              have HO6 := hide (HO4.out.below X6.out)
              have Hul := hide (fun g (hg : (Value.slice UA un ud).ownBlock = some g) => (HO6.out.lt hg).2)
              have HCd := hide (rofStrings (S6.out.below (bel_drew x6)) (by have := HL.out.2.1; omega) (fun z hz => Nat.le_trans (HL.out.2.2 z hz) (by omega)))
              have Fd := hide (FO6.out.keep (bel_drew x6))
              have Od := hide (HO6.out.below (bel_drew x6))
              obtain ⟨⟨-, p0, p1, p2⟩, p3, p4, p5⟩ := FO6.out
              go_upto_region 19 with (fail)
              go_region_law (first
                | (refine step_push_nd (by rfl) (.tmp 70) (.tmp 73) 29 (by rfl) i0 _ 40 Tryz.underlying29 hi0 hz0 hz1 hz2 rfl (h0 + 2) (fun g => h0 + 2 ≤ g) (.slice UA un ud) done (by rfl) w5 _ _ _ (ofStr cs) O5.out hB5 _ rfl (by rfl) R5.out (by omega) (by unfold maxLen; omega) ?_; intro gg cap w7 hown7 hb7; have X7 := hide hown7; have B7 := hide hb7; have O7 := F5.out.at_ hb7 (by omega); have H7 := hide O7; obtain ⟨⟨-, k0, k1, k2⟩, k3, k4, k5⟩ := O7; clear hown7 hb7)
                | (go_simp; go_at_call 42; refine HCd.out.mono ?_; rintro e w5 ⟨vv, rfl, hr5, hb5⟩; obtain ⟨zk, zg, zB, zm, zd, rfl, -, -, -, -⟩ := ndv_shape hr5; have O5 := hide (Od.out.below hb5); have hB5 : h0 + 2 ≤ w5.heap.size := Nat.le_trans hBw hb5.size; have B5 := hide hb5; have R5 := hide (show NdV w5 (fun g => h0 + 2 ≤ g ∧ (Value.slice UA un ud).ownBlock ≠ some g) (.agg #[.int .i64 zk, .int .i64 zg, .slice zB zm zd]) (ofStr cs) from hr5.weak fun g hg => ⟨Nat.le_trans hBw hg, fun e => by have h1 := Hul.out g e; have h2 : x6.heap.size ≤ g := hg; omega⟩); have o5 := Fd.out.keep hb5; have F5 := hide o5; obtain ⟨⟨-, r0, r1, r2⟩, r3, r4, r5⟩ := o5; have o6 := F5.out.keep (bel_alloc w5 (.cells #[.int .i64 zk, .int .i64 zg, .slice zB zm zd] 31)); obtain ⟨⟨-, i0', i1', i2'⟩, -⟩ := o6; clear hr5 hb5))
              all_goals
                have FX := hide (H7.out.set2 (.slice (some ⟨gg, 0, none⟩) (done.length + 1) cap))
                have OX := hide (X7.out.setc (u := .slice (some ⟨gg, 0, none⟩) (done.length + 1) cap) (j := 2) (Nat.lt_succ_self (h0 + 1)) (by omega))
                have BX := hide (((BD.out.trans (B5.out.mono hBD)).trans (B7.out.mono (Nat.le_succ (h0 + 1)))).setCell (p := ⟨h0 + 1, 2, none⟩) (Nat.le_refl (h0 + 1)) (.slice (some ⟨gg, 0, none⟩) (done.length + 1) cap))
                go_wp2
                go_roundw
                case rel => exact ⟨i', by omega, by go_num, ⟨_, done ++ [ofStr cs], FX.out, OX.out, HE.out, by rw [List.length_append, List.length_singleton]; omega⟩, BX.out⟩
                case measure => simp [intOf]; omega
    · have hlt' : ¬ (i : Int) < (m : Int) := by omega
      have hnil : l.drop i = [] := drop_nilX (by rw [Hlen.out]; omega)
      have hD := HD.out
      rw [hnil, show partsR none [] = [] from by rw [partsR]; rfl, List.append_nil] at hD
      have hO := HO.out
      rw [hD] at hO
      have hnd := hO.nd 4 (by omega)
      have ND := hide (show NdV x2 (fun g => h0 + 2 ≤ g) (.agg #[.int .i64 4, .int .i64 0, .slice UA un ud]) (.mk 4 0 (partsR none l)) from hnd.weak fun g hg => by
        rcases hg with hg | hg
        · exact hg
        · exact hg)
      have F2 := hide (F0.out.at_ B2.out (by omega))
      obtain ⟨⟨-, s0, s1, s2⟩, f0, f1, f2⟩ := F2.out
      obtain ⟨⟨-, y0, y1, y2⟩, e0, e1, e2⟩ := FO.out
      clear hnil hO hnd hD
      go_wp2
      exact bodyPost_ret (res_box rfl _ _ h0 _ _ _ rfl (put3_tri F2.out _ _ _)) rfl ⟨_, rfl, put3_ndv ND.out (by omega) (fun g hg => by rw [Hh0.out]; omega), put3_below BW.out (by rw [Hh0.out]; exact Nat.le_refl _)⟩
end Go.Proofs.YtlnbjdlooghpeaaGreat
