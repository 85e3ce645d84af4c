/- Walk of layer 8's reference: canonical. -/
import Derived.Test.YtmiegjefmebpdaaGreatDoorKCl
import Derived.Deep.RegionHeld3
namespace Go.Proofs.YtmiegjefmebpdaaGreatDoor
open Go.RowKit

set_option maxRecDepth 100000 in
set_option maxHeartbeats 12800000 in
theorem can42 : ∀ (r : Rx), nodeR r = 0 → sizeR r ≤ 10000 → Tame r → CanC r := by
  intro r
  induction r using Rx.ind with
  | h k s a b l ih =>
    intro hnode hsz htame W ok v hv
    cases hv with
    | mk _ _ _ A B n c m d _ vs _ hset hvs hlen hk ha hb hr =>
    obtain ⟨hf, hbd, hsub⟩ := node_ok hnode
    obtain ⟨hk7, hkset, hle, hab, h4, h3, hl0⟩ := fields_of hf
    cases htame with
    | mk _ _ _ _ _ hs50 hlt =>
    have hnc := hset.1
    have hcc := hset.2.1
    have hsl := hset.2.2.1
    have hmd := hvs.1
    have hdd := hvs.2.1
    have Hvs := hide hvs
    have Hlen := hide hlen
    have Hr := hide hr
    have hB := bnew (Below.refl _ W) (.cells #[.int .i64 k, .slice A n c, .int .i64 a, .int .i64 b, .slice B m d] 25)
    have BB := hide hB
    have F := hide (five_new W (.int .i64 k) (.slice A n c) (.int .i64 a) (.int .i64 b) (.slice B m d) 25)
    have S := hide (hset.below hB)
    have hone : 1400 ≤ 1400 * sizeR (.mk k s a b l) := by unfold sizeR; omega
    have Hsl : sizeR (.mk k s a b l) = 1 + sizeL l := rfl
    have IH := hide (show ∀ x ∈ l, CanC x ∧ sizeR x ≤ 10000 from fun x hx => by
      have := sizeL_mem hx
      have hxs : sizeR x ≤ 10000 := by omega
      exact ⟨ih x hx (hsub x hx) hxs (hlt x hx), hxs⟩)
    have hn : n ≤ 1000 := by omega
    have Hos := hide (os_size s hs50)
    obtain ⟨Z, hZ⟩ : ∃ Z, 1400 * sizeR (.mk k s a b l) = Z := ⟨_, rfl⟩
    rw [hZ] at hone ⊢
    have hconst : ∀ (t : List UInt8) (k' : Int), k = k' → (k' = 5 ∧ t = [94] ∨ k' = 6 ∧ t = [36] ∨ k' = 7 ∧ t = [92, 98]) → canR (.mk k s a b l) = some t := by
      rintro t k' rfl (⟨rfl, rfl⟩ | ⟨rfl, rfl⟩ | ⟨rfl, rfl⟩) <;> simp [canR]
    have hcases : k = 1 ∨ k = 5 ∨ k = 6 ∨ k = 7 ∨ k = 4 ∨ k = 2 ∨ k = 3 := by omega
    rcases hcases with rfl | rfl | rfl | rfl | rfl | hk23
    · have hcan : canR (.mk 1 s a b l) = ofSet s := by simp [canR]
      rw [hcan]
      clear hset hvs hlen hr hB ih hnode hf hbd hsub hkset hle hab h4 h3 hl0 hlt hZ hconst hcan
      go_enter Tryz.func42, Tryz.ntmps42
      go_wp2_with fail
      with_reducible refine (ofset60 S.out hn).mono ?_
      rintro e w2 ⟨rfl, hb2⟩
      have B2 := hide (bgo BB.out hb2)
      clear hb2
      go_wp2
      go_ret2
      exact ⟨_, rfl, fun t ht => by rw [ht]; rfl, by have := Hos.out; omega, B2.out⟩
    · rw [hconst [94] 5 rfl (by simp)]
      clear hset hvs hlen hr hB ih hnode hf hbd hsub hkset hle hab h4 h3 hl0 hlt hZ hconst
      go_enter Tryz.func42, Tryz.ntmps42
      go_wp2_with fail
      go_ret2
      exact ⟨bs [94], rfl, fun t ht => by cases ht; rfl, by rw [bs_size]; simp; omega, BB.out⟩
    · rw [hconst [36] 6 rfl (by simp)]
      clear hset hvs hlen hr hB ih hnode hf hbd hsub hkset hle hab h4 h3 hl0 hlt hZ hconst
      go_enter Tryz.func42, Tryz.ntmps42
      go_wp2_with fail
      go_ret2
      exact ⟨bs [36], rfl, fun t ht => by cases ht; rfl, by rw [bs_size]; simp; omega, BB.out⟩
    · rw [hconst [92, 98] 7 rfl (by simp)]
      clear hset hvs hlen hr hB ih hnode hf hbd hsub hkset hle hab h4 h3 hl0 hlt hZ hconst
      go_enter Tryz.func42, Tryz.ntmps42
      go_wp2_with fail
      go_ret2
      exact ⟨bs [92, 98], rfl, fun t ht => by cases ht; rfl, by rw [bs_size]; simp; omega, BB.out⟩
    · have hl1 := h4 rfl
      have hbnd := hbd rfl
      have hm1 : m = 1 := by rw [← hlen, hl1]
      subst hm1
      obtain ⟨x, hxl⟩ : ∃ x, l = [x] := List.length_eq_one_iff.1 hl1
      subst hxl
      have hcan : canR (.mk 4 s a b [x]) = (match canR x with | none => none | some t => some (wrapP 4 x.kind t ++ suffixS a b)) := by
        simp only [canR, canL]
        cases canR x <;> simp
      have hZx : Z = 1400 + 1400 * sizeR x := by rw [← hZ, Hsl]; simp [sizeL]; omega
      obtain ⟨hcx, hxs⟩ := IH.out x (by simp)
      have hsf : (bs (suffixS a b)).size ≤ 5 := by
        rw [bs_size]
        have d : ∀ n : Int, (digitsS n).length ≤ 2 := fun n => by unfold digitsS; split <;> simp
        have d1 : ∀ n : Int, 0 ≤ n → n ≤ 8 → (digitsS n).length = 1 := fun n h1 h2 => by unfold digitsS; rw [if_neg (by omega)]; rfl
        unfold boundsR at hbnd
        rw [decide_eq_true_eq] at hbnd
        obtain ⟨p0, p1, p2⟩ := hbnd
        have da := d1 a p0 p1
        unfold suffixS
        split
        · simp
        · split
          · simp
          · split
            · simp
            · split
              · simp [da]
              · split
                · simp [da]
                · have db := d1 b (by omega) (by omega)
                  simp [da, db]
      obtain ⟨SF, hSF⟩ : ∃ SF, bs (suffixS a b) = SF := ⟨_, rfl⟩
      have Suf := hide (suffix62 a b hbnd)
      unfold Hid at Suf
      rw [hSF] at Suf hsf
      have Suf := hide Suf
      have hc' : ∀ u X, canR (.mk 4 s a b [x]) = some u → (∀ t, canR x = some t → X = bs (wrapP 4 x.kind t)) → X ++ SF = bs u := fun u X hu hX => by
        rw [hcan] at hu
        cases hcx' : canR x with
        | none => rw [hcx'] at hu; cases hu
        | some t =>
          rw [hcx'] at hu
          cases hu
          rw [hX t hcx', ← hSF, bs_app]
      have hob : osB (canR (.mk 4 s a b [x])) = osB (canR x) := by
        rw [hcan]
        cases canR x <;> rfl
      have HC := hide hc'
      rw [hob]
      obtain ⟨g, o, c0, c1, c2, c3, c4, rfl, hx, x0, x1, x2, x3, x4⟩ := (Hvs.out.below hB).at_ (show 0 < 1 by decide)
      have rx := Hr.out 0 _ _ hx rfl
      have hbd2 : Below W.heap.size W ((W.alloc (.cells #[.int .i64 4, .slice A n c, .int .i64 a, .int .i64 b, .slice (some ⟨g, o, none⟩) 1 d] 25)).drew) := bgo hB (bel_drew _)
      have HI := hide (inner61 hcx 4 (by simp) (rx.kept hbd2) hxs)
      have BD := hide hbd2
      have FD := hide (F.out.keep (bel_drew _))
      simp only [Nat.zero_mul, Nat.add_zero] at x0 x1 x2 x3 x4
      clear hset hvs hlen hr hB ih hnode hf hbd hsub hkset hle hab h4 h3 hl0 hlt hZ hconst hcan hSF hbnd hob hc' hx rx hbd2 hcx Hsl hl1 IH
      go_enter Tryz.func42, Tryz.ntmps42
      go_wp2_with fail
      obtain ⟨w1, hw1⟩ : ∃ w1, W.alloc (.cells #[.int .i64 4, .slice A n c, .int .i64 a, .int .i64 b, .slice (some ⟨g, o, none⟩) 1 d] 25) = w1 := ⟨_, rfl⟩
      rw [hw1] at F HI BD FD x0 x1 x2 x3 x4 ⊢
      obtain ⟨_, t0, t1, t2, t3, t4⟩ := F.out
      clear hw1
      have Hkp := hide (show ∀ w', Below w1.drew.heap.size w1.drew w' → w'.cell? ⟨W.heap.size, 0, none⟩ = some (.int .i64 4) ∧ w'.cell? ⟨W.heap.size, 4, none⟩ = some (.slice (some ⟨g, o, none⟩) 1 d) ∧ w'.cell? ⟨g, o, none⟩ = some c0 ∧ w'.cell? ⟨g, o + 1, none⟩ = some c1 ∧ w'.cell? ⟨g, o + 2, none⟩ = some c2 ∧ w'.cell? ⟨g, o + 3, none⟩ = some c3 ∧ w'.cell? ⟨g, o + 4, none⟩ = some c4 from fun w' hb => by
        have key : ∀ p v, w1.cell? p = some v → w'.cell? p = some v := fun p v h => (hb.cell (p := p) (World.block_lt_of_cell? _ _ h)).trans h
        exact ⟨key _ _ t0, key _ _ t4, key _ _ x0, key _ _ x1, key _ _ x2, key _ _ x3, key _ _ x4⟩)
      go_region_held3 (fun w' => w'.cell? ⟨W.heap.size, 0, none⟩ = some (.int .i64 4) ∧ w'.cell? ⟨W.heap.size, 4, none⟩ = some (.slice (some ⟨g, o, none⟩) 1 d) ∧ w'.cell? ⟨g, o, none⟩ = some c0 ∧ w'.cell? ⟨g, o + 1, none⟩ = some c1 ∧ w'.cell? ⟨g, o + 2, none⟩ = some c2 ∧ w'.cell? ⟨g, o + 3, none⟩ = some c3 ∧ w'.cell? ⟨g, o + 4, none⟩ = some c4)
        (first | go_keep | exact Hkp.out _ hb2)
        (first | (go_at_call 61; refine HI.out.mono ?_; rintro e w2 ⟨X, rfl, hX, hXb, hb2⟩))
      have B2 := hide (bgo BD.out hb2)
      obtain ⟨_, t0, t1, t2, t3, t4⟩ := FD.out.keep hb2
      have HX := hide (fun u hu => HC.out u X hu hX)
      have hXs : X.size ≤ 14000000 := by omega
      clear hb2 hX
      go_wp2_with fail
      with_reducible refine (Suf.out _).mono ?_
      rintro e w3 ⟨rfl, hb3⟩
      have B3 := hide (bgo B2.out hb3)
      clear hb3
      go_wp2
      go_ret2
      exact ⟨_, rfl, HX.out, by simp only [ByteArray.size_append]; omega, B3.out⟩
    · rcases hk23 with rfl | rfl
      · by_cases hm1 : m = 1
        · subst hm1
          have hcan : canR (.mk 2 s a b l) = none := by simp [canR, hlen]
          rw [hcan]
          clear hset hvs hlen hr hB ih hnode hf hbd hsub hkset hle hab h4 h3 hl0 hlt hZ hconst hcan
          go_enter Tryz.func42, Tryz.ntmps42
          go_wp2_with fail
          go_ret2
          exact ⟨bs [], rfl, fun t ht => by (cases ht), (by rw [bs_size]; simp; omega), BB.out⟩
        · have qm : ((m : Int) == 1) = false := by rw [beq_eq_false_iff_ne]; omega
          have hone2 : ¬ m = 1 := hm1
          have Hend := hide (show ∀ ts, canL 2 l = some ts → canR (.mk 2 s a b l) = some (joinN 2 ts) from fun ts h => by
            simp only [canR, joinN]
            simp [h, Hlen.out, hone2])
          have Hnone := hide (show ∀ x ∈ l, canR x = none → canR (.mk 2 s a b l) = none from fun x hx h => by
            simp only [canR]
            simp [canL_none 2 l x hx h])
          have hZl : Z = 1400 + 1400 * sizeL l := by rw [← hZ, Hsl]; omega
          have hZ3 : Z ≤ 14000000 := by omega
          clear hset hvs hlen hr hB ih hnode hf hbd hsub hkset hle hab h4 h3 hl0 hlt hZ hconst Hsl hsz
          go_enter Tryz.func42, Tryz.ntmps42
          go_wp2_with fail
          go_loopw [6, 7] (fun y x wr => ∃ (i : Nat) (X : ByteArray) (ts : List (List UInt8)), i ≤ m ∧ x = .int .i64 (i : Int) ∧ y = .string X ∧ canL 2 (l.take i) = some ts ∧ ts.length = i ∧ X = bs (joinN 2 ts) ∧ X.size ≤ 1400 * sizeL (l.take i) ∧ Below (W.alloc (.cells #[.int .i64 2, .slice A n c, .int .i64 a, .int .i64 b, .slice B m d] 25)).heap.size (W.alloc (.cells #[.int .i64 2, .slice A n c, .int .i64 a, .int .i64 b, .slice B m d] 25)) wr) (fun _ x _ => m - (intOf x).toNat)
          case atStart => exact ⟨0, _, [], Nat.zero_le _, rfl, rfl, rfl, rfl, rfl, Nat.zero_le _, Below.refl _ _⟩
          case round =>
            obtain ⟨i, X, ts, hi, rfl, rfl, hts, htl, hX, hXs, hbel⟩ := hrel
            obtain ⟨w3, hw3⟩ : ∃ w3, w3 = wr := ⟨wr, rfl⟩
            subst hw3
            obtain ⟨_, t0, t1, t2, t3, t4⟩ := F.out.keep hbel
            have B3 := hide hbel
            have B4 := hide (bgo BB.out hbel)
            have htk := sizeL_take l i
            have hXb : X.size ≤ 14000000 := by omega
            have Hts := hide hts
            have Htl := hide htl
            have HX := hide hX
            have HXs := hide hXs
            clear hts htl hX hXs htk
            by_cases hlt : i < m
            · obtain ⟨g, o, c0, c1, c2, c3, c4, rfl, hx, x0, x1, x2, x3, x4⟩ := (Hvs.out.below B4.out).at_ hlt
              have hil : i < l.length := by rw [Hlen.out]; exact hlt
              have hxl := List.getElem?_eq_getElem hil
              have rx := Hr.out i _ _ hx hxl
              obtain ⟨x, hxe⟩ : ∃ x, l[i] = x := ⟨_, rfl⟩
              rw [hxe] at hxl rx
              have hmem : x ∈ l := List.mem_of_getElem? hxl
              obtain ⟨hcx, hxs⟩ := IH.out x hmem
              have hbd3 : Below W.heap.size W w3.drew := B4.out.trans ((bel_drew w3).mono B4.out.size)
              have HI0 := inner61 hcx 2 (by simp) (rx.kept hbd3) hxs
              have him : (i : Int) < (m : Int) := by omega
              have hsx := sizeL_mem hmem
              have htk2 := sizeL_take l (i + 1)
              have Htk := hide (rx_take hxl)
              have Hsz := hide (show 1400 * sizeL (l.take (i + 1)) = 1400 * sizeL (l.take i) + 1400 * sizeR x by rw [rx_take hxl, sizeL_app]; omega)
              have Hkp := hide (show ∀ w', Below w3.drew.heap.size w3.drew w' → w'.cell? ⟨W.heap.size, 0, none⟩ = some (.int .i64 2) ∧ w'.cell? ⟨W.heap.size, 4, none⟩ = some (.slice (some ⟨g, o, none⟩) m d) ∧ w'.cell? ⟨g, o + i * 5, none⟩ = some c0 ∧ w'.cell? ⟨g, o + i * 5 + 1, none⟩ = some c1 ∧ w'.cell? ⟨g, o + i * 5 + 2, none⟩ = some c2 ∧ w'.cell? ⟨g, o + i * 5 + 3, none⟩ = some c3 ∧ w'.cell? ⟨g, o + i * 5 + 4, none⟩ = some c4 from fun w' hb => by
                have key : ∀ p v, w3.cell? p = some v → w'.cell? p = some v := fun p v h => (hb.cell (p := p) (World.block_lt_of_cell? _ _ h)).trans h
                exact ⟨key _ _ t0, key _ _ t4, key _ _ x0, key _ _ x1, key _ _ x2, key _ _ x3, key _ _ x4⟩)
              obtain ⟨T, hT⟩ : ∃ T, osB (canR x) = T := ⟨_, rfl⟩
              rw [hT] at HI0
              obtain ⟨q, hq⟩ : ∃ q, 1400 * sizeR x = q := ⟨_, rfl⟩
              rw [hq] at HI0 Hsz
              have hq2 : q ≤ 14000000 := by omega
              cases hcr : canR x with
              | none =>
                rw [hcr] at hT
                have hT2 : T = false := hT.symm
                subst hT2
                have Hn := hide (Hnone.out x hmem hcr)
                have HI := hide HI0
                clear hx hxl rx hxe hmem hcx hxs hbd3 HI0 hsx htk2 hT hq hcr hbel
                go_wp2
                go_region_held3 (fun w' => w'.cell? ⟨W.heap.size, 0, none⟩ = some (.int .i64 2) ∧ w'.cell? ⟨W.heap.size, 4, none⟩ = some (.slice (some ⟨g, o, none⟩) m d) ∧ w'.cell? ⟨g, o + i * 5, none⟩ = some c0 ∧ w'.cell? ⟨g, o + i * 5 + 1, none⟩ = some c1 ∧ w'.cell? ⟨g, o + i * 5 + 2, none⟩ = some c2 ∧ w'.cell? ⟨g, o + i * 5 + 3, none⟩ = some c3 ∧ w'.cell? ⟨g, o + i * 5 + 4, none⟩ = some c4)
                  (first | go_keep | exact Hkp.out _ hb4)
                  (first | (go_at_call 61; refine HI.out.mono ?_; rintro e w4 ⟨Y, rfl, hY, hYb, hb4⟩))
                have B5 := hide (B3.out.trans ((bel_drew w3).mono B3.out.size))
                have B6 := hide (B5.out.trans (hb4.mono B5.out.size))
                have B7 := hide (bgo BB.out B6.out)
                obtain ⟨_, y0, y1, y2, y3, y4⟩ := F.out.keep B6.out
                clear hY hYb hb4
                go_wp2
                go_ret2
                rw [Hn.out]
                exact ⟨bs [], rfl, fun t ht => by (cases ht), (by rw [bs_size]; simp; omega), B7.out⟩
              | some t =>
                rw [hcr] at hT
                have hT2 : T = true := hT.symm
                subst hT2
                obtain ⟨u, hu⟩ : ∃ u, wrapP 2 x.kind t = u := ⟨_, rfl⟩
                have Hcl := hide (show canL 2 (l.take (i + 1)) = some (ts ++ [u]) by rw [Htk.out, ← hu]; exact canL_app 2 _ _ _ _ Hts.out hcr)
                have HI := hide HI0
                have Hcr := hide hcr
                clear hx hxl rx hxe hmem hcx hxs hbd3 HI0 hsx htk2 hT hq hcr hbel
                go_wp2
                go_region_held3 (fun w' => w'.cell? ⟨W.heap.size, 0, none⟩ = some (.int .i64 2) ∧ w'.cell? ⟨W.heap.size, 4, none⟩ = some (.slice (some ⟨g, o, none⟩) m d) ∧ w'.cell? ⟨g, o + i * 5, none⟩ = some c0 ∧ w'.cell? ⟨g, o + i * 5 + 1, none⟩ = some c1 ∧ w'.cell? ⟨g, o + i * 5 + 2, none⟩ = some c2 ∧ w'.cell? ⟨g, o + i * 5 + 3, none⟩ = some c3 ∧ w'.cell? ⟨g, o + i * 5 + 4, none⟩ = some c4)
                  (first | go_keep | exact Hkp.out _ hb4)
                  (first | (go_at_call 61; refine HI.out.mono ?_; rintro e w4 ⟨Y, rfl, hY, hYb, hb4⟩))
                have B5 := hide (B3.out.trans ((bel_drew w3).mono B3.out.size))
                have B6 := hide (B5.out.trans (hb4.mono B5.out.size))
                have B7 := hide (bgo BB.out B6.out)
                obtain ⟨_, y0, y1, y2, y3, y4⟩ := F.out.keep B6.out
                have HYe := hide (show Y = bs u by rw [← hu]; exact hY t Hcr.out)
                have HYb := hide hYb
                have hYs : Y.size ≤ 14000000 := by omega
                clear hY hYb hb4
                have Hj := hide (show X ++ Y = bs (joinN 2 (ts ++ [u])) by rw [HX.out, HYe.out, bs_app, join_cat (by decide)])
                go_wp2
                go_roundw
                case rel => exact ⟨i + 1, X ++ Y, ts ++ [u], by omega, by go_num, rfl, Hcl.out, by rw [List.length_append, Htl.out]; rfl, Hj.out, by rw [ByteArray.size_append, Hsz.out]; have := HXs.out; have := HYb.out; omega, B6.out⟩
                case measure => simp [intOf]; omega
            · have hmi : i = m := by omega
              have hall := Hts.out
              rw [List.take_of_length_le (by rw [Hlen.out]; omega)] at hall
              have Hn := hide (Hend.out ts hall)
              have Hl := hide (show X.size + 100 ≤ Z by
                have := HXs.out
                rw [List.take_of_length_le (by rw [Hlen.out]; omega)] at this
                omega)
              clear hall hbel hmi
              go_wp2
              go_ret2
              rw [Hn.out]
              exact ⟨X, rfl, fun t ht => by (cases ht; exact HX.out), Hl.out, B4.out⟩
      · have Hend := hide (show ∀ ts, canL 3 l = some ts → canR (.mk 3 s a b l) = some (joinN 3 ts) from fun ts h => by
          simp only [canR, joinN]
          simp [h])
        have Hnone := hide (show ∀ x ∈ l, canR x = none → canR (.mk 3 s a b l) = none from fun x hx h => by
          simp only [canR]
          simp [canL_none 3 l x hx h])
        have hZl : Z = 1400 + 1400 * sizeL l := by rw [← hZ, Hsl]; omega
        have hZ3 : Z ≤ 14000000 := by omega
        clear hset hvs hlen hr hB ih hnode hf hbd hsub hkset hle hab h4 h3 hl0 hlt hZ hconst Hsl hsz
        go_enter Tryz.func42, Tryz.ntmps42
        go_wp2_with fail
        go_loopw [6, 7] (fun y x wr => ∃ (i : Nat) (X : ByteArray) (ts : List (List UInt8)), i ≤ m ∧ x = .int .i64 (i : Int) ∧ y = .string X ∧ canL 3 (l.take i) = some ts ∧ ts.length = i ∧ X = bs (joinN 3 ts) ∧ X.size ≤ 1400 * sizeL (l.take i) ∧ Below (W.alloc (.cells #[.int .i64 3, .slice A n c, .int .i64 a, .int .i64 b, .slice B m d] 25)).heap.size (W.alloc (.cells #[.int .i64 3, .slice A n c, .int .i64 a, .int .i64 b, .slice B m d] 25)) wr) (fun _ x _ => m - (intOf x).toNat)
        case atStart => exact ⟨0, _, [], Nat.zero_le _, rfl, rfl, rfl, rfl, rfl, Nat.zero_le _, Below.refl _ _⟩
        case round =>
          obtain ⟨i, X, ts, hi, rfl, rfl, hts, htl, hX, hXs, hbel⟩ := hrel
          obtain ⟨w3, hw3⟩ : ∃ w3, w3 = wr := ⟨wr, rfl⟩
          subst hw3
          obtain ⟨_, t0, t1, t2, t3, t4⟩ := F.out.keep hbel
          have B3 := hide hbel
          have B4 := hide (bgo BB.out hbel)
          have htk := sizeL_take l i
          have hXb : X.size ≤ 14000000 := by omega
          have Hts := hide hts
          have Htl := hide htl
          have HX := hide hX
          have HXs := hide hXs
          clear hts htl hX hXs htk
          by_cases hlt : i < m
          · obtain ⟨g, o, c0, c1, c2, c3, c4, rfl, hx, x0, x1, x2, x3, x4⟩ := (Hvs.out.below B4.out).at_ hlt
            have hil : i < l.length := by rw [Hlen.out]; exact hlt
            have hxl := List.getElem?_eq_getElem hil
            have rx := Hr.out i _ _ hx hxl
            obtain ⟨x, hxe⟩ : ∃ x, l[i] = x := ⟨_, rfl⟩
            rw [hxe] at hxl rx
            have hmem : x ∈ l := List.mem_of_getElem? hxl
            obtain ⟨hcx, hxs⟩ := IH.out x hmem
            have hbd3 : Below W.heap.size W w3.drew := B4.out.trans ((bel_drew w3).mono B4.out.size)
            have HI0 := inner61 hcx 3 (by simp) (rx.kept hbd3) hxs
            have him : (i : Int) < (m : Int) := by omega
            have hsx := sizeL_mem hmem
            have htk2 := sizeL_take l (i + 1)
            have Htk := hide (rx_take hxl)
            have Hsz := hide (show 1400 * sizeL (l.take (i + 1)) = 1400 * sizeL (l.take i) + 1400 * sizeR x by rw [rx_take hxl, sizeL_app]; omega)
            have Hkp := hide (show ∀ w', Below w3.drew.heap.size w3.drew w' → w'.cell? ⟨W.heap.size, 0, none⟩ = some (.int .i64 3) ∧ w'.cell? ⟨W.heap.size, 4, none⟩ = some (.slice (some ⟨g, o, none⟩) m d) ∧ w'.cell? ⟨g, o + i * 5, none⟩ = some c0 ∧ w'.cell? ⟨g, o + i * 5 + 1, none⟩ = some c1 ∧ w'.cell? ⟨g, o + i * 5 + 2, none⟩ = some c2 ∧ w'.cell? ⟨g, o + i * 5 + 3, none⟩ = some c3 ∧ w'.cell? ⟨g, o + i * 5 + 4, none⟩ = some c4 from fun w' hb => by
              have key : ∀ p v, w3.cell? p = some v → w'.cell? p = some v := fun p v h => (hb.cell (p := p) (World.block_lt_of_cell? _ _ h)).trans h
              exact ⟨key _ _ t0, key _ _ t4, key _ _ x0, key _ _ x1, key _ _ x2, key _ _ x3, key _ _ x4⟩)
            obtain ⟨T, hT⟩ : ∃ T, osB (canR x) = T := ⟨_, rfl⟩
            rw [hT] at HI0
            obtain ⟨q, hq⟩ : ∃ q, 1400 * sizeR x = q := ⟨_, rfl⟩
            rw [hq] at HI0 Hsz
            have hq2 : q ≤ 14000000 := by omega
            cases hcr : canR x with
            | none =>
              rw [hcr] at hT
              have hT2 : T = false := hT.symm
              subst hT2
              have Hn := hide (Hnone.out x hmem hcr)
              have HI := hide HI0
              clear hx hxl rx hxe hmem hcx hxs hbd3 HI0 hsx htk2 hT hq hcr hbel
              go_wp2
              go_region_held3 (fun w' => w'.cell? ⟨W.heap.size, 0, none⟩ = some (.int .i64 3) ∧ w'.cell? ⟨W.heap.size, 4, none⟩ = some (.slice (some ⟨g, o, none⟩) m d) ∧ w'.cell? ⟨g, o + i * 5, none⟩ = some c0 ∧ w'.cell? ⟨g, o + i * 5 + 1, none⟩ = some c1 ∧ w'.cell? ⟨g, o + i * 5 + 2, none⟩ = some c2 ∧ w'.cell? ⟨g, o + i * 5 + 3, none⟩ = some c3 ∧ w'.cell? ⟨g, o + i * 5 + 4, none⟩ = some c4)
                (first | go_keep | exact Hkp.out _ hb4)
                (first | (go_at_call 61; refine HI.out.mono ?_; rintro e w4 ⟨Y, rfl, hY, hYb, hb4⟩))
              have B5 := hide (B3.out.trans ((bel_drew w3).mono B3.out.size))
              have B6 := hide (B5.out.trans (hb4.mono B5.out.size))
              have B7 := hide (bgo BB.out B6.out)
              obtain ⟨_, y0, y1, y2, y3, y4⟩ := F.out.keep B6.out
              clear hY hYb hb4
              go_wp2
              go_ret2
              rw [Hn.out]
              exact ⟨bs [], rfl, fun t ht => by (cases ht), (by rw [bs_size]; simp; omega), B7.out⟩
            | some t =>
              rw [hcr] at hT
              have hT2 : T = true := hT.symm
              subst hT2
              obtain ⟨u, hu⟩ : ∃ u, wrapP 3 x.kind t = u := ⟨_, rfl⟩
              have Hcl := hide (show canL 3 (l.take (i + 1)) = some (ts ++ [u]) by rw [Htk.out, ← hu]; exact canL_app 3 _ _ _ _ Hts.out hcr)
              have HI := hide HI0
              have Hcr := hide hcr
              clear hx hxl rx hxe hmem hcx hxs hbd3 HI0 hsx htk2 hT hq hcr hbel
              go_wp2
              go_region_held3 (fun w' => w'.cell? ⟨W.heap.size, 0, none⟩ = some (.int .i64 3) ∧ w'.cell? ⟨W.heap.size, 4, none⟩ = some (.slice (some ⟨g, o, none⟩) m d) ∧ w'.cell? ⟨g, o + i * 5, none⟩ = some c0 ∧ w'.cell? ⟨g, o + i * 5 + 1, none⟩ = some c1 ∧ w'.cell? ⟨g, o + i * 5 + 2, none⟩ = some c2 ∧ w'.cell? ⟨g, o + i * 5 + 3, none⟩ = some c3 ∧ w'.cell? ⟨g, o + i * 5 + 4, none⟩ = some c4)
                (first | go_keep | exact Hkp.out _ hb4)
                (first | (go_at_call 61; refine HI.out.mono ?_; rintro e w4 ⟨Y, rfl, hY, hYb, hb4⟩))
              have B5 := hide (B3.out.trans ((bel_drew w3).mono B3.out.size))
              have B6 := hide (B5.out.trans (hb4.mono B5.out.size))
              have B7 := hide (bgo BB.out B6.out)
              obtain ⟨_, y0, y1, y2, y3, y4⟩ := F.out.keep B6.out
              have HYe := hide (show Y = bs u by rw [← hu]; exact hY t Hcr.out)
              have HYb := hide hYb
              have hYs : Y.size ≤ 14000000 := by omega
              clear hY hYb hb4
              by_cases hi0 : i = 0
              · have hts0 : ts = [] := List.eq_nil_of_length_eq_zero (by rw [Htl.out, hi0])
                have Hj := hide (show X ++ Y = bs (joinN 3 (ts ++ [u])) by rw [HX.out, HYe.out, bs_app, hts0]; congr 1)
                subst hi0
                clear hts0
                go_wp2
                go_roundw
                case rel => exact ⟨0 + 1, X ++ Y, ts ++ [u], by omega, by go_num, rfl, Hcl.out, by rw [List.length_append, Htl.out]; rfl, Hj.out, by rw [ByteArray.size_append, Hsz.out]; have := HXs.out; have := HYb.out; omega, B6.out⟩
                case measure => simp [intOf]; omega
              · have hip : (0 : Int) < (i : Int) := by omega
                have htne : ts ≠ [] := fun e => hi0 (by rw [← Htl.out, e]; rfl)
                obtain ⟨V, hV⟩ : ∃ V : ByteArray, bs [124] = V := ⟨_, rfl⟩
                have Hj := hide (show X ++ ⟨#[124]⟩ ++ Y = bs (joinN 3 (ts ++ [u])) by
                  rw [show (⟨#[124]⟩ : ByteArray) = bs [124] from rfl, HX.out, HYe.out, bs_app, bs_app, join_alt ts u htne])
                have Hjs := hide (show (X ++ ⟨#[124]⟩ ++ Y).size ≤ 1400 * sizeL (l.take (i + 1)) by
                  rw [ByteArray.size_append, ByteArray.size_append, Hsz.out, show (⟨#[124]⟩ : ByteArray).size = 1 from rfl]; have := HXs.out; have := HYb.out; omega)
                clear htne hi0 hV
                go_wp2
                go_roundw
                case rel => exact ⟨i + 1, _, ts ++ [u], by omega, by go_num, rfl, Hcl.out, by rw [List.length_append, Htl.out]; rfl, Hj.out, Hjs.out, B6.out⟩
                case measure => simp [intOf]; omega
          · have hmi : i = m := by omega
            have hall := Hts.out
            rw [List.take_of_length_le (by rw [Hlen.out]; omega)] at hall
            have Hn := hide (Hend.out ts hall)
            have Hl := hide (show X.size + 100 ≤ Z by
              have := HXs.out
              rw [List.take_of_length_le (by rw [Hlen.out]; omega)] at this
              omega)
            clear hall hbel hmi
            go_wp2
            go_ret2
            rw [Hn.out]
            exact ⟨X, rfl, fun t ht => by (cases ht; exact HX.out), Hl.out, B4.out⟩

end Go.Proofs.YtmiegjefmebpdaaGreatDoor
