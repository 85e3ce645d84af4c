/- TopRegex: Pv. -/
import Derived.Test.YtlnbjdlooghpeaaGreatDoorTPu
namespace Go.Proofs.YtlnbjdlooghpeaaGreatDoor
open Go.RowKit
theorem run82 (xs : Array Value) (W : World) : (callFunc 110 xs).run Tryz.prog W = .ok (.enter 110 xs) W := by kernel_rfl
theorem pst_start (W : World) (T1 T2 : TypeId) {w0 : World} (hw : (W.alloc (.cells #[.slice none 0 0] T1)).alloc (.cells #[.slice none 0 0] T2) = w0) : PSt W.heap.size w0 [] [] (.slice none 0 0) none 0 0 ∧ Below W.heap.size W w0 := by
  have hs1 : (W.alloc (.cells #[.slice none 0 0] T1)).heap.size = W.heap.size + 1 := by simp
  obtain ⟨b1, b2⟩ := box_new W (.slice none 0 0) T1
  have hb0 := bel_alloc W (.cells #[.slice none 0 0] T1)
  obtain ⟨w1, hw1⟩ : ∃ w1, W.alloc (.cells #[.slice none 0 0] T1) = w1 := ⟨_, rfl⟩
  rw [hw1] at hw hs1 b1 b2 hb0
  obtain ⟨c1, c2⟩ := box_new w1 (.slice none 0 0) T2
  have hs2 : (w1.alloc (.cells #[.slice none 0 0] T2)).heap.size = W.heap.size + 2 := by simp [hs1]
  have hb := bel_alloc w1 (.cells #[.slice none 0 0] T2)
  rw [hs1] at c1 c2
  rw [hw] at c1 c2 hb hs2
  have hlt : W.heap.size < w1.heap.size := by omega
  exact ⟨⟨by omega, ⟨(hb.cell (p := ⟨W.heap.size, 0, none⟩) hlt).trans b1, (hb.frozen (p := ⟨W.heap.size, 0, none⟩) hlt).trans b2⟩, ⟨c1, c2⟩, OwnN.nil _ _ _, ⟨Sl.nil _, fun h => absurd h (by omega)⟩⟩, bgo hb0 hb⟩
theorem Five.nrel {h0 : Nat} {w w' : World} {vo vo' : Value} {b : Nat} {c0 c1 c2 c3 c4 : Value} (h : Five w b c0 c1 c2 c3 c4) (hr : NRel h0 w w' vo vo') (hb : b ≠ h0) (hv : vo.ownBlock ≠ some b) : Five w' b c0 c1 c2 c3 c4 := by
  obtain ⟨a0, a1, a2, a3, a4, a5⟩ := h
  have e := (hr.2 b a0 hb hv).1
  have key : ∀ j, w'.cell? ⟨b, j, none⟩ = w.cell? ⟨b, j, none⟩ := fun j => World.cell?_of_block (w := w) (a := ⟨b, j, none⟩) e
  exact ⟨Nat.lt_of_lt_of_le a0 hr.1, (key _).trans a1, (key _).trans a2, (key _).trans a3, (key _).trans a4, (key _).trans a5⟩
theorem Five.block {w w' : World} {b : Nat} {c0 c1 c2 c3 c4 : Value} (h : Five w b c0 c1 c2 c3 c4) (hs : w'.heap.size = w.heap.size) (e : w'.heap[b]? = w.heap[b]?) : Five w' b c0 c1 c2 c3 c4 := by
  obtain ⟨a0, a1, a2, a3, a4, a5⟩ := h
  have key : ∀ j, w'.cell? ⟨b, j, none⟩ = w.cell? ⟨b, j, none⟩ := fun j => World.cell?_of_block (w := w) (a := ⟨b, j, none⟩) e
  exact ⟨by rw [hs]; exact a0, (key _).trans a1, (key _).trans a2, (key _).trans a3, (key _).trans a4, (key _).trans a5⟩
theorem PSt.new {h0 : Nat} {w : World} {needs : List Nd} {part : LS} {vo : Value} {A : Option Addr} {n c b : Nat} (h : PSt h0 w needs part vo A n c) (hb : w.heap.size ≤ b) : vo.ownBlock ≠ some b := fun e => by
  obtain ⟨_, _, _, ho, _⟩ := h
  have := (ho.lt e).2
  omega
theorem lit_litl {fold : Bool} (r : Rx) : LitL (gd (litR fold r)) := gd_lit (litR_good r)
theorem partsR_nil (c : Option LS) : partsR c [] = flushS c := by rw [partsR]
set_option maxRecDepth 100000 in
set_option maxHeartbeats 12800000 in
theorem ofparts64 {W : World} {ok : Nat → Prop} {B : Option Addr} {m d : Nat} {l : List Rx} (h : SubsS W ok B m d l) (hml : m ≤ 1000000) (hn : ∀ x ∈ l, nodeR x = 0) (hz : ∀ x ∈ l, sizeR x ≤ 1000000)
    (HR : ∀ x ∈ l, ∀ (W : World) (ok : Nat → Prop) (v : Value), RxV W ok v x → Calls Tryz.prog 37 #[v] W (GotN W (rawR x))) :
    Calls Tryz.prog 76 #[.slice B m d] W fun e w' => ∃ v, e = .returned v ∧ OwnN w' (W.heap.size + 2) (fun g => W.heap.size + 2 ≤ g) v (partsR none l) ∧ Below W.heap.size W w' := by
  obtain ⟨i0, hi0, hz0, hz1, hz2⟩ := info_parts infoN
  have hmd := h.1
  have hdd := h.2.1
  have Hlen := hide h.2.2.1
  have HS := hide h
  have HRw := hide HR
  have Hnode := hide hn
  have Hsz := hide hz
  have hcf := run82
  obtain ⟨w0, hw0⟩ : ∃ w0, (W.alloc (.cells #[.slice none 0 0] 30)).alloc (.cells #[.slice none 0 0] 36) = w0 := ⟨_, rfl⟩
  obtain ⟨st0, bl0⟩ := pst_start W 30 36 hw0
  have Hw0 := hide hw0
  clear h HR hn hz hw0
  go_enter Tryz.func76, Tryz.ntmps76
  go_wp2_with fail
  rw [Hw0.out]
  obtain ⟨h0, hh0⟩ : ∃ h0, W.heap.size = h0 := ⟨_, rfl⟩
  rw [hh0] at st0 bl0 ⊢
  have S0 := hide st0
  have B0 := hide bl0
  have Hh0 := hide hh0
  clear st0 bl0 Hw0 hh0
  go_loopw [13] (fun y wr => ∃ (i : Nat) (needs : List Nd) (part : LS) (vo : Value) (A : Option Addr) (n c : Nat), i ≤ m ∧ y = .int .i64 (i : Int) ∧ PSt h0 wr needs part vo A n c ∧ LitL part ∧ needs ++ partsR (curS part) (l.drop i) = partsR none l ∧ needs.length ≤ 2 * i ∧ Below h0 W wr) (fun y _ => m - (intOf y).toNat)
  case atStart => exact ⟨0, [], [], _, _, _, _, Nat.zero_le _, rfl, S0.out, ⟨srt_nil, by simp, fun x hx => by cases hx⟩, by rw [curS_nil]; rfl, by simp, B0.out⟩
  case round =>
    obtain ⟨i, needs, part, vo, A, n, c, hi, rfl, hst, hlit, hpr, hnl, hbel⟩ := hrel
    obtain ⟨w2, hw2⟩ : ∃ w2, w2 = wr := ⟨wr, rfl⟩
    subst hw2
    have hnl4 : needs.length ≤ 4000000 := by omega
    have S2 := hide hst
    have Lit := hide hlit
    have HP := hide hpr
    have HNL := hide hnl
    have B2 := hide hbel
    have hs2 := hst.1
    by_cases hlt : i < m
    · have hlt' : (i : Int) < (m : Int) := by omega
      obtain ⟨x, g, o, q0, qA, qn, qc, q1, q2, qB, qm, qd, hxl, rfl, z0, z1, z2, z3, z4, rx⟩ := HS.out.at_ hlt
      have hgl : g < h0 := by rw [← Hh0.out]; exact World.block_lt_of_cell? _ _ z0
      have key : ∀ (j : Nat) (u : Value), W.cell? ⟨g, j, none⟩ = some u → w2.cell? ⟨g, j, none⟩ = some u := fun j u hu => (hbel.cell (p := ⟨g, j, none⟩) hgl).trans hu
      have x0 := key _ _ z0
      have x1 := key _ _ z1
      have x2 := key _ _ z2
      have x3 := key _ _ z3
      have x4 := key _ _ z4
      have hmem : x ∈ l := List.mem_of_getElem? hxl
      have RX := hide (fun (X : World) (hX : Below h0 W X) => rx.kept (show Below W.heap.size W X by rw [Hh0.out]; exact hX))
      have HRx := hide (fun (X : World) (hX : Below h0 W X) => HRw.out x hmem X _ _ (RX.out X hX))
      have hb3 := bel_alloc w2 (.cells #[.int .i64 q0, .slice qA qn qc, .int .i64 q1, .int .i64 q2, .slice qB qm qd] 25)
      have hf3 := five_new w2 (.int .i64 q0) (.slice qA qn qc) (.int .i64 q1) (.int .i64 q2) (.slice qB qm qd) 25
      have hs3 : (w2.alloc (.cells #[.int .i64 q0, .slice qA qn qc, .int .i64 q1, .int .i64 q2, .slice qB qm qd] 25)).heap.size = w2.heap.size + 1 := by simp
      obtain ⟨w3, hw3⟩ : ∃ w3, w2.alloc (.cells #[.int .i64 q0, .slice qA qn qc, .int .i64 q1, .int .i64 q2, .slice qB qm qd] 25) = w3 := ⟨_, rfl⟩
      rw [hw3] at hb3 hf3 hs3
      have B3 := hide (hbel.trans (hb3.mono (show h0 ≤ w2.heap.size by omega)))
      have S3 := hide (hst.below hb3)
      have F3 := hide hf3
      have HF := hide (folded62 (Hnode.out x hmem) (Hsz.out x hmem) (RX.out w3 B3.out))
      have Hn0 := hide (Hnode.out x hmem)
      have Hdrop := hide (show l.drop i = x :: l.drop (i + 1) by
        obtain ⟨hil, e⟩ := List.getElem?_eq_some_iff.1 hxl
        rw [List.drop_eq_getElem_cons hil, e])
      have Hs3 := hide hs3
      have hvn := hst.new (Nat.le_refl w2.heap.size)
      obtain ⟨lst, hlst⟩ : ∃ lst, gd (litR true x) = lst := ⟨_, rfl⟩
      have Llst := hide (show LitL lst by rw [← hlst]; exact lit_litl x)
      have Hlst := hide hlst
      rw [hlst] at HF
      obtain ⟨-, y0, y1, y2, y3, y4⟩ := hf3
      have hmn : i + 1 ≤ m := hlt
      clear hst hlit hpr hnl hbel hxl hmem key rx z0 z1 z2 z3 z4 hb3 hs3 hlst
      go_wp2_with fail
      with_reducible refine HF.out.mono ?_
      rintro e w4 ⟨A4, n4, c4, rfl, hn4, hs4, hf4, hb4⟩
      have S4 := hide (S3.out.below hb4)
      have F4 := hide (F3.out.keep hb4)
      have B4 := hide (B3.out.trans (hb4.mono (by rw [Hs3.out]; omega)))
      have L4 := hide (LsB.fresh (w' := w4) (vo := vo) (h0 := h0) hs4 S3.out.1 S3.out.2.2.2.1 hf4)
      have hz4 := hb4.size
      rw [Hs3.out] at hz4
      have hc4 := hs4.1
      have hd4 := hs4.2.1
      have q3 := S4.out.2.2.1.1
      have HPr := hide (product72 S4.out.2.2.2.2.1 hs4 Lit.out.2.1 Llst.out.2.1 Lit.out.2.2 Llst.out.2.2)
      have Hn4 := hide hn4
      obtain ⟨lg, hlg⟩ : ∃ lg, gd (prodS part lst) = lg := ⟨_, rfl⟩
      have Llg := hide (show LitL lg by rw [← hlg]; exact prodP_lit _ _)
      have Hlg := hide hlg
      rw [hlg] at HPr
      clear hs4 hf4 hb4 hn4 S3 F3 B3 hlg
      go_wp2_with fail
      with_reducible refine HPr.out.mono ?_
      rintro e w5 ⟨A5, n5, c5, rfl, hn5, hs5, hf5, hb5⟩
      have S5 := hide (S4.out.below hb5)
      have F5 := hide (F4.out.keep hb5)
      have B5 := hide (B4.out.trans (hb5.mono (by omega)))
      have L5 := hide (L4.out.below hb5)
      have G5 := hide (LsB.fresh (w' := w5) (vo := vo) (h0 := h0) hs5 S4.out.1 S4.out.2.2.2.1 hf5)
      have hz5 := hb5.size
      have hc5 := hs5.1
      have hd5 := hs5.2.1
      have Hn5 := hide hn5
      clear hs5 hf5 hb5 hn5 S4 F4 B4 q3
      by_cases hP : lg = []
      · have e5 : ((n5 : Int) == 0) = true := ibeq' (by rw [Hn5.out, hP]; rfl)
        have HE := hide (end82 S5.out Lit.out hnl4)
        go_wp2_with fail
        with_reducible refine HE.out.mono ?_
        rintro e w6 ⟨rfl, vo6, st6, nr6, bl6⟩
        obtain ⟨nn, hnn⟩ : ∃ nn, needs ++ flushS (curS part) = nn := ⟨_, rfl⟩
        rw [hnn] at st6
        have Hnn := hide hnn
        have hnnl : nn.length ≤ 2 * i + 1 := by
          have h1 := flush_len (curS part)
          have h2 := HNL.out
          rw [← hnn, List.length_append]
          omega
        obtain ⟨hst7, hheap⟩ := st6.newPart (L5.out.nrel nr6)
        have F6 := hide (F5.out.nrel nr6 (by omega) hvn)
        have B6 := hide (B5.out.trans bl6)
        have q7 := st6.2.2.1.1
        have q7' := st6.2.2.1.2
        have hz6 := nr6.1
        obtain ⟨w7, hw7⟩ : ∃ w7, w6.setCell ⟨h0 + 1, 0, none⟩ (.slice A4 n4 c4) = w7 := ⟨_, rfl⟩
        have B7 := hide (B6.out.setCell (p := ⟨h0 + 1, 0, none⟩) (show h0 ≤ h0 + 1 by omega) (.slice A4 n4 c4))
        have hsz7 : (w6.setCell ⟨h0 + 1, 0, none⟩ (.slice A4 n4 c4)).heap.size = w6.heap.size := by simp [World.setCell]
        rw [hw7] at hst7 hheap B7 hsz7
        have F7 := hide (F6.out.block hsz7 (hheap _ (by omega)))
        have S7 := hide hst7
        have Hw7 := hide hw7
        have HE2 := hide (parts_step_none (part := part) (l := l.drop (i + 1)) Hn0.out)
        have HE3 := hide (parts_step_cut (part := part) (x := x) (l := l.drop (i + 1)))
        rw [Hlst.out] at HE2 HE3
        rw [Hlg.out] at HE3
        clear st6 nr6 bl6 hst7 hheap HE F5 B5 hnn hw7
        by_cases hL : lst = []
        · have e4 : ((n4 : Int) == 0) = true := ibeq' (by rw [Hn4.out, hL]; rfl)
          have HPN := hide (show (nn ++ [rawR x]) ++ partsR (curS lst) (l.drop (i + 1)) = partsR none l by
            rw [← HP.out, Hdrop.out, HE2.out hL, ← Hnn.out, hL]
            simp)
          clear HE2 HE3 hL hP
          go_upto_region 14 with (fail)
          rw [Hw7.out]
          obtain ⟨UA, un, ud, uvs, rfl, hun, -, -⟩ := S7.out.2.2.2.1.s
          subst hun
          have A7 := hide S7.out.2.2.2.1
          have hlt1 : (nn.length : Int) < (nn.length : Int) + 1 := by omega
          have a0 := S7.out.1
          obtain ⟨a1, a2⟩ := S7.out.2.1
          have Hz := hide (bel_drew w7)
          have Hza := hide (bgo (bel_alloc w7 (.cells #[.int .i64 0, .int .i64 0, .slice none 0 0] 32)) (bel_drew _))
          have HCx := hide (fun (X : World) (hX : Below w7.heap.size w7 X) => (HRx.out X (B7.out.trans (hX.mono (by omega)))).mono (R' := fun e w' => ∃ v, e = .returned v ∧ NdV w' (fun g => w7.heap.size ≤ g) v (rawR x) ∧ Below X.heap.size X w' ∧ Below w7.heap.size w7 w') fun e w' hg => by
            obtain ⟨v, rfl, h1, h2⟩ := hg
            exact ⟨v, rfl, h1.weak fun g hg => Nat.le_trans hX.size hg, h2, bgo hX h2⟩)
          have z1 := ((bel_alloc w7 (.cells #[.int .i64 0, .int .i64 0, .slice none 0 0] 32)).cell (p := ⟨h0, 0, none⟩) (show h0 < w7.heap.size by omega)).trans a1
          have Fz := F7.out.keep (bel_alloc w7 (.cells #[.int .i64 0, .int .i64 0, .slice none 0 0] 32))
          have F7' := F7.out
          obtain ⟨-, t0, t1, t2, t3, t4⟩ := F7'
          obtain ⟨-, s0, s1, s2, s3, s4⟩ := Fz
          have Hal := hide (show Tri3 (w7.alloc (.cells #[.int .i64 0, .int .i64 0, .slice none 0 0] 32)).drew w6.heap.size (.int .i64 0) (.int .i64 0) (.slice none 0 0) by rw [← hsz7]; exact (tri3_new w7 (.int .i64 0) (.int .i64 0) (.slice none 0 0) 32).keep (bel_drew _))
          clear y0 y1 y2 y3 y4 x0 x1 x2 x3 x4 q7 q7'
          go_region_law (first
            | (refine step_push_ndF (by rfl) (.tmp 32) (.tmp 36) 30 (by rfl) i0 _ 40 Tryz.underlying30 hi0 hz0 hz1 hz2 rfl (h0 + 2) (fun g => h0 + 2 ≤ g) (.slice UA nn.length ud) nn (by rfl) w8 _ _ _ (.mk 0 0 []) O8.out hB8 _ rfl (by rfl) (ndv_leaf 0 0 (by omega) (by omega)) (by omega) (by unfold maxLen; omega) ?_; intro gg cap w9 hown9 hb9 hf9; have X9 := hide hown9; have B9 := hide hb9; have FF9 := hide hf9; have hgg9 := (hown9.lt (g := gg) rfl).1; obtain ⟨⟨d0, f0⟩, ⟨d1, f1⟩, ⟨d2, f2⟩, ef⟩ := own_cells hown9 rfl; have ef0 := ef (nn.length * 3); have ef1 := ef (nn.length * 3 + 1); have ef2 := ef (nn.length * 3 + 2); have e8 := (hb9.cell (p := ⟨h0, 0, none⟩) (show h0 < h0 + 2 by omega)).trans C8.out.1; have e8' := (hb9.frozen (p := ⟨h0, 0, none⟩) (show h0 < h0 + 2 by omega)).trans C8.out.2; clear ef hown9 hb9 hf9)
            | (refine step_push_ndG (by rfl) (.tmp 32) (.tmp 36) 30 (by rfl) i0 _ 40 Tryz.underlying30 hi0 hz0 hz1 hz2 rfl (h0 + 2) (fun g => h0 + 2 ≤ g) (.slice UA nn.length ud) nn (by rfl) w8 _ _ _ (.mk 0 0 []) O8.out hB8 ⟨w6.heap.size, 0, none⟩ (by rfl) T8.out.news (ndv_leaf 0 0 (by omega) (by omega)) (by omega) (by unfold maxLen; omega) ?_; intro gg cap w9 hown9 hb9 hf9; have X9 := hide hown9; have B9 := hide hb9; have FF9 := hide hf9; have hgg9 := (hown9.lt (g := gg) rfl).1; obtain ⟨⟨d0, f0⟩, ⟨d1, f1⟩, ⟨d2, f2⟩, ef⟩ := own_cells hown9 rfl; have ef0 := ef (nn.length * 3); have ef1 := ef (nn.length * 3 + 1); have ef2 := ef (nn.length * 3 + 2); have e8 := (hb9.cell (p := ⟨h0, 0, none⟩) (show h0 < h0 + 2 by omega)).trans C8.out.1; have e8' := (hb9.frozen (p := ⟨h0, 0, none⟩) (show h0 < h0 + 2 by omega)).trans C8.out.2; clear ef hown9 hb9 hf9)
            | (go_simp; go_at_call 37; (with_reducible refine (HCx.out _ (by first | exact Hz.out | exact Hza.out)).mono ?_); rintro e w8 ⟨v8, rfl, hv8, hbx8, hb8⟩; obtain ⟨fk, fg, fB, fm, fd, rfl, -, -, -, -, -, -, -⟩ := ndv_shape hv8; have B8 := hide hb8; have N8 := hide hv8; have O8 := hide (A7.out.below hb8); have hB8 : h0 + 2 ≤ w8.heap.size := Nat.le_trans a0 hb8.size; have C8 := hide (show w8.cell? ⟨h0, 0, none⟩ = some (.slice UA nn.length ud) ∧ w8.frozen? ⟨h0, 0, none⟩ = false from ⟨(hb8.cell (p := ⟨h0, 0, none⟩) (show h0 < w7.heap.size by omega)).trans a1, (hb8.frozen (p := ⟨h0, 0, none⟩) (show h0 < w7.heap.size by omega)).trans a2⟩); have r1 := C8.out.1; have r1z := ((bel_alloc w8 (.cells #[.int .i64 0, .int .i64 0, .slice none 0 0] 32)).cell (p := ⟨h0, 0, none⟩) (show h0 < w8.heap.size by omega)).trans r1; (try have T8 := hide (Hal.out.keep hbx8)); clear hv8 hbx8 hb8))
          all_goals
            have FF := hide (show Far w8 w9 (.slice UA nn.length ud) (.slice (some ⟨gg, 0, none⟩) (nn.length + 1) cap) from FF9.out)
            have R9 := hide (show NdV w9 (fun g => h0 + 2 ≤ g ∧ g ≠ gg) (.agg #[.int .i64 fk, .int .i64 fg, .slice fB fm fd]) (rawR x) from N8.out.map (fun q hq hl => World.cell?_of_block (FF.out.2 q.block hl (fun e => by have := (A7.out.lt e).2; omega)).1) fun g hg hl => ⟨by omega, fun e => (FF.out.2 g hl (fun e => by have := (A7.out.lt e).2; omega)).2 (by rw [e]; rfl)⟩)
            have P := hide (pst_push S7.out B8.out X9.out B9.out FF.out R9.out)
            have BP := hide (show Below h0 W (putAt w9 gg (nn.length * 3) (.int .i64 fk) (.int .i64 fg) (.slice fB fm fd)) from putAt_below (B7.out.trans ((B8.out.mono (by omega)).trans (B9.out.mono (by omega)))) (by omega))
            have BF := hide (BP.out.setCell (p := ⟨h0, 0, none⟩) (show h0 ≤ h0 by omega) (.slice (some ⟨gg, 0, none⟩) (nn.length + 1) cap))
            have EC := putAt_comm w9 gg (nn.length * 3) h0 (.int .i64 fk) (.int .i64 fg) (.slice fB fm fd) (.slice (some ⟨gg, 0, none⟩) (nn.length + 1) cap) (by omega)
            have PX := hide P.out
            have BX := hide BF.out
            rw [← EC] at PX BX
            clear EC
            go_wp2
            go_roundw
            case rel => first
              | exact ⟨i + 1, nn ++ [rawR x], lst, _, _, _, _, hmn, by go_num, P.out.1, Llst.out, HPN.out, by rw [List.length_append]; simp; omega, BF.out⟩
              | exact ⟨i + 1, nn ++ [rawR x], lst, _, _, _, _, hmn, by go_num, PX.out.1, Llst.out, HPN.out, by rw [List.length_append]; simp; omega, BX.out⟩
            case measure => simp [intOf]; omega
        · have e4 : ((n4 : Int) == 0) = false := ibne' (by have := List.length_pos_iff.2 hL; have := Hn4.out; omega)
          have HPN := hide (show nn ++ partsR (curS lst) (l.drop (i + 1)) = partsR none l by
            rw [← HP.out, Hdrop.out, HE3.out hL hP, ← Hnn.out]
            simp)
          clear HE2 HE3 hL hP
          go_wp2
          go_roundw
          case rel => exact ⟨i + 1, nn, lst, _, _, _, _, hmn, by go_num, by rw [Hw7.out]; exact S7.out, Llst.out, HPN.out, by omega, by rw [Hw7.out]; exact B7.out⟩
          case measure => simp [intOf]; omega
      · have e5 : ((n5 : Int) == 0) = false := ibne' (by have := List.length_pos_iff.2 hP; have := Hn5.out; omega)
        have hL : lst ≠ [] := fun e => hP (by rw [← Hlg.out, e]; exact prodS_nil' part)
        have e4 : ((n4 : Int) == 0) = false := ibne' (by have := List.length_pos_iff.2 hL; have := Hn4.out; omega)
        obtain ⟨hst7, -⟩ := S5.out.newPart G5.out
        have S7 := hide hst7
        have B7 := hide (B5.out.setCell (p := ⟨h0 + 1, 0, none⟩) (show h0 ≤ h0 + 1 by omega) (.slice A5 n5 c5))
        have q7 := S5.out.2.2.1.1
        have q7' := S5.out.2.2.1.2
        have HE2 := hide (parts_step_more (part := part) (x := x) (l := l.drop (i + 1)))
        rw [Hlst.out, Hlg.out] at HE2
        have HPN := hide (show needs ++ partsR (curS lg) (l.drop (i + 1)) = partsR none l by
          rw [← HP.out, Hdrop.out, HE2.out hP])
        clear HE2 hL hP hst7
        go_wp2
        go_roundw
        case rel => exact ⟨i + 1, needs, lg, _, _, _, _, hmn, by go_num, S7.out, Llg.out, HPN.out, by have := HNL.out; omega, B7.out⟩
        case measure => simp [intOf]; omega
    · have hlt' : ¬ (i : Int) < (m : Int) := by omega
      have HE := hide (end82 S2.out Lit.out hnl4)
      have HPN := hide (show needs ++ flushS (curS part) = partsR none l by
        have hl := Hlen.out
        rw [← HP.out, List.drop_of_length_le (by omega), partsR_nil])
      clear hst hlit hpr hnl hbel
      go_wp2_with fail
      with_reducible refine HE.out.mono ?_
      rintro e w6 ⟨rfl, vo6, st6, nr6, bl6⟩
      rw [HPN.out] at st6
      have q7 := st6.2.1.1
      have S6 := hide st6
      have B6 := hide (B2.out.trans bl6)
      clear st6 nr6 bl6
      go_wp2
      go_ret
      exact ⟨vo6, rfl, by rw [Hh0.out]; exact S6.out.2.2.2.1, by rw [Hh0.out]; exact B6.out⟩
end Go.Proofs.YtlnbjdlooghpeaaGreatDoor
