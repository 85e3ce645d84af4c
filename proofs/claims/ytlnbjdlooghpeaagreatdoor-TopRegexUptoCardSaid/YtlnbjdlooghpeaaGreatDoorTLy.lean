/- TopRegex: Ly. -/
import Derived.Test.YtlnbjdlooghpeaaGreatDoorTLz
import Derived.Test.YtlnbjdlooghpeaaGreatDoorTPv
import Derived.Test.YtlnbjdlooghpeaaGreatDoorTLo
import Derived.Test.YtlnbjdlooghpeaaGreatDoorTPc
import Derived.Test.YtlnbjdlooghpeaaGreatDoorTPb
import Derived.Test.YtlnbjdlooghpeaaGreatDoorTPg
import Derived.Test.YtlnbjdlooghpeaaGreatDoorTPu
import Derived.Deep.RegionLaw
import Derived.Deep.AppendLies
import Derived.BigQuiet
import Derived.Deep.RegionHeld3
import Derived.Deep.RegionWith
import Derived.ProofKit
import Derived.OpenShut
import Derived.Deep.Slices
import Derived.Lib.SmallJoins
import Derived.Lib.LaidTab
namespace Go.Proofs.YtlnbjdlooghpeaaGreatDoor
open Go.RowKit
set_option maxRecDepth 100000 in
set_option maxHeartbeats 12800000 in
theorem raw40 : ∀ (r : Rx), nodeR r = 0 → sizeR r ≤ 1000000 → ∀ (W : World) (ok : Nat → Prop) (v : Value), RxV W ok v r → Calls Tryz.prog 37 #[v] W (GotN W (rawR r)) := by
  intro r
  induction r using Rx.ind with
  | h k s a b l ih =>
    intro hn hsz W ok v hv
    obtain ⟨k', a', b', A', B', n', c', m', d', rfl⟩ := rxv_shape hv
    have hv0 := hv
    cases hv with
    | mk _ _ _ A B n c m d _ vs _ hset hvs hlen hk ha hb hr =>
    obtain ⟨p3, p4, pn⟩ := node_parts hn
    have hszl : sizeL l + 1 = sizeR (.mk k s a b l) := by rw [sizeR_mk]; omega
    have hm6 : m' ≤ 1000000 := by have := sizeL_len l; omega
    have hmd := hvs.1
    have hdd := hvs.2.1
    have hb1 := bnew (bel_alloc W (.cells #[.int .i64 k, .slice A' n' c', .int .i64 a, .int .i64 b, .slice B' m' d'] 25)) (.cells #[.int .i64 0, .int .i64 0, .slice none 0 0] 32)
    have f1 := (five_new W (.int .i64 k) (.slice A' n' c') (.int .i64 a) (.int .i64 b) (.slice B' m' d') 25).keep (bel_alloc _ (.cells #[.int .i64 0, .int .i64 0, .slice none 0 0] 32))
    have f2 := triF_new (W.alloc (.cells #[.int .i64 k, .slice A' n' c', .int .i64 a, .int .i64 b, .slice B' m' d'] 25)) (.int .i64 0) (.int .i64 0) (.slice none 0 0) 32
    rw [show (W.alloc (.cells #[.int .i64 k, .slice A' n' c', .int .i64 a, .int .i64 b, .slice B' m' d'] 25)).heap.size = W.heap.size + 1 by simp] at f2
    have hs1 : ((W.alloc (.cells #[.int .i64 k, .slice A' n' c', .int .i64 a, .int .i64 b, .slice B' m' d'] 25)).alloc (.cells #[.int .i64 0, .int .i64 0, .slice none 0 0] 32)).heap.size = W.heap.size + 2 := by simp
    obtain ⟨w1, hw1⟩ : ∃ w1, (W.alloc (.cells #[.int .i64 k, .slice A' n' c', .int .i64 a, .int .i64 b, .slice B' m' d'] 25)).alloc (.cells #[.int .i64 0, .int .i64 0, .slice none 0 0] 32) = w1 := ⟨_, rfl⟩
    rw [hw1] at hb1 f1 f2 hs1
    have B1 := hide hb1
    have F1 := hide f1
    have F2 := hide f2
    have Hs1 := hide hs1
    have T1 := hide ((SubsS.of hvs hlen hr).below hb1)
    have HN := hide pn
    have Hz := hide (show ∀ x ∈ l, sizeR x ≤ 1000000 from fun x hx => by have := sizeL_mem hx; omega)
    have IH := hide (show ∀ x ∈ l, ∀ (W : World) (ok : Nat → Prop) (v : Value), RxV W ok v x → Calls Tryz.prog 37 #[v] W (GotN W (rawR x)) from fun x hx W' ok' v' h' => ih x hx (pn x hx) (by have := sizeL_mem hx; omega) W' ok' v' h')
    have HF := hide (folded62 hn hsz (hv0.kept hb1))
    have Hlen := hide hlen
    have P4 := hide p4
    obtain ⟨lst, hlst⟩ : ∃ lst, gd (litR true (.mk k s a b l)) = lst := ⟨_, rfl⟩
    have Llst := hide (show LitL lst by rw [← hlst]; exact lit_litl _)
    rw [hlst] at HF
    obtain ⟨-, t0, t1, t2, t3, t4⟩ := f1
    by_cases hL : lst = []
    · have HE := hide (raw_none ((lit_gd hn).1 (hlst.trans hL)))
      have HL := hide hL
      clear hv0 hvs hr hset hlen hb1 f2 hs1 pn p3 p4 ih hlst hL hn
      go_enter Tryz.func37, Tryz.ntmps37
      go_wp2_with fail
      with_reducible refine HF.out.mono ?_
      rintro e w2 ⟨A2, n2, c2, rfl, hn2, hs2, -, hb2⟩
      have hn0 : n2 = 0 := by rw [hn2, HL.out]; rfl
      have hc2 := hs2.1
      have hd2 := hs2.2.1
      have hng : ¬ (0 : Int) < (n2 : Int) := by omega
      have T2 := hide (T1.out.below hb2)
      have G2 := hide (F2.out.keep hb2)
      have B2 := hide (bgo B1.out hb2)
      have hz2 := hb2.size
      rw [Hs1.out] at hz2
      obtain ⟨-, u0, u1, u2, u3, u4⟩ := F1.out.keep hb2
      clear t0 t1 t2 t3 t4 hn2 hs2 hb2 HF
      by_cases h2 : k = 2
      · have q2 : (k == 2) = true := ibeq' h2
        have HR := hide (show rawR (.mk k s a b l) = .mk 4 0 (partsR none l) by rw [HE.out, if_pos h2])
        have HC := hide (ofparts64 T2.out hm6 HN.out Hz.out IH.out)
        clear h2 HE
        go_wp2_with fail
        with_reducible refine HC.out.mono ?_
        rintro e w3 ⟨v3, rfl, ho3, hb3⟩
        obtain ⟨UA, un, ud, uvs, rfl, -, -, -⟩ := ho3.s
        have ND := hide (show NdV w3 (fun g => W.heap.size + 2 ≤ g) (.agg #[.int .i64 4, .int .i64 0, .slice UA un ud]) (.mk 4 0 (partsR none l)) from (ho3.nd 4 (by omega)).weak fun g hg => by
          rcases hg with hg | hg <;> omega)
        have G3 := hide (G2.out.keep hb3)
        have B3 := hide (bgo B2.out hb3)
        clear ho3 hb3 HC
        obtain ⟨⟨-, r0, r1, r2⟩, s0, s1, s2⟩ := G3.out
        go_wp2
        exact bodyPost_ret (res_box rfl _ _ (W.heap.size + 1) _ _ _ rfl (put3_tri G3.out _ _ _)) rfl ⟨_, rfl, by rw [HR.out]; exact put3_ndv ND.out (by omega) (fun g hg => by omega), put3_below B3.out (by omega)⟩
      have q2 : (k == 2) = false := ibne' h2
      by_cases h3 : k = 3
      · have q3 : (k == 3) = true := ibeq' h3
        have HR := hide (show rawR (.mk k s a b l) = .mk 5 0 (l.map rawR) by rw [HE.out, if_neg h2, if_pos h3, rawL_map])
        have HC := hide (ofeach65 T2.out hm6 IH.out)
        clear h2 h3 HE
        go_wp2_with fail
        with_reducible refine HC.out.mono ?_
        rintro e w3 ⟨v3, rfl, ho3, hb3⟩
        obtain ⟨UA, un, ud, uvs, rfl, -, -, -⟩ := ho3.s
        have ND := hide (show NdV w3 (fun g => W.heap.size + 2 ≤ g) (.agg #[.int .i64 5, .int .i64 0, .slice UA un ud]) (.mk 5 0 (l.map rawR)) from (ho3.nd 5 (by omega)).weak fun g hg => by
          rcases hg with hg | hg <;> omega)
        have G3 := hide (G2.out.keep hb3)
        have B3 := hide (bgo B2.out hb3)
        clear ho3 hb3 HC
        obtain ⟨⟨-, r0, r1, r2⟩, s0, s1, s2⟩ := G3.out
        go_wp2
        exact bodyPost_ret (res_box rfl _ _ (W.heap.size + 1) _ _ _ rfl (put3_tri G3.out _ _ _)) rfl ⟨_, rfl, by rw [HR.out]; exact put3_ndv ND.out (by omega) (fun g hg => by omega), put3_below B3.out (by omega)⟩
      have q3 : (k == 3) = false := ibne' h3
      have ND1 := hide (ndv_leaf (W := w2) (ok := fun g => W.heap.size + 2 ≤ g) 1 0 (by omega) (by omega))
      by_cases h4 : k = 4
      · have q4 : (k == 4) = true := ibeq' h4
        by_cases h1 : 1 ≤ a
        · have hm1 : 0 < m' := by have := (P4.out h4).1; have := Hlen.out; omega
          obtain ⟨x, g, o, y0, yA, yn, yc, y1, y2, yB, ym, yd, hxl, rfl, x0, x1, x2, x3, x4, rx⟩ := T2.out.at_ hm1
          have hx1 : rawOne l = rawR x := by
            cases l with
            | nil => cases hxl
            | cons z l => cases hxl; rw [rawOne]
          have HR := hide (show rawR (.mk k s a b l) = rawR x by rw [HE.out, if_neg h2, if_neg h3, if_pos ⟨h4, h1⟩, hx1])
          have HC := hide (IH.out x (List.mem_of_getElem? hxl) _ _ _ rx)
          simp only [Nat.zero_mul, Nat.add_zero] at x0 x1 x2 x3 x4
          have hmi : (0 : Int) < (m' : Int) := by omega
          clear h2 h3 h4 HE hx1 hxl rx
          go_wp2_with fail
          with_reducible refine HC.out.mono ?_
          rintro e w3 ⟨v3, rfl, hv3, hb3⟩
          obtain ⟨fk, fg, fB, fm, fd, rfl, -, -, -, -, -, -, -⟩ := ndv_shape hv3
          have ND := hide (show NdV w3 (fun g => W.heap.size + 2 ≤ g) (.agg #[.int .i64 fk, .int .i64 fg, .slice fB fm fd]) (rawR x) from hv3.weak fun g hg => by omega)
          have G3 := hide (G2.out.keep hb3)
          have B3 := hide (bgo B2.out hb3)
          clear hv3 hb3 HC
          obtain ⟨⟨-, r0, r1, r2⟩, s0, s1, s2⟩ := G3.out
          go_wp2
          exact bodyPost_ret (res_box rfl _ _ (W.heap.size + 1) _ _ _ rfl (put3_tri G3.out _ _ _)) rfl ⟨_, rfl, by rw [HR.out]; exact put3_ndv ND.out (by omega) (fun g hg => by omega), put3_below B3.out (by omega)⟩
        · have HR := hide (show rawR (.mk k s a b l) = .mk 1 0 [] by rw [HE.out, if_neg h2, if_neg h3, if_neg (fun h => h1 h.2)])
          clear h2 h3 h4 HE
          obtain ⟨⟨-, r0, r1, r2⟩, s0, s1, s2⟩ := G2.out
          go_wp2
          exact bodyPost_ret (res_box rfl _ _ (W.heap.size + 1) _ _ _ rfl (put3_tri G2.out _ _ _)) rfl ⟨_, rfl, by rw [HR.out]; exact put3_ndv ND1.out (by omega) (fun g hg => by omega), put3_below B2.out (by omega)⟩
      · have q4 : (k == 4) = false := ibne' h4
        have HR := hide (show rawR (.mk k s a b l) = .mk 1 0 [] by rw [HE.out, if_neg h2, if_neg h3, if_neg (fun h => h4 h.1)])
        clear h2 h3 h4 HE
        obtain ⟨⟨-, r0, r1, r2⟩, s0, s1, s2⟩ := G2.out
        go_wp2
        exact bodyPost_ret (res_box rfl _ _ (W.heap.size + 1) _ _ _ rfl (put3_tri G2.out _ _ _)) rfl ⟨_, rfl, by rw [HR.out]; exact put3_ndv ND1.out (by omega) (fun g hg => by omega), put3_below B2.out (by omega)⟩
    · have HR := hide (show rawR (.mk k s a b l) = ofStr lst by
        cases hlit : litR true (.mk k s a b l) with
        | none => rw [hlit] at hlst; exact absurd hlst.symm hL
        | some p => rw [hlit] at hlst; rw [raw_lit hlit, ← hlst]; rfl)
      have HL := hide hL
      clear hv0 hvs hr hset hlen hb1 f2 hs1 pn p3 p4 ih hlst hL hn
      go_enter Tryz.func37, Tryz.ntmps37
      go_wp2_with fail
      with_reducible refine HF.out.mono ?_
      rintro e w2 ⟨A2, n2, c2, rfl, hn2, hs2, -, hb2⟩
      have hng : (0 : Int) < (n2 : Int) := by have := List.length_pos_iff.2 HL.out; omega
      have hc2 := hs2.1
      have hd2 := hs2.2.1
      have HC := hide (ofstrings63 hs2 (by have := Llst.out.2.1; omega) (fun x hx => Nat.le_trans (Llst.out.2.2 x hx) (by omega)))
      have G2 := hide (F2.out.keep hb2)
      have B2 := hide (bgo B1.out hb2)
      have hz2 := hb2.size
      rw [Hs1.out] at hz2
      clear t0 t1 t2 t3 t4 hn2 hs2 hb2 HF
      go_wp2_with fail
      with_reducible refine HC.out.mono ?_
      rintro e w3 ⟨v3, rfl, hv3, hb3⟩
      obtain ⟨fk, fg, fB, fm, fd, rfl, -, -, -, -, -, -, -⟩ := ndv_shape hv3
      have ND := hide (show NdV w3 (fun g => W.heap.size + 2 ≤ g) (.agg #[.int .i64 fk, .int .i64 fg, .slice fB fm fd]) (ofStr lst) from hv3.weak fun g hg => by omega)
      have G3 := hide (G2.out.keep hb3)
      have B3 := hide (bgo B2.out hb3)
      clear hv3 hb3 HC
      obtain ⟨⟨-, r0, r1, r2⟩, s0, s1, s2⟩ := G3.out
      go_wp2
      exact bodyPost_ret (res_box rfl _ _ (W.heap.size + 1) _ _ _ rfl (put3_tri G3.out _ _ _)) rfl ⟨_, rfl, by rw [HR.out]; exact put3_ndv ND.out (by omega) (fun g hg => by omega), put3_below B3.out (by omega)⟩
set_option maxRecDepth 100000 in
set_option maxHeartbeats 6400000 in
theorem pof22 {W : World} {ok : Nat → Prop} {v : Value} {r : Rx} (hv : RxV W ok v r) (h1 : sizeR r ≤ 1000000) (h2 : depthR r ≤ 1000000) : Calls Tryz.prog 10 #[v] W (GotA W (needS r)) := by
  obtain ⟨k, a, b, A', B, n, c, m, d, rfl⟩ := rxv_shape hv
  have hb1 := bnew (bel_alloc W (.cells #[.int .i64 k, .slice A' n c, .int .i64 a, .int .i64 b, .slice B m d] 25)) (.cells #[.int .i64 0, .int .i64 0, .slice none 0 0] 32)
  have f1 := (five_new W (.int .i64 k) (.slice A' n c) (.int .i64 a) (.int .i64 b) (.slice B m d) 25).keep (bel_alloc _ (.cells #[.int .i64 0, .int .i64 0, .slice none 0 0] 32))
  have f2 := triF_new (W.alloc (.cells #[.int .i64 k, .slice A' n c, .int .i64 a, .int .i64 b, .slice B m d] 25)) (.int .i64 0) (.int .i64 0) (.slice none 0 0) 32
  rw [show (W.alloc (.cells #[.int .i64 k, .slice A' n c, .int .i64 a, .int .i64 b, .slice B m d] 25)).heap.size = W.heap.size + 1 by simp] at f2
  have hs1 : ((W.alloc (.cells #[.int .i64 k, .slice A' n c, .int .i64 a, .int .i64 b, .slice B m d] 25)).alloc (.cells #[.int .i64 0, .int .i64 0, .slice none 0 0] 32)).heap.size = W.heap.size + 2 := by simp
  obtain ⟨w1, hw1⟩ : ∃ w1, (W.alloc (.cells #[.int .i64 k, .slice A' n c, .int .i64 a, .int .i64 b, .slice B m d] 25)).alloc (.cells #[.int .i64 0, .int .i64 0, .slice none 0 0] 32) = w1 := ⟨_, rfl⟩
  rw [hw1] at hb1 f1 f2 hs1
  have V1 := hide (hv.kept hb1)
  have B1 := hide hb1
  have F1 := hide f1
  have F2 := hide f2
  have Hs1 := hide hs1
  have HR := hide (pright27 V1.out h1 h2)
  obtain ⟨-, t0, t1, t2, t3, t4⟩ := f1
  clear hv hb1 f2 hs1
  by_cases hr : rightR r = 0
  · rw [hr] at HR
    obtain ⟨hn, hz, -⟩ := right_node hr
    have HE := hide (show needS r = simpN (rawR r) by unfold needS; rw [if_pos hr])
    clear hr
    go_enter Tryz.func10, Tryz.ntmps10
    go_wp2_with fail
    with_reducible refine HR.out.mono ?_
    rintro e w2 ⟨rfl, hb2⟩
    have HC := hide (raw40 r hn h1 _ _ _ (V1.out.kept hb2))
    have G2 := hide (F2.out.keep hb2)
    have B2 := hide (bgo B1.out hb2)
    have hz2 := hb2.size
    rw [Hs1.out] at hz2
    obtain ⟨-, u0, u1, u2, u3, u4⟩ := F1.out.keep hb2
    clear hb2 HR t0 t1 t2 t3 t4
    go_wp2_with fail
    with_reducible refine HC.out.mono ?_
    rintro e w3 ⟨v3, rfl, hv3, hb3⟩
    have HS := hide (simplest37 (rawR r) (raw_wf r) (by have := raw_size r; omega) _ _ _ hv3)
    have G3 := hide (G2.out.keep hb3)
    have B3 := hide (bgo B2.out hb3)
    have hz3 := hb3.size
    clear hv3 hb3 HC
    go_wp2_with fail
    with_reducible refine HS.out.mono ?_
    rintro e w4 ⟨v4, rfl, hv4, hb4⟩
    obtain ⟨fk, fg, fB, fm, fd, rfl, -, -, -, -, -, -, -⟩ := ndv_shape hv4
    have ND := hide (show NdV w4 (fun g => W.heap.size + 2 ≤ g) (.agg #[.int .i64 fk, .int .i64 fg, .slice fB fm fd]) (simpN (rawR r)) from hv4.weak fun g hg => by omega)
    have G4 := hide (G3.out.keep hb4)
    have B4 := hide (bgo B3.out hb4)
    clear hv4 hb4 HS
    obtain ⟨⟨-, r0, r1, r2⟩, s0, s1, s2⟩ := G4.out
    go_wp2
    exact bodyPost_ret (res_box rfl _ _ (W.heap.size + 1) _ _ _ rfl (put3_tri G4.out _ _ _)) rfl ⟨_, rfl, by rw [HE.out]; exact put3_ndv ND.out (by omega) (fun g hg => trivial), put3_below B4.out (by omega)⟩
  · have q : (rightR r != 0) = true := by simp [hr]
    have HE := hide (show needS r = .mk 1 0 [] by unfold needS; rw [if_neg hr])
    clear hr
    go_enter Tryz.func10, Tryz.ntmps10
    go_wp2_with fail
    with_reducible refine HR.out.mono ?_
    rintro e w2 ⟨rfl, hb2⟩
    have G2 := hide (F2.out.keep hb2)
    have B2 := hide (bgo B1.out hb2)
    have hz2 := hb2.size
    rw [Hs1.out] at hz2
    have ND1 := hide (ndv_leaf (W := w2) (ok := fun g => W.heap.size + 2 ≤ g) 1 0 (by omega) (by omega))
    clear hb2 HR
    obtain ⟨⟨-, r0, r1, r2⟩, s0, s1, s2⟩ := G2.out
    go_wp2
    exact bodyPost_ret (res_box rfl _ _ (W.heap.size + 1) _ _ _ rfl (put3_tri G2.out _ _ _)) rfl ⟨_, rfl, by rw [HE.out]; exact put3_ndv ND1.out (by omega) (fun g hg => trivial), put3_below B2.out (by omega)⟩
end Go.Proofs.YtlnbjdlooghpeaaGreatDoor
namespace Go.Proofs.YtlnbjdlooghpeaaGreatDoor
open Go.RowKit
theorem cs : Cs where
  lit := fun h h1 h2 => pliterals10 h h1 h2
  of_ := fun h h1 h2 => pof22 h h1 h2
  right := fun h _ q hq => pright14 h q hq
  eval := fun h _ h2 h3 h4 q hq => peval16 h h2 h3 h4 q hq
  simp := fun h h1 => (psimp19 h h1).mono fun _ _ g => g.a
  same := fun h h' _ q hq => psame21 _ _ _ _ _ _ _ h h' q hq
  fold := fun h hr => foldC h hr
end Go.Proofs.YtlnbjdlooghpeaaGreatDoor
