/- TopRegex: Pg. -/
import Derived.Test.YtlnbjdlooghpeaaGreatDoorTPf
namespace Go.Proofs.YtlnbjdlooghpeaaGreatDoor
open Go.RowKit Go.Maps
open Go.Lib (byteCells byteCells_append)
theorem box_new (w : World) (u : Value) (T : TypeId) : (w.alloc (.cells #[u] T)).cell? ⟨w.heap.size, 0, none⟩ = some u ∧ (w.alloc (.cells #[u] T)).frozen? ⟨w.heap.size, 0, none⟩ = false := by
  refine ⟨?_, ?_⟩
  · rw [World.cell?_alloc_mark]; rfl
  · rw [World.frozen?_alloc_mark]; simp
theorem jst_start (W : World) (k g N D : Int) (A : Option Addr) (m d : Nat) (T3 T33 T4 T83 T35 : TypeId) {w0 : World}
    (hw : ((((((((W.alloc (.cells #[.int .i64 k, .int .i64 g, .slice A m d] T35)).alloc (.cells #[.int .i64 N] T3)).alloc (.cells #[.int .i64 D] T3)).alloc (.cells #[.int .i64 0, .int .i64 0, .slice none 0 0] T35)).alloc (.cells #[.slice none 0 0] T33)).alloc (.cells #[.bool false] T4)).alloc (.map #[] 0)).alloc (.cells #[.map (some (W.heap.size + 6))] T83)) = w0) :
    JSt W.heap.size N D w0 (false, []) (.slice none 0 0) ∧ Tri3 w0 W.heap.size (.int .i64 k) (.int .i64 g) (.slice A m d) ∧ TriF w0 (W.heap.size + 3) (.int .i64 0) (.int .i64 0) (.slice none 0 0) ∧ Below W.heap.size W w0 ∧ w0.heap.size = W.heap.size + 8 := by
  obtain ⟨h0, hh⟩ : ∃ h0, W.heap.size = h0 := ⟨_, rfl⟩
  have f1 := tri3_alloc W k g A m d T35
  have b1 := bel_alloc W (.cells #[.int .i64 k, .int .i64 g, .slice A m d] T35)
  have s1 : (W.alloc (.cells #[.int .i64 k, .int .i64 g, .slice A m d] T35)).heap.size = h0 + 1 := by simp [hh]
  obtain ⟨w1, e1⟩ : ∃ w1, W.alloc (.cells #[.int .i64 k, .int .i64 g, .slice A m d] T35) = w1 := ⟨_, rfl⟩
  rw [e1] at hw f1 b1 s1
  have f2 := box_new w1 (.int .i64 N) T3
  have b2 := bel_alloc w1 (.cells #[.int .i64 N] T3)
  have s2 : (w1.alloc (.cells #[.int .i64 N] T3)).heap.size = h0 + 2 := by simp [s1]
  obtain ⟨w2, e2⟩ : ∃ w2, w1.alloc (.cells #[.int .i64 N] T3) = w2 := ⟨_, rfl⟩
  rw [e2] at hw f2 b2 s2
  have f3 := box_new w2 (.int .i64 D) T3
  have b3 := bel_alloc w2 (.cells #[.int .i64 D] T3)
  have s3 : (w2.alloc (.cells #[.int .i64 D] T3)).heap.size = h0 + 3 := by simp [s2]
  obtain ⟨w3, e3⟩ : ∃ w3, w2.alloc (.cells #[.int .i64 D] T3) = w3 := ⟨_, rfl⟩
  rw [e3] at hw f3 b3 s3
  have f4 := triF_new w3 (.int .i64 0) (.int .i64 0) (.slice none 0 0) T35
  have b4 := bel_alloc w3 (.cells #[.int .i64 0, .int .i64 0, .slice none 0 0] T35)
  have s4 : (w3.alloc (.cells #[.int .i64 0, .int .i64 0, .slice none 0 0] T35)).heap.size = h0 + 4 := by simp [s3]
  obtain ⟨w4, e4⟩ : ∃ w4, w3.alloc (.cells #[.int .i64 0, .int .i64 0, .slice none 0 0] T35) = w4 := ⟨_, rfl⟩
  rw [e4] at hw f4 b4 s4
  have f5 := box_new w4 (.slice none 0 0) T33
  have b5 := bel_alloc w4 (.cells #[.slice none 0 0] T33)
  have s5 : (w4.alloc (.cells #[.slice none 0 0] T33)).heap.size = h0 + 5 := by simp [s4]
  obtain ⟨w5, e5⟩ : ∃ w5, w4.alloc (.cells #[.slice none 0 0] T33) = w5 := ⟨_, rfl⟩
  rw [e5] at hw f5 b5 s5
  have f6 := box_new w5 (.bool false) T4
  have b6 := bel_alloc w5 (.cells #[.bool false] T4)
  have s6 : (w5.alloc (.cells #[.bool false] T4)).heap.size = h0 + 6 := by simp [s5]
  obtain ⟨w6, e6⟩ : ∃ w6, w5.alloc (.cells #[.bool false] T4) = w6 := ⟨_, rfl⟩
  rw [e6] at hw f6 b6 s6
  have f7 : (w6.alloc (.map #[] 0)).ownsMap Tryz.prog 9 trueElem w6.heap.size 0 (.map []) := World.ownsMap_made w6 Tryz.prog 9 trueElem
  have b7 := bel_alloc w6 (.map #[] 0)
  have s7 : (w6.alloc (.map #[] 0)).heap.size = h0 + 7 := by simp [s6]
  obtain ⟨w7, e7⟩ : ∃ w7, w6.alloc (.map #[] 0) = w7 := ⟨_, rfl⟩
  rw [e7] at hw f7 b7 s7
  rw [hh] at hw
  have f8 := box_new w7 (.map (some (h0 + 6))) T83
  have b8 := bel_alloc w7 (.cells #[.map (some (h0 + 6))] T83)
  have s8 : (w7.alloc (.cells #[.map (some (h0 + 6))] T83)).heap.size = h0 + 8 := by simp [s7]
  rw [hw] at f8 b8 s8
  have c7 := b8
  have c6 := bgo b7 c7
  have c5 := bgo b6 c6
  have c4 := bgo b5 c5
  have c3 := bgo b4 c4
  have c2 := bgo b3 c3
  have c1 := bgo b2 c2
  have c0 := bgo b1 c1
  rw [s1] at f2; rw [s2] at f3; rw [s3] at f4; rw [s4] at f5; rw [s5] at f6; rw [s6] at f7; rw [s7] at f8
  have key : ∀ {x : World} {b : Nat} {u : Value}, Below x.heap.size x w0 → b < x.heap.size → x.cell? ⟨b, 0, none⟩ = some u ∧ x.frozen? ⟨b, 0, none⟩ = false → w0.cell? ⟨b, 0, none⟩ = some u ∧ w0.frozen? ⟨b, 0, none⟩ = false := fun hb hlt h => ⟨(hb.cell (p := ⟨_, 0, none⟩) hlt).trans h.1, (hb.frozen (p := ⟨_, 0, none⟩) hlt).trans h.2⟩
  rw [hh]
  refine ⟨⟨by omega, (key c2 (by omega) f2).1, (key c3 (by omega) f3).1, key c6 (by omega) f6, f8.1, ⟨_, mapB f7 c7, (SetD.start keyB).1, fun l => ((SetD.start keyB).2 l).trans ⟨fun h => h.elim, fun ⟨y, hy, _⟩ => by cases hy⟩⟩, key c5 (by omega) f5, OwnN.nil _ _ _⟩, ?_, f4.keep c4, hh ▸ c0, s8⟩
  rw [hh] at f1
  exact f1.keep c1
theorem tri3_jrel {h0 : Nat} {w w' : World} {vo vo' c0 c1 c2 : Value} {b : Nat} (h : JRel h0 w w' vo vo') (ht : Tri3 w b c0 c1 c2) (h4 : b ≠ h0 + 4) (h5 : b ≠ h0 + 5) (h6 : b ≠ h0 + 6) (hv : vo.ownBlock ≠ some b) : Tri3 w' b c0 c1 c2 := by
  obtain ⟨a0, a1, a2, a3⟩ := ht
  have e := (h.2 b a0 h4 h5 h6 hv).1
  have key : ∀ j, w'.cell? ⟨b, j, none⟩ = w.cell? ⟨b, j, none⟩ := fun j => World.cell?_of_block (w := w) (a := ⟨b, j, none⟩) e
  exact ⟨Nat.lt_of_lt_of_le a0 h.1, (key 0).trans a1, (key 1).trans a2, (key 2).trans a3⟩
theorem triF_jrel {h0 : Nat} {w w' : World} {vo vo' c0 c1 c2 : Value} {b : Nat} (h : JRel h0 w w' vo vo') (ht : TriF w b c0 c1 c2) (h4 : b ≠ h0 + 4) (h5 : b ≠ h0 + 5) (h6 : b ≠ h0 + 6) (hv : vo.ownBlock ≠ some b) : TriF w' b c0 c1 c2 := by
  have e := (h.2 b ht.1.1 h4 h5 h6 hv).1
  have key : ∀ j, w'.frozen? ⟨b, j, none⟩ = w.frozen? ⟨b, j, none⟩ := fun j => World.frozen?_of_block (w := w) (a := ⟨b, j, none⟩) e
  exact ⟨tri3_jrel h ht.1 h4 h5 h6 hv, (key 0).trans ht.2.1, (key 1).trans ht.2.2.1, (key 2).trans ht.2.2.2⟩
theorem nsv_jrel {h0 : Nat} {w w' : World} {vo vo' : Value} {B : Option Addr} {m d : Nat} {l : List Nd} (h : JRel h0 w w' vo vo') (hv : NsV w (fun g => h0 + 8 ≤ g ∧ vo.ownBlock ≠ some g) B m d l) : NsV w' (fun g => h0 + 8 ≤ g ∧ vo'.ownBlock ≠ some g) B m d l := h.ndv hv
theorem JSt.low {h0 : Nat} {N D : Int} {w : World} {p : Bool × List Nd} {vo : Value} (h : JSt h0 N D w p vo) {b : Nat} (hb : b < h0 + 8) : vo.ownBlock ≠ some b := fun e => by
  obtain ⟨_, _, _, _, _, _, _, ho⟩ := h
  have := (ho.lt e).1
  omega
theorem JSt.new {h0 : Nat} {N D : Int} {w : World} {p : Bool × List Nd} {vo : Value} (h : JSt h0 N D w p vo) {b : Nat} (hb : w.heap.size ≤ b) : vo.ownBlock ≠ some b := fun e => by
  obtain ⟨_, _, _, _, _, _, _, ho⟩ := h
  have := (ho.lt e).2
  omega
theorem run78 (xs : Array Value) (W : World) : (callFunc 106 xs).run Tryz.prog W = .ok (.enter 106 xs) W := by kernel_rfl
theorem addP_ne {k : Int} {p : Bool × List Nd} {x : Nd} (h : x.kind ≠ k) : addP k p x = takeP k p x := by unfold addP; rw [if_neg h]
theorem addP_eq {k : Int} {p : Bool × List Nd} {x : Nd} (h : x.kind = k) : addP k p x = takesAt k p x.subs x.subs.length := by unfold addP; rw [if_pos h, takesAt_all]
theorem nsv_low {h0 : Nat} {ok : Nat → Prop} {w w' : World} {B : Option Addr} {m d : Nat} {l : List Nd} (h : NsV w (fun g => ok g ∧ g < h0) B m d l) (hb : Below h0 w w') : NsV w' (fun g => ok g ∧ g < h0) B m d l :=
  NdV.map h (fun _ hp _ => hb.cell hp.2) fun _ hg _ => hg
set_option maxRecDepth 100000 in
set_option maxHeartbeats 12800000 in
theorem joined60 {k g N D : Int} {l : List Nd} (hk : k = 4 ∨ k = 5) (hN : N = skipK k) (hD : D = endK k) (hl : ∀ x ∈ l, WfN x) (hsz : sizeNL l ≤ 1000000)
    (IH : ∀ x ∈ l, ∀ (W : World) (ok : Nat → Prop) (v : Value), NdV W ok v x → Calls Tryz.prog 36 #[v] W (GotN W (simpN x)))
    {W : World} {ok : Nat → Prop} {v : Value} (hv : NdV W ok v (.mk k g l)) :
    Calls Tryz.prog 73 #[v, .int .i64 N, .int .i64 D] W (GotN W (closeP k (gatP k l))) := by
  have hmm := @run_makeMap Tryz.prog
  obtain ⟨k', g', A, m, d, rfl, hk', hg', hm', hmd, hdd, hkk, hgg⟩ := ndv_shape hv
  simp only [Nd.kind, Nd.gram, Nd.subs] at hk' hg' hm'
  subst hk' hg'
  have hml : l.length = m := hm'.symm
  have hm6 : m ≤ 1000000 := by have := sizeNL_len l; omega
  have hNb : -9223372036854775808 ≤ N ∧ N ≤ 9223372036854775807 := by rw [hN]; unfold skipK; split <;> omega
  have hDb : -9223372036854775808 ≤ D ∧ D ≤ 9223372036854775807 := by rw [hD]; unfold endK; split <;> omega
  have Hl := hide hl
  have HIH := hide IH
  have V0 := hide (hv.old.subs)
  obtain ⟨w0, hw0⟩ : ∃ w0, ((((((((W.alloc (.cells #[.int .i64 k', .int .i64 g', .slice A m d] 32)).alloc (.cells #[.int .i64 N] 3)).alloc (.cells #[.int .i64 D] 3)).alloc (.cells #[.int .i64 0, .int .i64 0, .slice none 0 0] 32)).alloc (.cells #[.slice none 0 0] 30)).alloc (.cells #[.bool false] 4)).alloc (.map #[] 0)).alloc (.cells #[.map (some (W.heap.size + 6))] 128)) = w0 := ⟨_, rfl⟩
  obtain ⟨js, jt, jf, jb, jz⟩ := jst_start W k' g' N D A m d 3 30 4 128 32 hw0
  have HN := hide hN
  have HD := hide hD
  have Hml := hide hml
  have Hk45 := hide hk
  have Hw0 := hide hw0
  clear hm' hv hl IH hN hD hw0 hml hk
  go_enter Tryz.func73, Tryz.ntmps73
  go_wp2_with fail
  simp only [show W.heap.size + 1 + 1 = W.heap.size + 2 from rfl, show W.heap.size + 2 + 1 = W.heap.size + 3 from rfl, show W.heap.size + 3 + 1 = W.heap.size + 4 from rfl, show W.heap.size + 4 + 1 = W.heap.size + 5 from rfl, show W.heap.size + 5 + 1 = W.heap.size + 6 from rfl, show W.heap.size + 6 + 1 = W.heap.size + 7 from rfl]
  rw [Hw0.out]
  have V1 := hide (V0.out.below jb)
  obtain ⟨h0, hh0⟩ : ∃ h0, W.heap.size = h0 := ⟨_, rfl⟩
  rw [hh0]
  rw [hh0] at js jt jf jz jb V1
  have JS := hide js
  have JT := hide jt
  have JF := hide jf
  have JB := hide jb
  have JZ := hide jz
  have Hh0 := hide hh0
  clear js jt jf jb jz hh0 Hw0 V0 hmm
  go_loopw [21] (fun y wr => ∃ (i : Nat) (vo : Value), i ≤ m ∧ y = .int .i64 (i : Int) ∧ JSt h0 N D wr (gatAt k' l i) vo ∧ Tri3 wr h0 (.int .i64 k') (.int .i64 g') (.slice A m d) ∧ TriF wr (h0 + 3) (.int .i64 0) (.int .i64 0) (.slice none 0 0) ∧ NsV wr (fun g => ok g ∧ g < h0) A m d l ∧ Below h0 W wr) (fun y _ => m - (intOf y).toNat)
  case atStart => exact ⟨0, _, Nat.zero_le _, rfl, by rw [gatAt_zero]; exact JS.out, JT.out, JF.out, V1.out, JB.out⟩
  case round =>
    obtain ⟨i, vo, hi, rfl, js, jt, jf, jv, jb⟩ := hrel
    obtain ⟨w2, hw2⟩ : ∃ w2, w2 = wr := ⟨wr, rfl⟩
    subst hw2
    have J2 := hide js
    have T2 := hide jt
    have F2 := hide jf
    have V2 := hide jv
    have B2 := hide jb
    have hs8 := js.1
    by_cases hlt : i < m
    · have hlt' : (i : Int) < (m : Int) := by omega
      obtain ⟨x, b, o, q0, q1, qA, qn, qc, hxl, rfl, x0, x1, x2, rx⟩ := jv.at_ hlt
      have hmem : x ∈ l := List.mem_of_getElem? hxl
      have hnx := gatAt_next (k := k') hxl
      have hnm := simp_nm (Hl.out x hmem)
      have hsx : sizeN (simpN x) ≤ 1000000 := by have := simp_size x; have := sizeNL_mem hmem; omega
      obtain ⟨y, hy⟩ : ∃ y, simpN x = y := ⟨_, rfl⟩
      have hb3 := bel_alloc w2 (.cells #[.int .i64 q0, .int .i64 q1, .slice qA qn qc] 32)
      have hf3 := tri3_alloc w2 q0 q1 qA qn qc 32
      have HC := hide (HIH.out x hmem (w2.alloc (.cells #[.int .i64 q0, .int .i64 q1, .slice qA qn qc] 32)) _ _ (rx.kept hb3))
      rw [hy] at HC hnm hsx hnx
      obtain ⟨sk, sg, xs⟩ := y
      have Hnx := hide hnx
      have Hnm := hide hnm
      have Hsx := hide hsx
      have Hgl := hide (show (gatAt k' l i).2.length ≤ 1000000 by have h1 := gatAt_size k' l i; have h2 := sizeNL_len (gatAt k' l i).2; omega)
      have Hgn := hide (gatAt_nm (k := k') Hl.out i)
      have J3 := hide (js.below hb3)
      have T3 := hide (jt.keep hb3)
      have F3 := hide (jf.keep hb3)
      have V3 := hide (jv.below hb3)
      have B3 := hide (jb.trans (hb3.mono (by omega)))
      have Hs3 := hide (show (w2.alloc (.cells #[.int .i64 q0, .int .i64 q1, .slice qA qn qc] 32)).heap.size = w2.heap.size + 1 by simp)
      obtain ⟨-, y0, y1, y2⟩ := hf3
      clear js jt jf jv jb hxl hmem rx hb3 hlt hnx hnm hsx hy
      go_wp2_with fail
      with_reducible refine HC.out.mono ?_
      rintro e w4 ⟨v4, rfl, hv4, hb4⟩
      obtain ⟨fk, fg, fB, fm, fd, rfl, hfk, hfg, hfm, hfmd, hfdd, -, -⟩ := ndv_shape hv4
      simp only [Nd.kind, Nd.gram, Nd.subs] at hfk hfg hfm
      subst hfk hfg
      have hb5 := bel_alloc w4 (.cells #[.int .i64 fk, .int .i64 fg, .slice fB fm fd] 32)
      have hf5 := tri3_alloc w4 fk fg fB fm fd 32
      have hs4 := hb4.size
      rw [Hs3.out] at hs4
      have Hfm := hide hfm
      have NF := hide (show NdV (w4.alloc (.cells #[.int .i64 fk, .int .i64 fg, .slice fB fm fd] 32)) (fun g => h0 + 8 ≤ g ∧ vo.ownBlock ≠ some g) (.agg #[.int .i64 fk, .int .i64 fg, .slice fB fm fd]) (.mk fk fg xs) from (hv4.weak fun g hg => by
        rw [Hs3.out] at hg
        exact ⟨by omega, J2.out.new (by omega)⟩).kept hb5)
      have J5 := hide ((J3.out.below hb4).below hb5)
      have T5 := hide ((T3.out.keep hb4).keep hb5)
      have F5 := hide ((F3.out.keep hb4).keep hb5)
      have V5 := hide ((V3.out.below hb4).below hb5)
      have B5 := hide ((B3.out.trans (hb4.mono (by rw [Hs3.out]; omega))).trans (hb5.mono (by omega)))
      have hcf := run78
      obtain ⟨-, z0, z1, z2⟩ := hf5
      obtain ⟨-, n0, n1, n2⟩ := T5.out
      clear hv4 hb4 hb5 hfm J3 T3 F3 V3 B3 HC
      by_cases hke : fk = k'
      · have q1 : (fk != k') = false := ineq hke
        have Hke := hide hke
        clear hke
        go_wp2_with fail
        go_loopw [38] (fun z wr => ∃ (j : Nat) (vo' : Value), j ≤ fm ∧ z = .int .i64 (j : Int) ∧ JSt h0 N D wr (takesAt k' (gatAt k' l i) xs j) vo' ∧ Tri3 wr h0 (.int .i64 k') (.int .i64 g') (.slice (some ⟨b, o, none⟩) m d) ∧ TriF wr (h0 + 3) (.int .i64 0) (.int .i64 0) (.slice none 0 0) ∧ NsV wr (fun g => ok g ∧ g < h0) (some ⟨b, o, none⟩) m d l ∧ NsV wr (fun g => h0 + 8 ≤ g ∧ vo'.ownBlock ≠ some g) fB fm fd xs ∧ Below h0 W wr) (fun z _ => fm - (intOf z).toNat)
        case atStart => exact ⟨0, vo, Nat.zero_le _, rfl, by rw [takesAt_zero]; exact J5.out, T5.out, F5.out, V5.out, NF.out.subs, B5.out⟩
        case round =>
          obtain ⟨j, vo', hj, rfl, js, jt, jf, jv, jx, jb⟩ := hrel
          obtain ⟨w6, hw6⟩ : ∃ w6, w6 = wr := ⟨wr, rfl⟩
          subst hw6
          have hs8' := js.1
          by_cases hjt : j < fm
          · have hjt' : (j : Int) < (fm : Int) := by omega
            obtain ⟨x', b', o', p0, p1, pA, pn, pc, hxl', rfl, s0, s1, s2, rx'⟩ := jx.at_ hjt
            have hmem' : x' ∈ xs := List.mem_of_getElem? hxl'
            have hb7 := bel_alloc w6 (.cells #[.int .i64 p0, .int .i64 p1, .slice pA pn pc] 32)
            have hf7 := tri3_alloc w6 p0 p1 pA pn pc 32
            have hsx' : sizeN x' ≤ 1000000 := by have h1 := sizeNL_mem hmem'; have h2 := Hsx.out; rw [sizeN_mk] at h2; omega
            have hlen' : (takesAt k' (gatAt k' l i) xs j).2.length ≤ 4000000 := by
              have h1 := takesAt_size k' (gatAt k' l i) xs j
              have h2 := sizeNL_len (takesAt k' (gatAt k' l i) xs j).2
              have h3 := gatAt_size k' l i
              have h4 := Hsx.out
              rw [sizeN_mk] at h4
              omega
            have HC := hide (take78 HN.out HD.out (js.below hb7) (rx'.kept hb7) (nm_all_subs Hnm.out x' hmem') (takesAt_nm Hgn.out (nm_all_subs Hnm.out) j) hsx' hlen')
            have Hnx' := hide (takesAt_next (k := k') (p := gatAt k' l i) hxl')
            have J7 := hide (js.below hb7)
            have T7 := hide (jt.keep hb7)
            have F7 := hide (jf.keep hb7)
            have V7 := hide (jv.below hb7)
            have X7 := hide (jx.below hb7)
            have B7 := hide (jb.trans (hb7.mono (by omega)))
            obtain ⟨-, u0, u1, u2⟩ := hf7
            clear js jt jf jv jx jb hxl' hmem' rx' hb7 hjt hsx' hlen'
            go_wp2_with fail
            with_reducible refine HC.out.mono ?_
            rintro e w8 ⟨rfl, vo8, js8, jr8, jb8⟩
            have J8 := hide js8
            have T8 := hide (tri3_jrel jr8 T7.out (by omega) (by omega) (by omega) (J7.out.low (by omega)))
            have F8 := hide (triF_jrel jr8 F7.out (by omega) (by omega) (by omega) (J7.out.low (by omega)))
            have V8 := hide (nsv_low V7.out jb8)
            have X8 := hide (nsv_jrel jr8 X7.out)
            have B8 := hide (B7.out.trans jb8)
            clear js8 jr8 jb8 HC
            go_wp2
            go_roundw
            case rel => exact ⟨j + 1, vo8, by omega, by go_num, by rw [Hnx'.out]; exact J8.out, T8.out, F8.out, V8.out, X8.out, B8.out⟩
            case measure => simp [intOf]; omega
          · have hjt' : ¬ (j : Int) < (fm : Int) := by omega
            have J8 := hide (show JSt h0 N D w6 (gatAt k' l (i + 1)) vo' by
              rw [Hnx.out, addP_eq (x := .mk fk fg xs) (show Nd.kind (.mk fk fg xs) = k' from Hke.out)]
              show JSt h0 N D w6 (takesAt k' (gatAt k' l i) xs xs.length) vo'
              rw [show xs.length = j by have := Hfm.out; omega]
              exact js)
            have T8 := hide jt
            have F8 := hide jf
            have V8 := hide jv
            have B8 := hide jb
            clear js jt jf jv jx jb hjt
            go_wp2
            go_roundw
            case rel => exact ⟨i + 1, vo', by omega, by go_num, J8.out, T8.out, F8.out, V8.out, B8.out⟩
            case measure => simp [intOf]; omega
      · have q1 : (fk != k') = true := inne hke
        have HC := hide (take78 HN.out HD.out J5.out NF.out Hnm.out Hgn.out Hsx.out (Nat.le_trans Hgl.out (by omega)))
        have Hke := hide (show gatAt k' l (i + 1) = takeP k' (gatAt k' l i) (.mk fk fg xs) by rw [Hnx.out, addP_ne (x := .mk fk fg xs) (show Nd.kind (.mk fk fg xs) ≠ k' from hke)])
        clear hke
        go_wp2_with fail
        with_reducible refine HC.out.mono ?_
        rintro e w8 ⟨rfl, vo8, js8, jr8, jb8⟩
        have J8 := hide js8
        have T8 := hide (tri3_jrel jr8 T5.out (by omega) (by omega) (by omega) (J5.out.low (by omega)))
        have F8 := hide (triF_jrel jr8 F5.out (by omega) (by omega) (by omega) (J5.out.low (by omega)))
        have V8 := hide (nsv_low V5.out jb8)
        have B8 := hide (B5.out.trans jb8)
        clear js8 jr8 jb8 HC
        go_wp2
        go_roundw
        case rel => exact ⟨i + 1, vo8, by omega, by go_num, by rw [Hke.out]; exact J8.out, T8.out, F8.out, V8.out, B8.out⟩
        case measure => simp [intOf]; omega
    · have hlt' : ¬ (i : Int) < (m : Int) := by omega
      have hgat : gatAt k' l i = gatP k' l := by rw [show i = l.length by have := Hml.out; omega, gatAt_all]
      rw [hgat] at js
      obtain ⟨P, hP⟩ : ∃ P, gatP k' l = P := ⟨_, rfl⟩
      rw [hP] at js
      have HPe := hide hP
      obtain ⟨a0, a1, a2, ⟨a3, -⟩, -, -, ⟨a8, -⟩, a10⟩ := js
      obtain ⟨dec, subs⟩ := P
      have O2 := hide a10
      have hn := jt.1
      obtain ⟨UA, un, ud, uvs, rfl, hun, -, -⟩ := a10.s
      have Hun := hide hun
      simp only at a3 hun
      obtain ⟨-, n0, n1, n2⟩ := jt
      obtain ⟨⟨-, r0, r1, r2⟩, s0, s1, s2⟩ := jf
      clear jv jb hgat hP a10 hlt J2 V2
      cases dec with
      | true =>
        have ND := hide (show NdV w2 (fun g => h0 + 8 ≤ g) (.agg #[.int .i64 D, .int .i64 0, .slice none 0 0]) (closeP k' (true, subs)) by
          unfold closeP
          rw [if_pos rfl, HD.out]
          exact ndv_leaf _ 0 (by unfold endK; split <;> omega) (by omega))
        clear hun
        go_wp2
        exact bodyPost_ret (res_box rfl _ _ (h0 + 3) _ _ _ rfl (put3_tri F2.out _ _ _)) rfl ⟨_, rfl, by rw [HPe.out]; exact put3_ndv ND.out (show ¬ (h0 + 8 ≤ h0 + 3) by omega) (fun g (hg : h0 + 8 ≤ g) => show W.heap.size ≤ g by rw [Hh0.out]; omega), put3_below (by rw [Hh0.out]; exact B2.out) (by rw [Hh0.out]; omega)⟩
      | false =>
        have hund : un ≤ ud ∧ ud ≤ 9223372036854775807 := by
          obtain ⟨A', m', d', vs', e, -, hvs, -⟩ := O2.out.s
          cases e
          exact ⟨hvs.1, hvs.2.1⟩
        have hund1 := hund.1
        have hund2 := hund.2
        by_cases hu0 : un = 0
        · have q0 : ((un : Int) == 0) = true := ibeq (by omega)
          have ND := hide (show NdV w2 (fun g => h0 + 8 ≤ g) (.agg #[.int .i64 N, .int .i64 0, .slice none 0 0]) (closeP k' (false, subs)) by
            unfold closeP
            rw [if_neg (by simp), if_pos (show subs.length = 0 by omega), HN.out]
            exact ndv_leaf _ 0 (by unfold skipK; split <;> omega) (by omega))
          clear hun hu0 hund
          go_wp2
          exact bodyPost_ret (res_box rfl _ _ (h0 + 3) _ _ _ rfl (put3_tri F2.out _ _ _)) rfl ⟨_, rfl, by rw [HPe.out]; exact put3_ndv ND.out (show ¬ (h0 + 8 ≤ h0 + 3) by omega) (fun g (hg : h0 + 8 ≤ g) => show W.heap.size ≤ g by rw [Hh0.out]; omega), put3_below (by rw [Hh0.out]; exact B2.out) (by rw [Hh0.out]; omega)⟩
        have q0 : ((un : Int) == 0) = false := ibne (by omega)
        by_cases hu1 : un = 1
        · have q1 : ((un : Int) == 1) = true := ibeq (by omega)
          obtain ⟨b, o, c0, c1, c2, x, rfl, hx, hnx, z0, z1, z2⟩ := O2.out.get (i := 0) (by omega)
          simp only [Nat.zero_mul, Nat.add_zero] at z0 z1 z2
          obtain ⟨xk, xg, xB, xm, xd, ex, -⟩ := ndv_shape hnx
          injection ex with ex
          injection ex with ex
          simp only [List.cons.injEq, and_true] at ex
          obtain ⟨rfl, rfl, rfl⟩ := ex
          have ND := hide (show NdV w2 (fun g => h0 + 8 ≤ g) (.agg #[.int .i64 xk, .int .i64 xg, .slice xB xm xd]) (closeP k' (false, subs)) by
            unfold closeP
            rw [if_neg (by simp), if_neg (by simp only; omega), if_pos (show subs.length = 1 by omega)]
            cases subs with
            | nil => simp at hx
            | cons x0 t => simp at hx; subst hx; exact hnx.weak fun _ hg => hg.1)
          have hpos : (0 : Int) < (un : Int) := by omega
          clear hun hu0 hu1 hund hx hnx
          go_wp2
          exact bodyPost_ret (res_box rfl _ _ (h0 + 3) _ _ _ rfl (put3_tri F2.out _ _ _)) rfl ⟨_, rfl, by rw [HPe.out]; exact put3_ndv ND.out (show ¬ (h0 + 8 ≤ h0 + 3) by omega) (fun g (hg : h0 + 8 ≤ g) => show W.heap.size ≤ g by rw [Hh0.out]; omega), put3_below (by rw [Hh0.out]; exact B2.out) (by rw [Hh0.out]; omega)⟩
        · have q1 : ((un : Int) == 1) = false := ibne (by omega)
          have ND := hide (show NdV w2 (fun g => h0 + 8 ≤ g) (.agg #[.int .i64 k', .int .i64 0, .slice UA un ud]) (closeP k' (false, subs)) by
            unfold closeP
            rw [if_neg (by simp), if_neg (by simp only; omega), if_neg (by simp only; omega)]
            have hk45 := Hk45.out
            exact (O2.out.nd k' (by omega)).weak fun g hg => by rcases hg with hg | hg <;> exact hg)
          clear hun hu0 hu1 hund
          go_wp2
          exact bodyPost_ret (res_box rfl _ _ (h0 + 3) _ _ _ rfl (put3_tri F2.out _ _ _)) rfl ⟨_, rfl, by rw [HPe.out]; exact put3_ndv ND.out (show ¬ (h0 + 8 ≤ h0 + 3) by omega) (fun g (hg : h0 + 8 ≤ g) => show W.heap.size ≤ g by rw [Hh0.out]; omega), put3_below (by rw [Hh0.out]; exact B2.out) (by rw [Hh0.out]; omega)⟩
set_option maxRecDepth 100000 in
set_option maxHeartbeats 6400000 in
theorem simplest37 : ∀ (r : Nd), WfN r → sizeN r ≤ 1000000 → ∀ (W : World) (ok : Nat → Prop) (v : Value), NdV W ok v r → Calls Tryz.prog 36 #[v] W (GotN W (simpN r)) := by
  intro r
  induction r using Nd.ind with
  | h k g l ih =>
    intro hwf hsz W ok v hv
    obtain ⟨k', g', A, m, d, rfl, hk', hg', hm', hmd, hdd, hkk, hgg⟩ := ndv_shape hv
    simp only [Nd.kind, Nd.gram, Nd.subs] at hk' hg' hm'
    subst hk' hg'
    have hszl : sizeNL l + 1 = sizeN (.mk k' g' l) := by rw [sizeN_mk]; omega
    have hl : ∀ x ∈ l, WfN x := wf_subs hwf
    have hlz : ∀ x ∈ l, sizeN x ≤ 1000000 := fun x hx => by have := sizeNL_mem hx; omega
    have hb1 := bnew (bel_alloc W (.cells #[.int .i64 k', .int .i64 g', .slice A m d] 32)) (.cells #[.int .i64 0, .int .i64 0, .slice none 0 0] 32)
    have f1 := (tri3_alloc W k' g' A m d 32).keep (bel_alloc _ (.cells #[.int .i64 0, .int .i64 0, .slice none 0 0] 32))
    have f2 := triF_new (W.alloc (.cells #[.int .i64 k', .int .i64 g', .slice A m d] 32)) (.int .i64 0) (.int .i64 0) (.slice none 0 0) 32
    rw [show (W.alloc (.cells #[.int .i64 k', .int .i64 g', .slice A m d] 32)).heap.size = W.heap.size + 1 by simp] at f2
    have hs1 : ((W.alloc (.cells #[.int .i64 k', .int .i64 g', .slice A m d] 32)).alloc (.cells #[.int .i64 0, .int .i64 0, .slice none 0 0] 32)).heap.size = W.heap.size + 2 := by simp
    obtain ⟨w1, hw1⟩ : ∃ w1, (W.alloc (.cells #[.int .i64 k', .int .i64 g', .slice A m d] 32)).alloc (.cells #[.int .i64 0, .int .i64 0, .slice none 0 0] 32) = w1 := ⟨_, rfl⟩
    rw [hw1] at hb1 f1 f2 hs1
    have V1 := hv.kept hb1
    have B1 := hide hb1
    have F2 := hide f2
    have Hs1 := hide hs1
    obtain ⟨-, t0, t1, t2⟩ := f1
    by_cases h4 : k' = 4
    · have HC := hide (joined60 (N := 1) (D := 2) (Or.inl h4) (by rw [h4]; rfl) (by rw [h4]; rfl) hl (by omega) (fun x hx W' ok' v' hv' => ih x hx (hl x hx) (hlz x hx) W' ok' v' hv') V1)
      have HE := hide (simp_is (g := g') (Or.inl h4) hl)
      have q4 := ibeq h4
      clear hm' hv hl hlz ih V1 hb1 f2 hs1 h4 hwf
      go_enter Tryz.func36, Tryz.ntmps36
      go_wp2_with fail
      with_reducible refine HC.out.mono ?_
      rintro e w3 ⟨v3, rfl, hv3, hb3⟩
      obtain ⟨fk, fg, fB, fm, fd, rfl, -, -, -, -, -, -, -⟩ := ndv_shape hv3
      have F3 := hide (F2.out.keep hb3)
      have V3 := hide hv3
      have B3 := hide (bgo B1.out hb3)
      clear hv3 hb3
      obtain ⟨⟨-, r0, r1, r2⟩, s0, s1, s2⟩ := F3.out
      go_wp2
      exact bodyPost_ret (res_box rfl _ _ (W.heap.size + 1) _ _ _ rfl (put3_tri F3.out _ _ _)) rfl ⟨_, rfl, by rw [HE.out]; exact put3_ndv V3.out (by rw [Hs1.out]; omega) (fun g hg => by rw [Hs1.out] at hg; omega), put3_below B3.out (by omega)⟩
    have q4 := ibne h4
    by_cases h5 : k' = 5
    · have HC := hide (joined60 (N := 2) (D := 1) (Or.inr h5) (by rw [h5]; rfl) (by rw [h5]; rfl) hl (by omega) (fun x hx W' ok' v' hv' => ih x hx (hl x hx) (hlz x hx) W' ok' v' hv') V1)
      have HE := hide (simp_is (g := g') (Or.inr h5) hl)
      have q5 := ibeq h5
      clear hm' hv hl hlz ih V1 hb1 f2 hs1 h4 h5 hwf
      go_enter Tryz.func36, Tryz.ntmps36
      go_wp2_with fail
      with_reducible refine HC.out.mono ?_
      rintro e w3 ⟨v3, rfl, hv3, hb3⟩
      obtain ⟨fk, fg, fB, fm, fd, rfl, -, -, -, -, -, -, -⟩ := ndv_shape hv3
      have F3 := hide (F2.out.keep hb3)
      have V3 := hide hv3
      have B3 := hide (bgo B1.out hb3)
      clear hv3 hb3
      obtain ⟨⟨-, r0, r1, r2⟩, s0, s1, s2⟩ := F3.out
      go_wp2
      exact bodyPost_ret (res_box rfl _ _ (W.heap.size + 1) _ _ _ rfl (put3_tri F3.out _ _ _)) rfl ⟨_, rfl, by rw [HE.out]; exact put3_ndv V3.out (by rw [Hs1.out]; omega) (fun g hg => by rw [Hs1.out] at hg; omega), put3_below B3.out (by omega)⟩
    have q5 := ibne h5
    have hnil : l = [] := by
      cases hwf with
      | gram g a b => rfl
      | all => rfl
      | none => rfl
      | op k l hk _ => omega
    have hrg := wf_range hwf
    simp only [Nd.kind, Nd.gram] at hrg
    have ND := hide (show NdV w1 (fun g => W.heap.size + 2 ≤ g) (.agg #[.int .i64 k', .int .i64 g', .slice none 0 0]) (simpN (.mk k' g' l)) by
      rw [simp_leaf (by omega), hnil]
      exact ndv_leaf _ _ (by omega) (by omega))
    clear hm' hv hl hlz ih V1 hb1 hs1 h4 h5 hwf hnil
    obtain ⟨⟨-, r0, r1, r2⟩, s0, s1, s2⟩ := f2
    go_enter Tryz.func36, Tryz.ntmps36
    go_wp2
    exact bodyPost_ret (res_box rfl _ _ (W.heap.size + 1) _ _ _ rfl (put3_tri F2.out _ _ _)) rfl ⟨_, rfl, put3_ndv ND.out (by omega) (fun g hg => by omega), put3_below B1.out (by omega)⟩
set_option maxRecDepth 100000 in
set_option maxHeartbeats 6400000 in
theorem psimp19 {W : World} {ok : Nat → Prop} {v : Value} {r : Nd} (hv : NdV W ok v r) (hsz : sizeN r ≤ 1000000) : Calls Tryz.prog 28 #[v] W (GotN W (simplifyS r)) := by
  obtain ⟨k', g', A, m, d, rfl, -, -, -, hmd, hdd, hkk, hgg⟩ := ndv_shape hv
  have hb1 := bnew (bel_alloc W (.cells #[.int .i64 k', .int .i64 g', .slice A m d] 32)) (.cells #[.int .i64 0, .int .i64 0, .slice none 0 0] 32)
  have f1 := (tri3_alloc W k' g' A m d 32).keep (bel_alloc _ (.cells #[.int .i64 0, .int .i64 0, .slice none 0 0] 32))
  have f2 := triF_new (W.alloc (.cells #[.int .i64 k', .int .i64 g', .slice A m d] 32)) (.int .i64 0) (.int .i64 0) (.slice none 0 0) 32
  rw [show (W.alloc (.cells #[.int .i64 k', .int .i64 g', .slice A m d] 32)).heap.size = W.heap.size + 1 by simp] at f2
  have hs1 : ((W.alloc (.cells #[.int .i64 k', .int .i64 g', .slice A m d] 32)).alloc (.cells #[.int .i64 0, .int .i64 0, .slice none 0 0] 32)).heap.size = W.heap.size + 2 := by simp
  obtain ⟨w1, hw1⟩ : ∃ w1, (W.alloc (.cells #[.int .i64 k', .int .i64 g', .slice A m d] 32)).alloc (.cells #[.int .i64 0, .int .i64 0, .slice none 0 0] 32) = w1 := ⟨_, rfl⟩
  rw [hw1] at hb1 f1 f2 hs1
  have V1 := hide (hv.kept hb1)
  have B1 := hide hb1
  have F1 := hide f1
  have F2 := hide f2
  have Hs1 := hide hs1
  have HR := hide (pright14 V1.out (rightN 1 r) rfl)
  obtain ⟨-, t0, t1, t2⟩ := f1
  clear hv hb1 f2 hs1
  cases hr : rightN 1 r with
  | false =>
    have HE := hide (show simplifyS r = .mk 2 0 [] by unfold simplifyS; rw [hr]; rfl)
    rw [hr] at HR
    clear hr
    go_enter Tryz.func28, Tryz.ntmps28
    go_wp2_with fail
    with_reducible refine HR.out.mono ?_
    rintro e w2 ⟨rfl, hb2⟩
    have F3 := hide (F2.out.keep hb2)
    have B3 := hide (bgo B1.out hb2)
    have hs2 := hb2.size
    rw [Hs1.out] at hs2
    clear hb2
    obtain ⟨⟨-, r0, r1, r2⟩, s0, s1, s2⟩ := F3.out
    have ND := hide (ndv_leaf (W := w2) (ok := fun g => W.heap.size + 2 ≤ g) 2 0 (by omega) (by omega))
    go_wp2
    exact bodyPost_ret (res_box rfl _ _ (W.heap.size + 1) _ _ _ rfl (put3_tri F3.out _ _ _)) rfl ⟨_, rfl, by rw [HE.out]; exact put3_ndv ND.out (by omega) (fun g hg => by omega), put3_below B3.out (by omega)⟩
  | true =>
    have HE := hide (show simplifyS r = simpN r by unfold simplifyS; rw [hr]; rfl)
    have Hwf := hide (right_wf r 1 hr).1
    rw [hr] at HR
    clear hr
    go_enter Tryz.func28, Tryz.ntmps28
    go_wp2_with fail
    with_reducible refine HR.out.mono ?_
    rintro e w2 ⟨rfl, hb2⟩
    have F3 := hide (F2.out.keep hb2)
    have B3 := hide (bgo B1.out hb2)
    have HC := hide (simplest37 r Hwf.out hsz _ _ _ (V1.out.kept hb2))
    have hs2 := hb2.size
    rw [Hs1.out] at hs2
    obtain ⟨-, u0, u1, u2⟩ := F1.out.keep hb2
    clear hb2
    go_wp2_with fail
    with_reducible refine HC.out.mono ?_
    rintro e w3 ⟨v3, rfl, hv3, hb3⟩
    obtain ⟨fk, fg, fB, fm, fd, rfl, -, -, -, -, -, -, -⟩ := ndv_shape hv3
    have F4 := hide (F3.out.keep hb3)
    have V4 := hide hv3
    have B4 := hide (bgo B3.out hb3)
    clear hv3 hb3
    obtain ⟨⟨-, r0, r1, r2⟩, s0, s1, s2⟩ := F4.out
    go_wp2
    exact bodyPost_ret (res_box rfl _ _ (W.heap.size + 1) _ _ _ rfl (put3_tri F4.out _ _ _)) rfl ⟨_, rfl, by rw [HE.out]; exact put3_ndv V4.out (by omega) (fun g hg => by omega), put3_below B4.out (by omega)⟩
end Go.Proofs.YtlnbjdlooghpeaaGreatDoor
