/- TopRegex: Pu. -/
import Derived.Test.YtlnbjdlooghpeaaGreatDoorTLo
import Derived.Test.YtlnbjdlooghpeaaGreatDoorTPg
namespace Go.Proofs.YtlnbjdlooghpeaaGreatDoor
open Go.RowKit
section
variable {P : Program} {ops : Array Oper} {o : Oper} {a : Act} {K : Act → World → Prop} {Q : Exit → Act → World → Prop} {E : Prop}
theorem step_push_ndG (hgd : o.guard = none) (s x : Operand) (t : TypeId) (ho : o.op = .call { callee := .builtin .append, args := #[s, x], argTypes := #[t, t] })
    (i : TypeInfo) (z : Value) (bytes : Nat) (ht : P.underlying t = some (.slice 32)) (hi : P.info? 32 = some i) (hz : i.zero = some z) (hsize : i.size = 3) (hby : i.bytes = bytes) (hzs : z.cells.size = 3)
    (B : Nat) (ok : Nat → Prop) (v : Value) (xs : List Nd) (hs : a.eval s = v) (w : World) (c0 c1 c2 : Value) (r : Nd) (hown : OwnN w B ok v xs) (hB : B ≤ w.heap.size) (ad : Addr)
    (hx : a.eval x = .slice (some ad) 1 1) (hnews : ∀ (j : Nat) (u : Value), [c0, c1, c2][j]? = some u → w.cell? (ad.add j) = some u) (hr : NdV w (fun g => ok g ∧ v.ownBlock ≠ some g) (.agg #[c0, c1, c2]) r) (hlen : (xs.length + 1) * bytes ≤ 140737488355328) (h63 : xs.length + 1 ≤ maxLen)
    (h : ∀ g cap w', OwnN w' B ok (.slice (some ⟨g, 0, none⟩) (xs.length + 1) cap) (xs ++ [r]) → Below B w w' → Far w w' v (.slice (some ⟨g, 0, none⟩) (xs.length + 1) cap) → K (a.put o.dst (.slice (some ⟨g, 0, none⟩) (xs.length + 1) cap)) w') :
    if Region.wanted o (yielded ops a.tmps) = true then Oper.wp P o a w K Q else E := by
  obtain ⟨cs, vs, hown, hvl, h3, h4⟩ := hown
  have hone : ∀ u ∈ [c0, c1, c2], u.oneCell' = true := by
    obtain ⟨d0, d1, d2, e, h0, h1, h2⟩ := hr.agg
    injection e with e
    injection e with e
    simp only [List.cons.injEq, and_true] at e
    obtain ⟨rfl, rfl, rfl⟩ := e
    intro u hu
    simp only [List.mem_cons, List.not_mem_nil, or_false] at hu
    rcases hu with rfl | rfl | rfl <;> assumption
  refine step_append_lies _ hgd s x t ho B 32 i z 3 bytes ht hi hz hsize hby hzs (by decide) v xs.length cs hs hown ad 1 1 [c0, c1, c2] hx rfl hnews hone (by decide) h63 hlen hB w.heap.size rfl ?_
  intro g cap w' hown' hg hat0 _
  obtain ⟨v', hv'⟩ : ∃ v', Value.slice (some ⟨g, 0, none⟩) (xs.length + 1) cap = v' := ⟨_, rfl⟩
  have hob : v'.ownBlock = some g := by rw [← hv']; rfl
  have hat : v'.ownBlock = v.ownBlock ∨ v'.ownBlock = some w.heap.size := by
    rcases hat0 with h | h
    · exact Or.inl (hob.trans h.symm)
    · exact Or.inr (by rw [hob, h])
  rw [hv'] at hown'
  have main : OwnN w' B ok v' (xs ++ [r]) ∧ Below B w w' ∧ Far w w' v v' := by
    have hF : Far w w' v v' := by
      refine ⟨hg.size, fun g hlt hne => ⟨hg.block g hlt (fun e => hne e.symm), ?_⟩⟩
      rcases hat with hat | hat
      · rw [hat]; exact hne
      · rw [hat]; intro e; injection e with e; omega
    have hmap : ∀ (u : Value) (y : Nd), NdV w (fun g => ok g ∧ v.ownBlock ≠ some g) u y → NdV w' (fun g => ok g ∧ v'.ownBlock ≠ some g) u y := fun u y hy => hy.far hF
    have hcl : cs.length = xs.length * 3 := hown.1
    refine ⟨⟨cs ++ [c0, c1, c2], vs ++ [.agg #[c0, c1, c2]], by rw [List.length_append]; exact hown', by simp [hvl], fun j u hu => ?_, fun j u y hu hy => ?_⟩, ?_, hF⟩
    · by_cases hj : j < vs.length
      · rw [List.getElem?_append_left hj] at hu
        obtain ⟨d0, d1, d2, e, e0, e1, e2⟩ := h3 j u hu
        have key : ∀ (q : Nat) (d : Value), q < 3 → cs[j * 3 + q]? = some d → (cs ++ [c0, c1, c2])[j * 3 + q]? = some d := fun q d hq hd => by
          rw [List.getElem?_append_left (by omega)]; exact hd
        exact ⟨d0, d1, d2, e, key 0 _ (by omega) e0, key 1 _ (by omega) e1, key 2 _ (by omega) e2⟩
      · rw [List.getElem?_append_right (by omega)] at hu
        have hj' : j = vs.length := by
          have := (List.getElem?_eq_some_iff.1 hu).1
          simp at this
          omega
        subst hj'
        rw [Nat.sub_self] at hu
        cases hu
        have key : ∀ q, q < 3 → (cs ++ [c0, c1, c2])[vs.length * 3 + q]? = [c0, c1, c2][q]? := fun q hq => by
          rw [List.getElem?_append_right (by omega), show vs.length * 3 + q - cs.length = q by omega]
        exact ⟨c0, c1, c2, rfl, key 0 (by omega), key 1 (by omega), key 2 (by omega)⟩
    · by_cases hj : j < vs.length
      · rw [List.getElem?_append_left hj] at hu
        rw [List.getElem?_append_left (by omega)] at hy
        exact hmap u y (h4 j u y hu hy)
      · rw [List.getElem?_append_right (by omega)] at hu hy
        have hj' : j = vs.length := by
          have := (List.getElem?_eq_some_iff.1 hu).1
          simp at this
          omega
        subst hj'
        rw [Nat.sub_self] at hu
        rw [hvl, Nat.sub_self] at hy
        cases hu
        cases hy
        exact hmap _ _ hr
    · exact (Below.refl B w).grown hg hB fun k hk => (hown.lt k hk).1
  rw [← hv'] at main
  exact h g cap w' main.1 main.2.1 main.2.2
end
theorem Tri3.news {w : World} {b : Nat} {c0 c1 c2 : Value} (h : Tri3 w b c0 c1 c2) : ∀ (j : Nat) (u : Value), [c0, c1, c2][j]? = some u → w.cell? ((⟨b, 0, none⟩ : Addr).add j) = some u := by
  obtain ⟨-, h0, h1, h2⟩ := h
  intro j u hu
  match j, hu with
  | 0, hu => cases hu; exact h0
  | 1, hu => cases hu; exact h1
  | 2, hu => cases hu; exact h2
  | j + 3, hu => simp at hu
set_option maxRecDepth 100000 in
set_option maxHeartbeats 6400000 in
theorem ofeach65 {W : World} {ok : Nat → Prop} {B : Option Addr} {m d : Nat} {l : List Rx} (h : SubsS W ok B m d l) (hml : m ≤ 1000000)
    (HR : ∀ x ∈ l, ∀ (W : World) (ok : Nat → Prop) (v : Value), RxV W ok v x → Calls Tryz.prog 37 #[v] W (GotN W (rawR x))) :
    Calls Tryz.prog 77 #[.slice B m d] W fun e w' => ∃ v, e = .returned v ∧ OwnN w' W.heap.size (fun g => W.heap.size ≤ g) v (l.map rawR) ∧ Below W.heap.size W w' := by
  obtain ⟨i0, hi0, hz0, hz1, hz2⟩ := info_parts infoN
  have hmd := h.1
  have hdd := h.2.1
  have Hlen := hide h.2.2.1
  have HS := hide h
  have HRw := hide HR
  clear h HR
  go_enter Tryz.func77, Tryz.ntmps77
  go_wp2
  go_loopw [3, 8] (fun y x wr => ∃ (i : Nat) (vl : Value), i ≤ m ∧ x = .int .i64 (i : Int) ∧ vl = y ∧ OwnN wr W.heap.size (fun g => W.heap.size ≤ g) vl ((l.map rawR).take i) ∧ Below W.heap.size W wr) (fun _ x _ => m - (intOf x).toNat)
  case atStart => exact ⟨0, _, Nat.zero_le _, rfl, rfl, by rw [List.take_zero]; exact OwnN.nil _ _ _, Below.refl _ _⟩
  case round =>
    obtain ⟨i, vl, hi, rfl, rfl, ho, hbel⟩ := hrel
    obtain ⟨w2, hw2⟩ : ∃ w2, w2 = wr := ⟨wr, rfl⟩
    subst hw2
    have O2 := hide ho
    have B2 := hide hbel
    have hbs := hbel.size
    by_cases hlt : i < m
    · have hlt' : (i : Int) < (m : Int) := by omega
      obtain ⟨x, g, o, q0, qA, qn, qc, q1, q2, qB, qm, qd, hxl, rfl, x0, x1, x2, x3, x4, rx⟩ := (HS.out.below hbel).at_ hlt
      have hb3 := bel_alloc w2 (.cells #[.int .i64 q0, .slice qA qn qc, .int .i64 q1, .int .i64 q2, .slice qB qm qd] 25)
      have hf3 := five_new w2 (.int .i64 q0) (.slice qA qn qc) (.int .i64 q1) (.int .i64 q2) (.slice qB qm qd) 25
      have hs3 : (w2.alloc (.cells #[.int .i64 q0, .slice qA qn qc, .int .i64 q1, .int .i64 q2, .slice qB qm qd] 25)).heap.size = w2.heap.size + 1 := by simp
      obtain ⟨w3, hw3⟩ : ∃ w3, w2.alloc (.cells #[.int .i64 q0, .slice qA qn qc, .int .i64 q1, .int .i64 q2, .slice qB qm qd] 25) = w3 := ⟨_, rfl⟩
      rw [hw3] at hb3 hf3 hs3
      have HC := hide (HRw.out x (List.mem_of_getElem? hxl) _ _ _ (rx.kept hb3))
      have Hnx := hide (show (l.map rawR).take (i + 1) = (l.map rawR).take i ++ [rawR x] by rw [takeN (show (l.map rawR)[i]? = some (rawR x) by rw [List.getElem?_map, hxl]; rfl)])
      have O3 := hide (ho.below hb3)
      have B3 := hide (hbel.trans (hb3.mono hbs))
      have Hs3 := hide hs3
      have Hul := hide (fun g (hg : vl.ownBlock = some g) => (ho.lt hg).2)
      have hlen : ((l.map rawR).take i).length ≤ 1000000 := by rw [List.length_take]; omega
      obtain ⟨_, y0, y1, y2, y3, y4⟩ := hf3
      clear ho hbel hxl rx hb3 hs3
      go_wp2_with fail
      with_reducible refine HC.out.mono ?_
      rintro e w4 ⟨v4, rfl, hv4, hb4⟩
      obtain ⟨fk, fg, fB, fm, fd, rfl, -, -, -, -, -, -, -⟩ := ndv_shape hv4
      have hz4 := hb4.size
      rw [Hs3.out] at hz4
      have O4 := hide (O3.out.below hb4)
      have B4 := hide (B3.out.trans (hb4.mono (by rw [Hs3.out]; omega)))
      have N4 := hide (show NdV w4 (fun g => W.heap.size ≤ g ∧ vl.ownBlock ≠ some g) (.agg #[.int .i64 fk, .int .i64 fg, .slice fB fm fd]) (rawR x) from hv4.weak fun g hg => by
        rw [Hs3.out] at hg
        exact ⟨by omega, fun e => by have := Hul.out g e; omega⟩)
      have hB4 : W.heap.size ≤ w4.heap.size := by omega
      clear hv4 hb4
      go_wp2_with (first
        | (at_builtin; refine wp_push_nd (by rfl) (.tmp 12) (.tmp 15) 30 (by rfl) i0 _ 40 Tryz.underlying30 hi0 hz0 hz1 hz2 rfl W.heap.size (fun g => W.heap.size ≤ g) vl _ (by rfl) w4 _ _ _ (rawR x) O4.out hB4 _ rfl (by rfl) N4.out (by omega) (by unfold maxLen; omega) ?_; intro v6 w6 ho6 hb6 hF6)
        | fail)
      have O6 := hide (show OwnN w6 W.heap.size (fun g => W.heap.size ≤ g) v6 ((l.map rawR).take (i + 1)) by rw [Hnx.out]; exact ho6)
      have B6 := hide (B4.out.trans hb6)
      clear ho6 hb6 hF6
      go_wp2
      go_roundw
      case rel => exact ⟨i + 1, v6, by omega, by go_num, rfl, O6.out, B6.out⟩
      case measure => simp [intOf]; omega
    · have hlt' : ¬ (i : Int) < (m : Int) := by omega
      rw [List.take_of_length_le (by rw [List.length_map, Hlen.out]; omega)] at ho
      have O3 := hide ho
      clear ho hbel
      go_wp2
      go_ret
      exact ⟨_, rfl, O3.out, B2.out⟩
def LsB (h0 : Nat) (w : World) (vo : Value) (A : Option Addr) (n c : Nat) (l : LS) : Prop := Sl w A n c (strCells l) ∧ (0 < n → ∀ ad : Addr, A = some ad → h0 + 2 ≤ ad.block ∧ vo.ownBlock ≠ some ad.block)
def PSt (h0 : Nat) (w : World) (needs : List Nd) (part : LS) (vo : Value) (A : Option Addr) (n c : Nat) : Prop :=
  h0 + 2 ≤ w.heap.size ∧ (w.cell? ⟨h0, 0, none⟩ = some vo ∧ w.frozen? ⟨h0, 0, none⟩ = false) ∧ (w.cell? ⟨h0 + 1, 0, none⟩ = some (.slice A n c) ∧ w.frozen? ⟨h0 + 1, 0, none⟩ = false) ∧ OwnN w (h0 + 2) (fun g => h0 + 2 ≤ g) vo needs ∧ LsB h0 w vo A n c part
def NRel (h0 : Nat) (w w' : World) (vo vo' : Value) : Prop := w.heap.size ≤ w'.heap.size ∧ ∀ g, g < w.heap.size → g ≠ h0 → vo.ownBlock ≠ some g → w'.heap[g]? = w.heap[g]? ∧ vo'.ownBlock ≠ some g
section
variable {h0 : Nat} {w w' w'' : World} {needs : List Nd} {part l : LS} {vo vo' vo'' : Value} {A : Option Addr} {n c : Nat}
theorem NRel.of_below (h : Below w.heap.size w w') : NRel h0 w w' vo vo := ⟨h.size, fun g hg _ hv => ⟨h.block g hg, hv⟩⟩
theorem LsB.nrel (h : LsB h0 w vo A n c l) (hr : NRel h0 w w' vo vo') : LsB h0 w' vo' A n c l := by
  obtain ⟨⟨h1, h2, h3, h4⟩, h5⟩ := h
  have key : 0 < n → ∀ ad : Addr, A = some ad → ad.block < w.heap.size → w'.heap[ad.block]? = w.heap[ad.block]? ∧ vo'.ownBlock ≠ some ad.block := fun hn ad e hb => hr.2 _ hb (by have := (h5 hn ad e).1; omega) (h5 hn ad e).2
  refine ⟨⟨h1, h2, h3, h4.1, fun k u hu => ?_⟩, fun hn ad e => ?_⟩
  · obtain ⟨ad, e, hb, hc⟩ := h4.2 k u hu
    have hn : 0 < n := by have h6 := (List.getElem?_eq_some_iff.1 hu).1; have h7 := h4.1; omega
    refine ⟨ad, e, Nat.lt_of_lt_of_le hb hr.1, ?_⟩
    rw [← hc]
    exact World.cell?_of_block (w := w) (by rw [Go.ChangeShapes.block_add]; exact (key hn ad e hb).1)
  · obtain ⟨ad', u, e', hb, _⟩ := h4.at_ hn
    rw [e] at e'
    cases e'
    exact ⟨(h5 hn ad e).1, (key hn ad e hb).2⟩
theorem LsB.fresh (hs : Sl w' A n c (strCells l)) (hz : h0 + 2 ≤ w.heap.size) (ho : OwnN w (h0 + 2) (fun g => h0 + 2 ≤ g) vo needs) (hf : ∀ ad : Addr, A = some ad → w.heap.size ≤ ad.block) : LsB h0 w' vo A n c l :=
  ⟨hs, fun _ ad e => ⟨Nat.le_trans hz (hf ad e), fun e2 => by have h1 := (ho.lt e2).2; have h2 := hf ad e; omega⟩⟩
theorem LsB.below (h : LsB h0 w vo A n c l) (hb : Below w.heap.size w w') : LsB h0 w' vo A n c l := h.nrel (NRel.of_below hb)
theorem PSt.below (h : PSt h0 w needs part vo A n c) (hb : Below w.heap.size w w') : PSt h0 w' needs part vo A n c := by
  obtain ⟨a0, ⟨a1, a2⟩, ⟨a3, a4⟩, a5, a6⟩ := h
  exact ⟨Nat.le_trans a0 hb.size, ⟨(hb.cell (p := ⟨h0, 0, none⟩) (show h0 < w.heap.size by omega)).trans a1, (hb.frozen (p := ⟨h0, 0, none⟩) (show h0 < w.heap.size by omega)).trans a2⟩,
    ⟨(hb.cell (p := ⟨h0 + 1, 0, none⟩) (show h0 + 1 < w.heap.size by omega)).trans a3, (hb.frozen (p := ⟨h0 + 1, 0, none⟩) (show h0 + 1 < w.heap.size by omega)).trans a4⟩, a5.below hb, a6.below hb⟩
theorem PSt.newPart {A' : Option Addr} {n' c' : Nat} (h : PSt h0 w needs part vo A n c) (hl : LsB h0 w vo A' n' c' l) : PSt h0 (w.setCell ⟨h0 + 1, 0, none⟩ (.slice A' n' c')) needs l vo A' n' c' ∧
    ∀ g, g ≠ h0 + 1 → (w.setCell ⟨h0 + 1, 0, none⟩ (.slice A' n' c')).heap[g]? = w.heap[g]? := by
  obtain ⟨a0, ⟨a1, a2⟩, ⟨a3, a4⟩, a5, -⟩ := h
  have hh : ∀ g, g ≠ h0 + 1 → (w.setCell ⟨h0 + 1, 0, none⟩ (.slice A' n' c')).heap[g]? = w.heap[g]? := fun g hg => Below.heap_setCell _ _ _ _ (by simp; omega)
  refine ⟨⟨by simpa [World.setCell] using a0, ⟨(World.cell?_of_block (w := w) (a := ⟨h0, 0, none⟩) (hh h0 (by omega))).trans a1, (World.frozen?_of_block (w := w) (a := ⟨h0, 0, none⟩) (hh h0 (by omega))).trans a2⟩, ⟨World.cell?_setCell_same _ _ _ a3, (World.frozen?_setCell _ _ _ _).trans a4⟩, a5.setc (by omega) (by omega), ?_⟩, hh⟩
  obtain ⟨⟨h1, h2, h3, h4⟩, h5⟩ := hl
  refine ⟨⟨h1, h2, h3, h4.1, fun k u hu => ?_⟩, h5⟩
  obtain ⟨ad, e, hb, hc⟩ := h4.2 k u hu
  have hn : 0 < n' := by have h6 := (List.getElem?_eq_some_iff.1 hu).1; have h7 := h4.1; omega
  refine ⟨ad, e, by simpa [World.setCell] using hb, ?_⟩
  rw [← hc]
  exact World.cell?_of_block (w := w) (by rw [Go.ChangeShapes.block_add]; exact hh _ (by have := (h5 hn ad e).1; omega))
theorem pst_push {w5 w7 : World} {x : Nd} {gg cap : Nat} {c0 c1 c2 : Value} (h : PSt h0 w needs part vo A n c) (hb5 : Below w.heap.size w w5)
    (h7 : OwnN w7 (h0 + 2) (fun g => h0 + 2 ≤ g) (.slice (some ⟨gg, 0, none⟩) (needs.length + 1) cap) (needs ++ [.mk 0 0 []])) (hb7 : Below (h0 + 2) w5 w7) (hf7 : Far w5 w7 vo (.slice (some ⟨gg, 0, none⟩) (needs.length + 1) cap))
    (hr : NdV w7 (fun g => h0 + 2 ≤ g ∧ g ≠ gg) (.agg #[c0, c1, c2]) x) :
    PSt h0 ((putAt w7 gg (needs.length * 3) c0 c1 c2).setCell ⟨h0, 0, none⟩ (.slice (some ⟨gg, 0, none⟩) (needs.length + 1) cap)) (needs ++ [x]) part (.slice (some ⟨gg, 0, none⟩) (needs.length + 1) cap) A n c ∧
    NRel h0 w ((putAt w7 gg (needs.length * 3) c0 c1 c2).setCell ⟨h0, 0, none⟩ (.slice (some ⟨gg, 0, none⟩) (needs.length + 1) cap)) vo (.slice (some ⟨gg, 0, none⟩) (needs.length + 1) cap) := by
  have hgg : h0 + 2 ≤ gg ∧ gg < w7.heap.size := h7.lt rfl
  have hs5 : w.heap.size ≤ w5.heap.size := hb5.size
  have hs7 : w5.heap.size ≤ w7.heap.size := hb7.size
  obtain ⟨a0, ⟨a1, a2⟩, ⟨a3, a4⟩, -, a6⟩ := h
  obtain ⟨wF, hwF⟩ : ∃ wF, (putAt w7 gg (needs.length * 3) c0 c1 c2).setCell ⟨h0, 0, none⟩ (.slice (some ⟨gg, 0, none⟩) (needs.length + 1) cap) = wF := ⟨_, rfl⟩
  have hsF : wF.heap.size = w7.heap.size := by rw [← hwF]; simp [World.setCell, putAt_size]
  have hF7 : ∀ g, g ≠ gg → g ≠ h0 → wF.heap[g]? = w7.heap[g]? := fun g h1 h2 => by
    rw [← hwF, Below.heap_setCell _ _ _ _ (by simp; omega), putAt_heap _ _ _ _ _ _ h1]
  have c7 : w7.heap[h0]? = w.heap[h0]? ∧ w7.heap[h0 + 1]? = w.heap[h0 + 1]? := ⟨(hb7.block h0 (by omega)).trans (hb5.block h0 (by omega)), (hb7.block (h0 + 1) (by omega)).trans (hb5.block (h0 + 1) (by omega))⟩
  have eP := putAt_heap w7 gg (needs.length * 3) c0 c1 c2 (g := h0) (by omega)
  have cP : (putAt w7 gg (needs.length * 3) c0 c1 c2).cell? ⟨h0, 0, none⟩ = some vo ∧ (putAt w7 gg (needs.length * 3) c0 c1 c2).frozen? ⟨h0, 0, none⟩ = false :=
    ⟨(World.cell?_of_block (w := w) (a := ⟨h0, 0, none⟩) (eP.trans c7.1)).trans a1, (World.frozen?_of_block (w := w) (a := ⟨h0, 0, none⟩) (eP.trans c7.1)).trans a2⟩
  have e1 : wF.heap[h0 + 1]? = w.heap[h0 + 1]? := (hF7 (h0 + 1) (by omega) (by omega)).trans c7.2
  have hrow := ownN_last h7 rfl hr
  have hN : NRel h0 w wF vo (.slice (some ⟨gg, 0, none⟩) (needs.length + 1) cap) := by
    refine ⟨by rw [hsF]; omega, fun g hg h4 hv => ?_⟩
    obtain ⟨e7, hv7⟩ := hf7.2 g (Nat.lt_of_lt_of_le hg hs5) hv
    exact ⟨(hF7 g (fun e => hv7 (by rw [e]; rfl)) h4).trans (e7.trans (hb5.block g hg)), hv7⟩
  rw [hwF]
  refine ⟨⟨by rw [hsF]; omega, ⟨by rw [← hwF]; exact World.cell?_setCell_same _ _ _ cP.1, by rw [← hwF]; exact (World.frozen?_setCell _ _ _ _).trans cP.2⟩, ⟨(World.cell?_of_block (w := w) (a := ⟨h0 + 1, 0, none⟩) e1).trans a3, (World.frozen?_of_block (w := w) (a := ⟨h0 + 1, 0, none⟩) e1).trans a4⟩, by rw [← hwF]; exact hrow.setc (by omega) (by omega), a6.nrel hN⟩, hN⟩
end
set_option maxRecDepth 100000 in
set_option maxHeartbeats 6400000 in
theorem end82 {h0 : Nat} {W : World} {needs : List Nd} {part : LS} {vo : Value} {A : Option Addr} {n c : Nat} (h : PSt h0 W needs part vo A n c) (hl : LitL part) (hnl : needs.length ≤ 4000000) :
    Calls Tryz.prog 110 #[.pointer (some ⟨h0 + 1, 0, none⟩), .pointer (some ⟨h0, 0, none⟩)] W fun e w' => e = .returned (.tuple #[]) ∧ ∃ vo', PSt h0 w' (needs ++ flushS (curS part)) part vo' A n c ∧ NRel h0 W w' vo vo' ∧ Below h0 W w' := by
  obtain ⟨i0, hi0, hz0, hz1, hz2⟩ := info_parts infoN
  have S := hide h
  obtain ⟨a0, ⟨a1, a2⟩, ⟨a3, a4⟩, a5, a6⟩ := h
  have hnc := a6.1.1
  have hcc := a6.1.2.1
  have hn := a6.1.nstr
  by_cases h0n : n = 0
  · have hlt : ¬ (0 : Int) < (n : Int) := by omega
    have Hf := hide (show needs ++ flushS (curS part) = needs by
      rw [show part = [] from List.eq_nil_of_length_eq_zero (by omega), curS_nil]
      simp [flushS])
    clear a5 a6 hn h0n
    go_enter Tryz.func110, Tryz.ntmps110
    go_wp2
    go_end0
    exact ⟨rfl, vo, by rw [Hf.out]; exact S.out, NRel.of_below (Below.refl _ _), Below.refl _ _⟩
  · have hlt : (0 : Int) < (n : Int) := by omega
    have Hf := hide (show needs ++ flushS (curS part) = needs ++ [ofStr part] by
      rw [curS_ne (fun e => by rw [e] at hn; simp at hn; omega)]
      rfl)
    have HCx := hide (fun (X : World) (hX : Below W.heap.size W X) => (ofstrings63 (a6.1.below hX) (by have := hl.2.1; omega) (fun x hx => Nat.le_trans (hl.2.2 x hx) (by omega))).mono (R' := fun e w' => ∃ v, e = .returned v ∧ NdV w' (fun g => W.heap.size ≤ g) v (ofStr part) ∧ Below X.heap.size X w' ∧ Below W.heap.size W w') fun e w' hg => by
      obtain ⟨v, rfl, h1, h2⟩ := hg
      exact ⟨v, rfl, h1.weak fun g hg => Nat.le_trans hX.size hg, h2, bgo hX h2⟩)
    obtain ⟨UA, un, ud, uvs, rfl, hun, -, -⟩ := a5.s
    subst hun
    have A5 := hide a5
    have hlt1 : (needs.length : Int) < (needs.length : Int) + 1 := by omega
    have Hz := hide (bel_drew W)
    have Hza := hide (bgo (bel_alloc W (.cells #[.int .i64 0, .int .i64 0, .slice none 0 0] 32)) (bel_drew _))
    have z1 := ((bel_alloc W (.cells #[.int .i64 0, .int .i64 0, .slice none 0 0] 32)).cell (p := ⟨h0, 0, none⟩) (show h0 < W.heap.size by omega)).trans a1
    have z3 := ((bel_alloc W (.cells #[.int .i64 0, .int .i64 0, .slice none 0 0] 32)).cell (p := ⟨h0 + 1, 0, none⟩) (show h0 + 1 < W.heap.size by omega)).trans a3
    have Hal := hide ((tri3_new W (.int .i64 0) (.int .i64 0) (.slice none 0 0) 32).keep (bel_drew _))
    clear a5 a6 hn h0n
    go_enter Tryz.func110, Tryz.ntmps110
    go_upto_region 1 with (fail)
    go_region_law (first
      | (refine step_push_ndF (by rfl) (.tmp 5) (.tmp 9) 30 (by rfl) i0 _ 40 Tryz.underlying30 hi0 hz0 hz1 hz2 rfl (h0 + 2) (fun g => h0 + 2 ≤ g) (.slice UA needs.length ud) needs (by rfl) w5 _ _ _ (.mk 0 0 []) O5.out hB5 _ rfl (by rfl) (ndv_leaf 0 0 (by omega) (by omega)) (by omega) (by unfold maxLen; omega) ?_; intro gg cap w7 hown7 hb7 hf7; have X7 := hide hown7; have B7 := hide hb7; have FF7 := hide hf7; have hgg7 := (hown7.lt (g := gg) rfl).1; obtain ⟨⟨d0, e0⟩, ⟨d1, e1⟩, ⟨d2, e2⟩, ef⟩ := own_cells hown7 rfl; have ef0 := ef (needs.length * 3); have ef1 := ef (needs.length * 3 + 1); have ef2 := ef (needs.length * 3 + 2); have e8 := (hb7.cell (p := ⟨h0, 0, none⟩) (show h0 < h0 + 2 by omega)).trans C5.out.1; have e8' := (hb7.frozen (p := ⟨h0, 0, none⟩) (show h0 < h0 + 2 by omega)).trans C5.out.2; clear ef hown7 hb7 hf7)
      | (refine step_push_ndG (by rfl) (.tmp 5) (.tmp 9) 30 (by rfl) i0 _ 40 Tryz.underlying30 hi0 hz0 hz1 hz2 rfl (h0 + 2) (fun g => h0 + 2 ≤ g) (.slice UA needs.length ud) needs (by rfl) w5 _ _ _ (.mk 0 0 []) O5.out hB5 ⟨W.heap.size, 0, none⟩ (by rfl) T5.out.news (ndv_leaf 0 0 (by omega) (by omega)) (by omega) (by unfold maxLen; omega) ?_; intro gg cap w7 hown7 hb7 hf7; have X7 := hide hown7; have B7 := hide hb7; have FF7 := hide hf7; have hgg7 := (hown7.lt (g := gg) rfl).1; obtain ⟨⟨d0, e0⟩, ⟨d1, e1⟩, ⟨d2, e2⟩, ef⟩ := own_cells hown7 rfl; have ef0 := ef (needs.length * 3); have ef1 := ef (needs.length * 3 + 1); have ef2 := ef (needs.length * 3 + 2); have e8 := (hb7.cell (p := ⟨h0, 0, none⟩) (show h0 < h0 + 2 by omega)).trans C5.out.1; have e8' := (hb7.frozen (p := ⟨h0, 0, none⟩) (show h0 < h0 + 2 by omega)).trans C5.out.2; clear ef hown7 hb7 hf7)
      | (go_simp; go_at_call 75; (with_reducible refine (HCx.out _ (by first | exact Hz.out | exact Hza.out)).mono ?_); rintro e w5 ⟨v5, rfl, hv5, hbx5, hb5⟩; obtain ⟨fk, fg, fB, fm, fd, rfl, -, -, -, -, -, -, -⟩ := ndv_shape hv5; have BX5 := hide hbx5; have B5 := hide hb5; have N5 := hide hv5; have O5 := hide (A5.out.below hb5); have hB5 : h0 + 2 ≤ w5.heap.size := Nat.le_trans a0 hb5.size; have C5 := hide (show w5.cell? ⟨h0, 0, none⟩ = some (.slice UA needs.length ud) ∧ w5.frozen? ⟨h0, 0, none⟩ = false from ⟨(hb5.cell (p := ⟨h0, 0, none⟩) (show h0 < W.heap.size by omega)).trans a1, (hb5.frozen (p := ⟨h0, 0, none⟩) (show h0 < W.heap.size by omega)).trans a2⟩); have q1 := C5.out.1; have q2 := (hb5.cell (p := ⟨h0 + 1, 0, none⟩) (show h0 + 1 < W.heap.size by omega)).trans a3; have q1z := ((bel_alloc w5 (.cells #[.int .i64 0, .int .i64 0, .slice none 0 0] 32)).cell (p := ⟨h0, 0, none⟩) (show h0 < w5.heap.size by omega)).trans q1; have q2z := ((bel_alloc w5 (.cells #[.int .i64 0, .int .i64 0, .slice none 0 0] 32)).cell (p := ⟨h0 + 1, 0, none⟩) (show h0 + 1 < w5.heap.size by omega)).trans q2; (try have T5 := hide (Hal.out.keep hbx5)); clear hv5 hbx5 hb5))
    all_goals
      have FF := hide (show Far w5 w7 (.slice UA needs.length ud) (.slice (some ⟨gg, 0, none⟩) (needs.length + 1) cap) from FF7.out)
      have R7 := hide (show NdV w7 (fun g => h0 + 2 ≤ g ∧ g ≠ gg) (.agg #[.int .i64 fk, .int .i64 fg, .slice fB fm fd]) (ofStr part) from N5.out.map (fun q hq hl => World.cell?_of_block (FF.out.2 q.block hl (fun e => by have := (A5.out.lt e).2; omega)).1) fun g hg hl => ⟨by omega, fun e => (FF.out.2 g hl (fun e => by have := (A5.out.lt e).2; omega)).2 (by rw [e]; rfl)⟩)
      have P := hide (pst_push S.out B5.out X7.out B7.out FF.out R7.out)
      have BP := hide (show Below h0 W (putAt w7 gg (needs.length * 3) (.int .i64 fk) (.int .i64 fg) (.slice fB fm fd)) from putAt_below ((B5.out.mono (by omega)).trans (B7.out.mono (by omega))) (by omega))
      have BF := hide (BP.out.setCell (p := ⟨h0, 0, none⟩) (show h0 ≤ h0 by omega) (.slice (some ⟨gg, 0, none⟩) (needs.length + 1) cap))
      have EC := putAt_comm w7 gg (needs.length * 3) h0 (.int .i64 fk) (.int .i64 fg) (.slice fB fm fd) (.slice (some ⟨gg, 0, none⟩) (needs.length + 1) cap) (by omega)
      have PX := hide P.out
      have BX := hide BF.out
      rw [← EC] at PX BX
      clear EC
      go_wp2
      go_end0
      first
        | exact ⟨rfl, _, by rw [Hf.out]; exact P.out.1, P.out.2, BF.out⟩
        | exact ⟨rfl, _, by rw [Hf.out]; exact PX.out.1, PX.out.2, BX.out⟩
end Go.Proofs.YtlnbjdlooghpeaaGreatDoor
