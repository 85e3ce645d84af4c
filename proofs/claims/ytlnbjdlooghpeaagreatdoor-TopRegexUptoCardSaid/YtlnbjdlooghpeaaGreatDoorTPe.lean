/- TopRegex: Pe. -/
import Derived.Test.YtlnbjdlooghpeaaGreatDoorTPc
import Derived.Test.YtlnbjdlooghpeaaGreatDoorTPd
import Derived.Deep.RegionLaw
import Derived.Deep.AppendLies
namespace Go.Proofs.YtlnbjdlooghpeaaGreatDoor
open Go.RowKit Go.Maps
open Go.Lib (byteCells byteCells_append)
theorem row_setN {w : World} {B e g n cap sz : Nat} {xs : List Value} (h : w.ownsRow B e sz (.slice (some ⟨g, 0, none⟩) n cap) n xs) (j : Nat) (u : Value) : (w.setCell ⟨g, j, none⟩ u).ownsRow B e sz (.slice (some ⟨g, 0, none⟩) n cap) n (xs.set j u) := by
  obtain ⟨h1, h2⟩ := h
  refine ⟨by rw [List.length_set]; exact h1, ?_⟩
  rcases h2 with ⟨h0, _⟩ | ⟨g', cap', cur, hv, hB, hh, hn, hm, hs, ht⟩
  · cases h0
  · simp only [Value.slice.injEq, Option.some.injEq, Addr.mk.injEq, and_true, true_and] at hv
    obtain ⟨rfl, rfl⟩ := hv
    refine Or.inr ⟨g, cap, cur.setIfInBounds j u, rfl, hB, Go.Joins.block_setCell hh u, hn, hm, by simpa using hs, ?_⟩
    rw [Array.toList_setIfInBounds, List.take_set, ht]
def putAt (w : World) (b o : Nat) (u0 u1 u2 : Value) : World := ((w.setCell ⟨b, o, none⟩ u0).setCell ⟨b, o + 1, none⟩ u1).setCell ⟨b, o + 2, none⟩ u2
theorem putAt_size (w : World) (b o : Nat) (u0 u1 u2 : Value) : (putAt w b o u0 u1 u2).heap.size = w.heap.size := by simp [putAt, World.setCell]
theorem putAt_heap (w : World) (b o : Nat) (u0 u1 u2 : Value) {g : Nat} (h : g ≠ b) : (putAt w b o u0 u1 u2).heap[g]? = w.heap[g]? := by
  unfold putAt
  rw [Below.heap_setCell _ _ _ _ (by simp; omega), Below.heap_setCell _ _ _ _ (by simp; omega), Below.heap_setCell _ _ _ _ (by simp; omega)]
theorem putAt_below {B b o : Nat} {w w' : World} {u0 u1 u2 : Value} (h : Below B w w') (hb : B ≤ b) : Below B w (putAt w' b o u0 u1 u2) :=
  ((h.setCell (p := ⟨b, o, none⟩) hb _).setCell (p := ⟨b, o + 1, none⟩) hb _).setCell (p := ⟨b, o + 2, none⟩) hb _
theorem ownN_last {w : World} {B g cap n : Nat} {ok : Nat → Prop} {xs : List Nd} {z r : Nd} {c0 c1 c2 : Value} (h : OwnN w B ok (.slice (some ⟨g, 0, none⟩) (n + 1) cap) (xs ++ [z])) (hn : xs.length = n) (hr : NdV w (fun b => ok b ∧ b ≠ g) (.agg #[c0, c1, c2]) r) :
    OwnN (putAt w g (n * 3) c0 c1 c2) B ok (.slice (some ⟨g, 0, none⟩) (n + 1) cap) (xs ++ [r]) := by
  subst hn
  obtain ⟨cs, vs, hrow, hvl, h3, h4⟩ := h
  have hl : (xs ++ [z]).length = xs.length + 1 := by simp
  have hl' : (xs ++ [r]).length = xs.length + 1 := by simp
  rw [hl] at hrow hvl
  have hcl : cs.length = (xs.length + 1) * 3 := hrow.1
  have hrow' := row_setN (row_setN (row_setN hrow (xs.length * 3) c0) (xs.length * 3 + 1) c1) (xs.length * 3 + 2) c2
  have hmap : ∀ (u : Value) (y : Nd), NdV w (fun b => ok b ∧ b ≠ g) u y → NdV (putAt w g (xs.length * 3) c0 c1 c2) (fun b => ok b ∧ (Value.slice (some ⟨g, 0, none⟩) (xs.length + 1) cap).ownBlock ≠ some b) u y := fun u y hy =>
    hy.map (fun p hp _ => World.cell?_of_block (putAt_heap _ _ _ _ _ _ hp.2)) fun b hb _ => ⟨hb.1, fun e => hb.2 (by simp only [Value.ownBlock, Option.some.injEq] at e; exact e.symm)⟩
  refine ⟨((cs.set (xs.length * 3) c0).set (xs.length * 3 + 1) c1).set (xs.length * 3 + 2) c2, vs.set xs.length (.agg #[c0, c1, c2]), by rw [hl']; exact hrow', by rw [hl', List.length_set]; exact hvl, fun i u hu => ?_, fun i u y hu hy => ?_⟩
  · by_cases hi : i = xs.length
    · subst hi
      rw [List.getElem?_set_self (by omega)] at hu
      cases hu
      refine ⟨c0, c1, c2, rfl, ?_, ?_, ?_⟩
      · rw [List.getElem?_set_ne (by omega), List.getElem?_set_ne (by omega), List.getElem?_set_self (by omega)]
      · rw [List.getElem?_set_ne (by omega), List.getElem?_set_self (by rw [List.length_set]; omega)]
      · rw [List.getElem?_set_self (by rw [List.length_set, List.length_set]; omega)]
    · rw [List.getElem?_set_ne (by omega)] at hu
      obtain ⟨d0, d1, d2, e, e0, e1, e2⟩ := h3 i u hu
      have key : ∀ q, q < 3 → (((cs.set (xs.length * 3) c0).set (xs.length * 3 + 1) c1).set (xs.length * 3 + 2) c2)[i * 3 + q]? = cs[i * 3 + q]? := fun q hq => by
        rw [List.getElem?_set_ne (by omega), List.getElem?_set_ne (by omega), List.getElem?_set_ne (by omega)]
      exact ⟨d0, d1, d2, e, (key 0 (by omega)).trans e0, (key 1 (by omega)).trans e1, (key 2 (by omega)).trans e2⟩
  · by_cases hi : i = xs.length
    · subst hi
      rw [List.getElem?_set_self (by omega)] at hu
      rw [List.getElem?_append_right (Nat.le_refl _), Nat.sub_self] at hy
      cases hu
      cases hy
      exact hmap _ _ hr
    · rw [List.getElem?_set_ne (by omega)] at hu
      have hil : i < xs.length := by
        have := (List.getElem?_eq_some_iff.1 hu).1
        omega
      rw [List.getElem?_append_left hil] at hy
      exact hmap u y ((h4 i u y hu (by rw [List.getElem?_append_left hil]; exact hy)).weak fun b hb => ⟨hb.1, fun e => hb.2 (by rw [e]; rfl)⟩)
section
variable {P : Program} {ops : Array Oper} {o : Oper} {a : Act} {K : Act → World → Prop} {Q : Exit → Act → World → Prop} {E : Prop}
theorem step_push_ndF (hgd : o.guard = none) (s x : Operand) (t : TypeId) (ho : o.op = .call { callee := .builtin .append, args := #[s, x], argTypes := #[t, t] })
    (i : TypeInfo) (z : Value) (bytes : Nat) (ht : P.underlying t = some (.slice 32)) (hi : P.info? 32 = some i) (hz : i.zero = some z) (hsize : i.size = 3) (hby : i.bytes = bytes) (hzs : z.cells.size = 3)
    (B : Nat) (ok : Nat → Prop) (v : Value) (xs : List Nd) (hs : a.eval s = v) (w0 : World) (c0 c1 c2 : Value) (r : Nd) (hown : OwnN w0 B ok v xs) (hB : B ≤ w0.heap.size) (H : Nat) (hH : H = w0.heap.size)
    (hx : a.eval x = .slice (some ⟨H, 0, none⟩) 1 1) (hr : NdV w0 (fun g => ok g ∧ v.ownBlock ≠ some g) (.agg #[c0, c1, c2]) r) (hlen : (xs.length + 1) * bytes ≤ 140737488355328) (h63 : xs.length + 1 ≤ maxLen)
    (h : ∀ g cap w', OwnN w' B ok (.slice (some ⟨g, 0, none⟩) (xs.length + 1) cap) (xs ++ [r]) → Below B w0 w' → Far w0 w' v (.slice (some ⟨g, 0, none⟩) (xs.length + 1) cap) → K (a.put o.dst (.slice (some ⟨g, 0, none⟩) (xs.length + 1) cap)) w') :
    if Region.wanted o (yielded ops a.tmps) = true then Oper.wp P o a (w0.alloc (.cells #[c0, c1, c2] 32)) K Q else E := by
  subst hH
  obtain ⟨cs, vs, hown, hvl, h3, h4⟩ := hown
  have hone : ∀ u ∈ [c0, c1, c2], u.oneCell' = true := by
    obtain ⟨d0, d1, d2, e, h0, h1, h2⟩ := hr.agg
    injection e with e
    injection e with e
    simp only [List.cons.injEq, and_true] at e
    obtain ⟨rfl, rfl, rfl⟩ := e
    intro u hu
    simp only [List.mem_cons, List.not_mem_nil, or_false] at hu
    rcases hu with rfl | rfl | rfl <;> assumption
  refine step_append_lies _ hgd s x t ho B 32 i z 3 bytes ht hi hz hsize hby hzs (by decide) v xs.length cs hs (hown.alloc _) ⟨w0.heap.size, 0, none⟩ 1 1 [c0, c1, c2] hx rfl (c1_tri _ _ _ _ _) hone (by decide) h63 hlen (by simp; omega) (w0.heap.size + 1) (by simp) ?_
  intro g cap w' hown' hg hat0 _
  obtain ⟨v', hv'⟩ : ∃ v', Value.slice (some ⟨g, 0, none⟩) (xs.length + 1) cap = v' := ⟨_, rfl⟩
  have hob : v'.ownBlock = some g := by rw [← hv']; rfl
  have hat : v'.ownBlock = v.ownBlock ∨ v'.ownBlock = some (w0.alloc (.cells #[c0, c1, c2] 32)).heap.size := by
    rcases hat0 with h | h
    · exact Or.inl (hob.trans h.symm)
    · exact Or.inr (by rw [hob, h]; simp)
  rw [hv'] at hown'
  have main : OwnN w' B ok v' (xs ++ [r]) ∧ Below B w0 w' ∧ Far w0 w' v v' := by
    have hF : Far w0 w' v v' := by
      refine ⟨by have := hg.size; simp at this; omega, fun g hlt hne => ⟨?_, ?_⟩⟩
      · exact (hg.block g (by simp; omega) (fun e => hne e.symm)).trans (((Below.refl w0.heap.size w0).alloc (Nat.le_refl _) _).block g hlt)
      · rcases hat with hat | hat
        · rw [hat]; exact hne
        · rw [hat]; intro e; injection e with e; simp at e; omega
    have hmap : ∀ (u : Value) (y : Nd), NdV w0 (fun g => ok g ∧ v.ownBlock ≠ some g) u y → NdV w' (fun g => ok g ∧ v'.ownBlock ≠ some g) u y := fun u y hy => hy.far hF
    have hcl : cs.length = xs.length * 3 := hown.1
    refine ⟨⟨cs ++ [c0, c1, c2], vs ++ [.agg #[c0, c1, c2]], by rw [List.length_append]; exact hown', by simp [hvl], fun j u hu => ?_, fun j u y hu hy => ?_⟩, ?_, hF⟩
    · by_cases hj : j < vs.length
      · rw [List.getElem?_append_left hj] at hu
        obtain ⟨d0, d1, d2, e, e0, e1, e2⟩ := h3 j u hu
        have key : ∀ (q : Nat) (d : Value), q < 3 → cs[j * 3 + q]? = some d → (cs ++ [c0, c1, c2])[j * 3 + q]? = some d := fun q d hq hd => by
          rw [List.getElem?_append_left (by omega)]; exact hd
        exact ⟨d0, d1, d2, e, key 0 _ (by omega) e0, key 1 _ (by omega) e1, key 2 _ (by omega) e2⟩
      · rw [List.getElem?_append_right (by omega)] at hu
        have hj' : j = vs.length := by
          have := (List.getElem?_eq_some_iff.1 hu).1
          simp at this
          omega
        subst hj'
        rw [Nat.sub_self] at hu
        cases hu
        have key : ∀ q, q < 3 → (cs ++ [c0, c1, c2])[vs.length * 3 + q]? = [c0, c1, c2][q]? := fun q hq => by
          rw [List.getElem?_append_right (by omega), show vs.length * 3 + q - cs.length = q by omega]
        exact ⟨c0, c1, c2, rfl, key 0 (by omega), key 1 (by omega), key 2 (by omega)⟩
    · by_cases hj : j < vs.length
      · rw [List.getElem?_append_left hj] at hu
        rw [List.getElem?_append_left (by omega)] at hy
        exact hmap u y (h4 j u y hu hy)
      · rw [List.getElem?_append_right (by omega)] at hu hy
        have hj' : j = vs.length := by
          have := (List.getElem?_eq_some_iff.1 hu).1
          simp at this
          omega
        subst hj'
        rw [Nat.sub_self] at hu
        rw [hvl, Nat.sub_self] at hy
        cases hu
        cases hy
        exact hmap _ _ hr
    · exact ((Below.refl B w0).alloc hB _).grown hg (by simp; omega) fun k hk => (hown.lt k hk).1
  rw [← hv'] at main
  exact h g cap w' main.1 main.2.1 main.2.2
end
def keyB (l : List UInt8) : Lit := .string l
theorem keyB_inj {a b : List UInt8} : keyB a = keyB b ↔ a = b := ⟨fun h => by injection h, fun h => by rw [h]⟩
theorem keyed9 : Keyed Tryz.prog 9 := string_keyed Tryz.underlying9
def JSt (h0 : Nat) (N D : Int) (w : World) (p : Bool × List Nd) (vo : Value) : Prop :=
  h0 + 8 ≤ w.heap.size ∧ w.cell? ⟨h0 + 1, 0, none⟩ = some (.int .i64 N) ∧ w.cell? ⟨h0 + 2, 0, none⟩ = some (.int .i64 D) ∧ (w.cell? ⟨h0 + 5, 0, none⟩ = some (.bool p.1) ∧ w.frozen? ⟨h0 + 5, 0, none⟩ = false) ∧ w.cell? ⟨h0 + 7, 0, none⟩ = some (.map (some (h0 + 6))) ∧
  (∃ Dm, w.ownsMap Tryz.prog 9 trueElem (h0 + 6) p.2.length Dm ∧ SetD Dm keyB (fun l => ∃ x ∈ p.2, keyN x = l)) ∧ (w.cell? ⟨h0 + 4, 0, none⟩ = some vo ∧ w.frozen? ⟨h0 + 4, 0, none⟩ = false) ∧ OwnN w (h0 + 8) (fun g => h0 + 8 ≤ g) vo p.2
def JRel (h0 : Nat) (W W' : World) (vo vo' : Value) : Prop := W.heap.size ≤ W'.heap.size ∧ ∀ g, g < W.heap.size → g ≠ h0 + 4 → g ≠ h0 + 5 → g ≠ h0 + 6 → vo.ownBlock ≠ some g → W'.heap[g]? = W.heap[g]? ∧ vo'.ownBlock ≠ some g
section
variable {h0 : Nat} {N D : Int} {w w' w'' : World} {p : Bool × List Nd} {vo vo' vo'' : Value}
theorem JRel.trans (h : JRel h0 w w' vo vo') (k : JRel h0 w' w'' vo' vo'') : JRel h0 w w'' vo vo'' :=
  ⟨Nat.le_trans h.1 k.1, fun g hg h4 h5 h6 hv => by
    obtain ⟨a1, a2⟩ := h.2 g hg h4 h5 h6 hv
    obtain ⟨b1, b2⟩ := k.2 g (Nat.lt_of_lt_of_le hg h.1) h4 h5 h6 a2
    exact ⟨b1.trans a1, b2⟩⟩
theorem JRel.of_below (h : Below w.heap.size w w') : JRel h0 w w' vo vo := ⟨h.size, fun g hg _ _ _ hv => ⟨h.block g hg, hv⟩⟩
theorem JRel.ndv {u : Value} {r : Nd} (h : JRel h0 w w' vo vo') (hv : NdV w (fun g => h0 + 8 ≤ g ∧ vo.ownBlock ≠ some g) u r) : NdV w' (fun g => h0 + 8 ≤ g ∧ vo'.ownBlock ≠ some g) u r :=
  hv.map (fun q hq hlt => World.cell?_of_block (h.2 q.block hlt (by omega) (by omega) (by omega) hq.2).1) fun g hg hlt => ⟨hg.1, (h.2 g hlt (by omega) (by omega) (by omega) hg.2).2⟩
theorem JSt.below (h : JSt h0 N D w p vo) (hb : Below w.heap.size w w') : JSt h0 N D w' p vo := by
  obtain ⟨a0, a1, a2, ⟨a3, a4⟩, a5, ⟨Dm, a6, a7⟩, ⟨a8, a9⟩, a10⟩ := h
  have key : ∀ (q : Addr) (u : Value), w.cell? q = some u → w'.cell? q = some u := fun q u hu => (hb.cell (World.block_lt_of_cell? _ _ hu)).trans hu
  exact ⟨Nat.le_trans a0 hb.size, key _ _ a1, key _ _ a2, ⟨key _ _ a3, (hb.frozen (p := ⟨h0 + 5, 0, none⟩) (show h0 + 5 < w.heap.size by omega)).trans a4⟩, key _ _ a5, ⟨Dm, mapB a6 hb, a7⟩, ⟨key _ _ a8, (hb.frozen (p := ⟨h0 + 4, 0, none⟩) (show h0 + 4 < w.heap.size by omega)).trans a9⟩, a10.below hb⟩
theorem JSt.decided (h : JSt h0 N D w p vo) : JSt h0 N D (w.setCell ⟨h0 + 5, 0, none⟩ (.bool true)) (true, p.2) vo ∧ JRel h0 w (w.setCell ⟨h0 + 5, 0, none⟩ (.bool true)) vo vo := by
  obtain ⟨a0, a1, a2, ⟨a3, a4⟩, a5, ⟨Dm, a6, a7⟩, ⟨a8, a9⟩, a10⟩ := h
  have hh : ∀ g, g ≠ h0 + 5 → (w.setCell ⟨h0 + 5, 0, none⟩ (.bool true)).heap[g]? = w.heap[g]? := fun g hg => Below.heap_setCell _ _ _ _ (by simp; omega)
  have key : ∀ (q : Addr) (u : Value), w.cell? q = some u → q.block ≠ h0 + 5 → (w.setCell ⟨h0 + 5, 0, none⟩ (.bool true)).cell? q = some u := fun q u hu hq => (World.cell?_of_block (w := w) (hh _ hq)).trans hu
  refine ⟨⟨by simpa [World.setCell] using a0, key _ _ a1 (by simp), key _ _ a2 (by simp), ⟨World.cell?_setCell_same _ _ _ a3, (World.frozen?_setCell _ _ _ _).trans a4⟩, key _ _ a5 (by simp), ⟨Dm, a6.setCell (by simp) _, a7⟩, ⟨key _ _ a8 (by simp), (World.frozen?_setCell _ _ _ _).trans a9⟩, a10.setc (by omega) (by omega)⟩, by simp [World.setCell], fun g _ _ h5 _ hv => ⟨hh g h5, hv⟩⟩
end
theorem jst_push {h0 : Nat} {N D : Int} {w w3 w7 : World} {p : Bool × List Nd} {vo : Value} {x : Nd} {gg cap : Nat} {c0 c1 c2 : Value} (h : JSt h0 N D w p vo) {Dm : DataW Unit}
    (h2 : SetD Dm keyB (fun l => ∃ y ∈ p.2, keyN y = l)) (h3 : w3.ownsMap Tryz.prog 9 trueElem (h0 + 6) (p.2.length + 1) (Dm.put (keyB (keyN x)) (.lit (.bool true)))) (hg3 : w.grownBy w3 (some (h0 + 6)))
    (h7 : OwnN w7 (h0 + 8) (fun g => h0 + 8 ≤ g) (.slice (some ⟨gg, 0, none⟩) (p.2.length + 1) cap) (p.2 ++ [.mk 0 0 []])) (hb7 : Below (h0 + 8) w3 w7) (hf7 : Far w3 w7 vo (.slice (some ⟨gg, 0, none⟩) (p.2.length + 1) cap))
    (hr : NdV w7 (fun g => h0 + 8 ≤ g ∧ g ≠ gg) (.agg #[c0, c1, c2]) x) :
    JSt h0 N D ((putAt w7 gg (p.2.length * 3) c0 c1 c2).setCell ⟨h0 + 4, 0, none⟩ (.slice (some ⟨gg, 0, none⟩) (p.2.length + 1) cap)) (p.1, p.2 ++ [x]) (.slice (some ⟨gg, 0, none⟩) (p.2.length + 1) cap) ∧
    JRel h0 w ((putAt w7 gg (p.2.length * 3) c0 c1 c2).setCell ⟨h0 + 4, 0, none⟩ (.slice (some ⟨gg, 0, none⟩) (p.2.length + 1) cap)) vo (.slice (some ⟨gg, 0, none⟩) (p.2.length + 1) cap) := by
  obtain ⟨a0, a1, a2, ⟨a3, a4⟩, a5, -, ⟨a8, a9⟩, a10⟩ := h
  have hgg : h0 + 8 ≤ gg ∧ gg < w7.heap.size := h7.lt rfl
  have hs3 : w.heap.size ≤ w3.heap.size := hg3.size
  have hs7 : w3.heap.size ≤ w7.heap.size := hb7.size
  obtain ⟨wF, hwF⟩ : ∃ wF, (putAt w7 gg (p.2.length * 3) c0 c1 c2).setCell ⟨h0 + 4, 0, none⟩ (.slice (some ⟨gg, 0, none⟩) (p.2.length + 1) cap) = wF := ⟨_, rfl⟩
  have hsF : wF.heap.size = w7.heap.size := by rw [← hwF]; simp [World.setCell, putAt_size]
  have hF7 : ∀ g, g ≠ gg → g ≠ h0 + 4 → wF.heap[g]? = w7.heap[g]? := fun g h1 h2 => by
    rw [← hwF, Below.heap_setCell _ _ _ _ (by simp; omega), putAt_heap _ _ _ _ _ _ h1]
  have hlow3 : ∀ g, g < h0 + 8 → g ≠ h0 + 4 → wF.heap[g]? = w3.heap[g]? := fun g hg h4 => (hF7 g (by omega) h4).trans (hb7.block g hg)
  have hlow : ∀ g, g < h0 + 8 → g ≠ h0 + 4 → g ≠ h0 + 6 → wF.heap[g]? = w.heap[g]? := fun g hg h4 h6 => (hlow3 g hg h4).trans (hg3.block g (by omega) (fun e => by injection e with e; omega))
  have key : ∀ (b : Nat) (u : Value), b < h0 + 8 → b ≠ h0 + 4 → b ≠ h0 + 6 → w.cell? ⟨b, 0, none⟩ = some u → wF.cell? ⟨b, 0, none⟩ = some u := fun b u h1 h4 h6 hu => (World.cell?_of_block (w := w) (a := ⟨b, 0, none⟩) (hlow b h1 h4 h6)).trans hu
  have c7 : w7.cell? ⟨h0 + 4, 0, none⟩ = some vo ∧ w7.frozen? ⟨h0 + 4, 0, none⟩ = false := by
    have e : w7.heap[h0 + 4]? = w.heap[h0 + 4]? := (hb7.block _ (by omega)).trans (hg3.block _ (by omega) (fun e => by injection e with e; omega))
    exact ⟨(World.cell?_of_block (w := w) (a := ⟨h0 + 4, 0, none⟩) e).trans a8, (World.frozen?_of_block (w := w) (a := ⟨h0 + 4, 0, none⟩) e).trans a9⟩
  have cP : (putAt w7 gg (p.2.length * 3) c0 c1 c2).cell? ⟨h0 + 4, 0, none⟩ = some vo ∧ (putAt w7 gg (p.2.length * 3) c0 c1 c2).frozen? ⟨h0 + 4, 0, none⟩ = false := by
    have e := putAt_heap w7 gg (p.2.length * 3) c0 c1 c2 (g := h0 + 4) (by omega)
    exact ⟨(World.cell?_of_block (w := w7) (a := ⟨h0 + 4, 0, none⟩) e).trans c7.1, (World.frozen?_of_block (w := w7) (a := ⟨h0 + 4, 0, none⟩) e).trans c7.2⟩
  have hrow := ownN_last h7 rfl hr
  refine ⟨?_, ?_⟩
  · rw [hwF]
    refine ⟨by rw [hsF]; omega, key _ _ (by omega) (by omega) (by omega) a1, key _ _ (by omega) (by omega) (by omega) a2, ⟨key _ _ (by omega) (by omega) (by omega) a3, (World.frozen?_of_block (w := w) (a := ⟨h0 + 5, 0, none⟩) (hlow (h0 + 5) (by omega) (by omega) (by omega))).trans a4⟩, key _ _ (by omega) (by omega) (by omega) a5, ⟨_, ?_, (h2.put (fun _ => (show WideAt.IsKeyLit (keyB _) from trivial)) (keyN x) (.lit (.bool true))).1, fun l => ?_⟩, ⟨by rw [← hwF]; exact World.cell?_setCell_same _ _ _ cP.1, by rw [← hwF]; exact (World.frozen?_setCell _ _ _ _).trans cP.2⟩, ?_⟩
    · obtain ⟨es, clock, e1, e2⟩ := h3
      refine ⟨es, clock, (hlow3 (h0 + 6) (by omega) (by omega)).trans e1, ?_⟩
      rw [List.length_append, List.length_singleton]
      exact e2
    · refine ((h2.put (fun _ => (show WideAt.IsKeyLit (keyB _) from trivial)) (keyN x) (.lit (.bool true))).2 l).trans ?_
      show ((∃ y ∈ p.2, keyN y = l) ∨ keyB l = keyB (keyN x)) ↔ ∃ y ∈ p.2 ++ [x], keyN y = l
      rw [keyB_inj]
      constructor
      · rintro (⟨y, hy, e⟩ | e)
        · exact ⟨y, List.mem_append_left _ hy, e⟩
        · exact ⟨x, by simp, e.symm⟩
      · rintro ⟨y, hy, e⟩
        rcases List.mem_append.1 hy with hy | hy
        · exact Or.inl ⟨y, hy, e⟩
        · rw [List.mem_singleton.1 hy] at e
          exact Or.inr e.symm
    · rw [← hwF]
      exact hrow.setc (by omega) (by omega)
  · rw [hwF]
    refine ⟨by rw [hsF]; omega, fun g hg h4 h5 h6 hv => ?_⟩
    have e3 := hg3.block g hg (fun e => by injection e with e; exact h6 e)
    obtain ⟨e7, hv7⟩ := hf7.2 g (Nat.lt_of_lt_of_le hg hs3) hv
    exact ⟨(hF7 g (fun e => hv7 (by rw [e]; rfl)) h4).trans (e7.trans e3), hv7⟩
theorem seen_iff {p : Bool × List Nd} {x : Nd} (hx : WfN x) (hp : ∀ y ∈ p.2, WfN y) : (∃ y ∈ p.2, keyN y = keyN x) ↔ x ∈ p.2 :=
  ⟨fun ⟨y, hy, e⟩ => by rw [← key_inj (hp y hy) hx e]; exact hy, fun h => ⟨x, h, rfl⟩⟩
end Go.Proofs.YtlnbjdlooghpeaaGreatDoor
