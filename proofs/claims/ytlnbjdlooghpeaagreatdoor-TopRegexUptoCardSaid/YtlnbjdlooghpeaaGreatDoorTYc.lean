/- TopRegex: Yc. -/
import Derived.Test.YtlnbjdlooghpeaaGreatDoorTYb
import Derived.Deep.Cut
import Derived.Deep.AppendLies
namespace Go.Proofs.YtlnbjdlooghpeaaGreatDoor
open Go.RowKit Go.Shelf
open Go.ChangeShapes (block_add)
attribute [local go_sem] Oper.semAt_some
def MirrorsAt (r : Rx) : Prop := ∀ (W : World) (H : Nat) (v : Value), RxV W (fun g => g < H) v r → H ≤ W.heap.size → Calls Tryz.prog 91 #[v] W fun e w' => ∃ v', e = .returned v' ∧ RxV w' (fun g => g < H ∨ W.heap.size ≤ g) v' (mirR r) ∧ Below W.heap.size W w'
def okM (H0 H : Nat) (g : Nat) : Prop := (g < H0 ∧ g < H) ∨ H + 6 ≤ g
def MS (W4 : World) (H0 H : Nat) (k a b : Int) (A : Option Addr) (n c : Nat) (v : Value) (xs : List Rx) (W : World) : Prop :=
  W.heap[H + 2]? = some (.cells #[.int .i64 k, .slice A n c, .int .i64 a, .int .i64 b, v] 25 (0, 0)) ∧ OwnY W (H + 6) (okM H0 H) v xs ∧ Turns (fun q => q = H + 2) W4 W
theorem MS.below {W4 W W' : World} {H0 H : Nat} {k a b : Int} {A : Option Addr} {n c : Nat} {v : Value} {xs : List Rx} (h : MS W4 H0 H k a b A n c v xs W) (hb : Below W.heap.size W W') : MS W4 H0 H k a b A n c v xs W' :=
  ⟨(hb.block _ (lt_of_block h.1)).trans h.1, h.2.1.below hb, h.2.2.trans (Turns.of_below (p := fun q => q = H + 2) hb) (fun _ _ x => x) (fun _ _ x => x)⟩
theorem MS.put {W4 W : World} {H0 H : Nat} {k a b : Int} {A : Option Addr} {n c : Nat} {v : Value} {xs : List Rx} (h : MS W4 H0 H k a b A n c v xs W) (h4 : W4.heap.size = H + 4) (o : Obj) : MS W4 H0 H k a b A n c v xs (W.putObj (H + 5) o) :=
  ⟨(World.putObj_heap_other (by omega)).trans h.1, h.2.1.put _ _ (by unfold okM; omega) (by omega), ⟨h.2.2.os, h.2.2.tape, h.2.2.output, by rw [World.putObj_size]; exact h.2.2.size, fun q hq hn => (World.putObj_heap_other (by omega)).trans (h.2.2.block q hq hn)⟩⟩
theorem info25 : (Tryz.prog.info? 25).map (fun i => (i.zero, i.size, i.bytes)) = some (some (.agg #[.int .i64 0, .slice none 0 0, .int .i64 0, .int .i64 0, .slice none 0 0]), 5, 72) := by kernel_rfl
theorem z5_one : ∀ u ∈ [Value.int .i64 0, .slice none 0 0, .int .i64 0, .int .i64 0, .slice none 0 0], u.oneCell' = true := by
  intro u hu
  simp at hu
  rcases hu with rfl | rfl | rfl | rfl <;> rfl
theorem news_keep {w w' : World} {ns : List Value} {b : Nat} (h : ∀ (j : Nat) (u : Value), ns[j]? = some u → w.cell? ((⟨b, 0, none⟩ : Addr).add j) = some u) (hb : Below w.heap.size w w') :
    ∀ (j : Nat) (u : Value), ns[j]? = some u → w'.cell? ((⟨b, 0, none⟩ : Addr).add j) = some u := fun j u hu => (hb.cell (World.block_lt_of_cell? _ _ (h j u hu))).trans (h j u hu)
def FiveC (w : World) (p : Nat) (e0 e1 e2 e3 e4 : Value) : Prop := w.cell? ⟨p, 0, none⟩ = some e0 ∧ w.cell? ⟨p, 1, none⟩ = some e1 ∧ w.cell? ⟨p, 2, none⟩ = some e2 ∧ w.cell? ⟨p, 3, none⟩ = some e3 ∧ w.cell? ⟨p, 4, none⟩ = some e4
theorem five_keep {w w' : World} {p : Nat} {e0 e1 e2 e3 e4 : Value} (h : w.cell? ⟨p, 0, none⟩ = some e0 ∧ w.cell? ⟨p, 1, none⟩ = some e1 ∧ w.cell? ⟨p, 2, none⟩ = some e2 ∧ w.cell? ⟨p, 3, none⟩ = some e3 ∧ w.cell? ⟨p, 4, none⟩ = some e4) (hb : Below w.heap.size w w') : w'.cell? ⟨p, 0, none⟩ = some e0 ∧ w'.cell? ⟨p, 1, none⟩ = some e1 ∧ w'.cell? ⟨p, 2, none⟩ = some e2 ∧ w'.cell? ⟨p, 3, none⟩ = some e3 ∧ w'.cell? ⟨p, 4, none⟩ = some e4 := by
  obtain ⟨h0, h1, h2, h3, h4⟩ := h
  have key : ∀ (j : Nat) (u : Value), w.cell? ⟨p, j, none⟩ = some u → w'.cell? ⟨p, j, none⟩ = some u := fun j u hu => (hb.cell (p := ⟨p, j, none⟩) (World.block_lt_of_cell? _ _ hu)).trans hu
  exact ⟨key _ _ h0, key _ _ h1, key _ _ h2, key _ _ h3, key _ _ h4⟩
theorem row5_cells {Z : World} {B e g k cap : Nat} {cs : List Value} {z0 z1 z2 z3 z4 : Value} (h : Z.ownsRow B e 5 (.slice (some ⟨g, 0, none⟩) (k + 1) cap) (k + 1) (cs ++ [z0, z1, z2, z3, z4])) :
    Z.cell? ⟨g, k * 5, none⟩ = some z0 ∧ Z.cell? ⟨g, k * 5 + 1, none⟩ = some z1 ∧ Z.cell? ⟨g, k * 5 + 2, none⟩ = some z2 ∧ Z.cell? ⟨g, k * 5 + 3, none⟩ = some z3 ∧ Z.cell? ⟨g, k * 5 + 4, none⟩ = some z4 ∧
    Z.frozen? ⟨g, k * 5, none⟩ = false ∧ Z.frozen? ⟨g, k * 5 + 1, none⟩ = false ∧ Z.frozen? ⟨g, k * 5 + 2, none⟩ = false ∧ Z.frozen? ⟨g, k * 5 + 3, none⟩ = false ∧ Z.frozen? ⟨g, k * 5 + 4, none⟩ = false := by
  have hl : cs.length = k * 5 := by
    have := h.1
    simp at this
    omega
  have key : ∀ q, q < 5 → Z.cell? ⟨g, k * 5 + q, none⟩ = [z0, z1, z2, z3, z4][q]? := fun q hq => by
    rw [h.cellAt (k * 5 + q) (by omega), List.getElem?_append_right (by omega), show k * 5 + q - cs.length = q by omega]
  have fr : ∀ q, q < 5 → Z.frozen? ⟨g, k * 5 + q, none⟩ = false := fun q _ => h.frozenAt (k * 5 + q)
  exact ⟨key 0 (by omega), key 1 (by omega), key 2 (by omega), key 3 (by omega), key 4 (by omega), fr 0 (by omega), fr 1 (by omega), fr 2 (by omega), fr 3 (by omega), fr 4 (by omega)⟩
theorem rxv_shapeY {W : World} {ok : Nat → Prop} {v : Value} {r : Rx} (h : RxV W ok v r) : ∃ (q0 q1 q2 : Int) (qA qB : Option Addr) (qn qc qm qd : Nat), v = .agg #[.int .i64 q0, .slice qA qn qc, .int .i64 q1, .int .i64 q2, .slice qB qm qd] := by
  cases h
  exact ⟨_, _, _, _, _, _, _, _, _, rfl⟩
theorem mir_facts {Wr cw Z : World} {H H0 j g : Nat} {A1 : Option Addr} {d1 : Nat} {cs : List Value} {u : Value} {x : Rx} (h1 : Wr.ownsRow (H + 6) 25 5 (.slice A1 j d1) j cs) (hb : Below Wr.heap.size Wr cw)
    (hr : RxV cw (fun q => q < H0 ∨ Wr.heap.size ≤ q) u x) (hg : cw.grownBy Z (Value.slice A1 j d1).ownBlock) (hat : (Value.slice A1 j d1).ownBlock = some g ∨ g = cw.heap.size) (hH0 : H0 ≤ H) :
    RxV Z (fun q => (q < H0 ∨ Wr.heap.size ≤ q) ∧ q ≠ g) u x ∧ Turns (fun q => (Value.slice A1 j d1).ownBlock = some q) Wr Z ∧ ((Value.slice A1 j d1).ownBlock = some g ∨ Wr.heap.size ≤ g) := by
  refine ⟨rxv_grown hr (owns_below' h1 hb) (by omega) (fun q e => (World.ownsRow.lt h1 q e).2) hg hat, (Turns.of_below hb).grown hg (fun k hk => hk), ?_⟩
  rcases hat with hat | hat
  · exact Or.inl hat
  · exact Or.inr (by rw [hat]; exact hb.size)
theorem mir_cells {Wr cw Z : World} {H j g cap p : Nat} {A1 : Option Addr} {d1 : Nat} {cs : List Value} {N : List Value} {e0 e1 e2 e3 e4 : Value} (h1 : Wr.ownsRow (H + 6) 25 5 (.slice A1 j d1) j cs)
    (hg : cw.grownBy Z (Value.slice A1 j d1).ownBlock) (hat : (Value.slice A1 j d1).ownBlock = some g ∨ g = cw.heap.size) (hZ : Z.ownsRow (H + 6) 25 5 (.slice (some ⟨g, 0, none⟩) (j + 1) cap) (j + 1) N) {ms : Array Value}
    (hS : FiveC cw p e0 e1 e2 e3 e4) (hp : (Value.slice A1 j d1).ownBlock ≠ some p) (hm : cw.heap[H + 2]? = some (.cells ms 25 (0, 0))) : FiveC Z p e0 e1 e2 e3 e4 ∧ Z.heap[H + 2]? = some (.cells ms 25 (0, 0)) ∧ H + 6 ≤ g ∧ g ≠ p := by
  have hpl : p < cw.heap.size := World.block_lt_of_cell? _ _ hS.1
  have hZp : Z.heap[p]? = cw.heap[p]? := hg.block _ hpl (fun e => hp e.symm)
  have key : ∀ (j : Nat) (u : Value), cw.cell? ⟨p, j, none⟩ = some u → Z.cell? ⟨p, j, none⟩ = some u := fun j u hu => (World.cell?_of_block (a := ⟨p, j, none⟩) hZp).trans hu
  refine ⟨⟨key _ _ hS.1, key _ _ hS.2.1, key _ _ hS.2.2.1, key _ _ hS.2.2.2.1, key _ _ hS.2.2.2.2⟩, (hg.block _ (lt_of_block hm) fun e => ?_).trans hm, (World.ownsRow.lt hZ g rfl).1, fun e => ?_⟩
  · have := (World.ownsRow.lt h1 _ e.symm).1
    omega
  · rcases hat with hat | hat
    · exact hp (by rw [← e]; exact hat)
    · omega
def MI (W4 : World) (H0 H : Nat) (k a b : Int) (A : Option Addr) (n c : Nat) (l : List Rx) (kk : Nat) (W : World) : Prop := ∃ v, MS W4 H0 H k a b A n c v ((l.reverse.take kk).map mirR) W
theorem mir_round {W4 Wx Wr Z Zf : World} {H H0 j g cap : Nat} {k a b : Int} {A A1 : Option Addr} {n c d1 : Nat} {l : List Rx} {cs vs : List Value} {y : Rx} {z0 z1 z2 z3 z4 r0 r1 r2 r3 r4 : Value} (hs4 : W4.heap.size = H + 4)
    (h1 : Wr.ownsRow (H + 6) 25 5 (.slice A1 j d1) j cs)
    (hO : vs.length = ((l.reverse.take j).map mirR).length ∧ (∀ (i : Nat) (u : Value), vs[i]? = some u → ∃ c0 c1 c2 c3 c4, u = .agg #[c0, c1, c2, c3, c4] ∧ cs[i * 5]? = some c0 ∧ cs[i * 5 + 1]? = some c1 ∧ cs[i * 5 + 2]? = some c2 ∧ cs[i * 5 + 3]? = some c3 ∧ cs[i * 5 + 4]? = some c4) ∧
      ∀ (i : Nat) (u : Value) (x : Rx), vs[i]? = some u → ((l.reverse.take j).map mirR)[i]? = some x → RxV Wr (fun g => okM H0 H g ∧ (Value.slice A1 j d1).ownBlock ≠ some g) u x)
    (hT4 : Turns (fun q => q = H + 2) W4 Wr) (hst : Stay (H + 4) 2 (KpAt H (H + 3)) Wx Wr) (hs : H + 6 ≤ Wr.heap.size) (hH : H0 ≤ H) (hy : l.reverse[j]? = some y) (hxl : ((l.reverse.take j).map mirR).length = j)
    (hF : RxV Z (fun q => (q < H0 ∨ Wr.heap.size ≤ q) ∧ q ≠ g) (.agg #[r0, r1, r2, r3, r4]) (mirR y) ∧ Turns (fun q => (Value.slice A1 j d1).ownBlock = some q) Wr Z ∧ ((Value.slice A1 j d1).ownBlock = some g ∨ Wr.heap.size ≤ g))
    (hZ : Z.ownsRow (H + 6) 25 5 (.slice (some ⟨g, 0, none⟩) (j + 1) cap) (j + 1) (cs ++ [z0, z1, z2, z3, z4])) (hm : Z.heap[H + 2]? = some (.cells #[.int .i64 k, .slice A n c, .int .i64 a, .int .i64 b, .slice A1 j d1] 25 (0, 0)))
    (hZf : Zf = (putAtY Z g (j * 5) r0 r1 r2 r3 r4).setCell ⟨H + 2, 4, none⟩ (.slice (some ⟨g, 0, none⟩) (j + 1) cap) ∨ Zf = putAtY (Z.setCell ⟨H + 2, 4, none⟩ (.slice (some ⟨g, 0, none⟩) (j + 1) cap)) g (j * 5) r0 r1 r2 r3 r4) :
    Stay W4.heap.size (2 + 0) (KpAt H (H + 3)) Wx Zf ∧ MI W4 H0 H k a b A n c l (j + 1) Zf := by
  suffices hsuf : Stay (H + 4) 2 (KpAt H (H + 3)) Wx Zf ∧ MI W4 H0 H k a b A n c l (j + 1) Zf by rw [hs4]; exact hsuf
  obtain ⟨h2, h3, h4⟩ := hO
  obtain ⟨hr, hT, hg⟩ := hF
  have hgB := (World.ownsRow.lt hZ g rfl).1
  have hcl : cs.length = j * 5 := h1.1
  have hlow : ∀ q, (Value.slice A1 j d1).ownBlock = some q → H + 6 ≤ q := fun q e => (World.ownsRow.lt h1 q e).1
  have hsetb : ∀ (X : World) (u : Value) (q : Nat), q ≠ H + 2 → (X.setCell ⟨H + 2, 4, none⟩ u).heap[q]? = X.heap[q]? := fun X u q hq => Below.heap_setCell X ⟨H + 2, 4, none⟩ _ q hq
  have hblk : ∀ q, q ≠ g → q ≠ H + 2 → Zf.heap[q]? = Z.heap[q]? := fun q h5 h6 => by
    rcases hZf with rfl | rfl
    · exact (hsetb _ _ q h6).trans (putAt_block h5)
    · exact (putAt_block h5).trans (hsetb _ _ q h6)
  have hsize : Zf.heap.size = Z.heap.size := by
    rcases hZf with rfl | rfl
    · rw [show ∀ (X : World) (u : Value), (X.setCell ⟨H + 2, 4, none⟩ u).heap.size = X.heap.size from fun X u => by simp [World.setCell], putAt_sizeY]
    · rw [putAt_sizeY, show ∀ (X : World) (u : Value), (X.setCell ⟨H + 2, 4, none⟩ u).heap.size = X.heap.size from fun X u => by simp [World.setCell]]
  have hmf : Zf.heap[H + 2]? = some (.cells #[.int .i64 k, .slice A n c, .int .i64 a, .int .i64 b, .slice (some ⟨g, 0, none⟩) (j + 1) cap] 25 (0, 0)) := by
    rcases hZf with rfl | rfl
    · have := Go.Joins.block_setCell (i := 4) ((putAt_block (b := g) (o := j * 5) (u0 := r0) (u1 := r1) (u2 := r2) (u3 := r3) (u4 := r4) (show H + 2 ≠ g by omega)).trans hm) (.slice (some ⟨g, 0, none⟩) (j + 1) cap)
      simpa using this
    · have := Go.Joins.block_setCell (i := 4) hm (.slice (some ⟨g, 0, none⟩) (j + 1) cap)
      exact (putAt_block (show H + 2 ≠ g by omega)).trans (by simpa using this)
  have hown : Zf.ownsRow (H + 6) 25 5 (.slice (some ⟨g, 0, none⟩) (j + 1) cap) (j + 1) (cs ++ [r0, r1, r2, r3, r4]) := by
    rcases hZf with rfl | rfl
    · have := putAt_own hZ (j * 5) r0 r1 r2 r3 r4
      rw [set5_eq cs (j * 5) _ _ _ _ _ _ _ _ _ _ hcl] at this
      exact ownsRow_setCell_other (a := ⟨H + 2, 4, none⟩) this (fun e => by simp [Value.ownBlock] at e; omega) _
    · have := putAt_own (ownsRow_setCell_other (a := ⟨H + 2, 4, none⟩) hZ (fun e => by simp [Value.ownBlock] at e; omega) (.slice (some ⟨g, 0, none⟩) (j + 1) cap)) (j * 5) r0 r1 r2 r3 r4
      rw [set5_eq cs (j * 5) _ _ _ _ _ _ _ _ _ _ hcl] at this
      exact this
  have hTf : Turns (fun q => q = H + 2 ∨ H + 6 ≤ q) Wr Zf := by
    have h5 : Turns (fun q => q = H + 2 ∨ H + 6 ≤ q) Wr Z := hT.trans (Turns.refl (fun _ => False) Z) (fun i _ x => Or.inr (hlow i x)) (fun _ _ x => x.elim)
    rcases hZf with rfl | rfl
    · exact (putAt_turns h5 (fun _ => Or.inr hgB)).set (fun _ => Or.inl rfl)
    · exact putAt_turns (h5.set (fun _ => Or.inl rfl)) (fun _ => Or.inr hgB)
  have hqs : ∀ q, q < H + 6 → q ≠ H + 2 → Zf.heap[q]? = Wr.heap[q]? := fun q h5 h6 => hTf.block q (by omega) (by omega)
  refine ⟨⟨Nat.le_trans hst.1 hTf.size, fun q h5 h6 => (hqs q (by omega) (by omega)).trans (hst.2.1 q h5 h6), fun q hq => (hqs q (by omega) (by omega)).trans (hst.2.2.1 q hq), (hqs _ (by omega) (by omega)).trans hst.2.2.2⟩, _, hmf, ?_, ?_⟩
  · rw [take_next hy, List.map_append]
    exact ownY_end hxl h1 h2 h3 h4 r0 r1 r2 r3 r4 hown hblk hT hg (hr.map (fun _ _ _ => rfl) fun q hq _ => ⟨by unfold okM; rcases hq.1 with h | h <;> omega, hq.2⟩) (by unfold okM; omega)
  · exact ⟨hTf.os.trans hT4.os, hTf.tape.trans hT4.tape, hTf.output.trans hT4.output, Nat.le_trans hT4.size hTf.size, fun q h5 h6 => (hqs q (by omega) h6).trans (hT4.block q h5 h6)⟩
theorem putAt_cell4 {Z : World} {H g o : Nat} {u0 u1 u2 u3 u4 : Value} (hg : H + 6 ≤ g) {v : Value} (hc : Z.cell? ⟨H + 2, 4, none⟩ = some v) (hf : Z.frozen? ⟨H + 2, 4, none⟩ = false) : (putAtY Z g o u0 u1 u2 u3 u4).cell? ⟨H + 2, 4, none⟩ = some v ∧ (putAtY Z g o u0 u1 u2 u3 u4).frozen? ⟨H + 2, 4, none⟩ = false :=
  ⟨(World.cell?_of_block (a := ⟨H + 2, 4, none⟩) (putAt_block (show H + 2 ≠ g by omega))).trans hc, (World.frozen?_of_block (a := ⟨H + 2, 4, none⟩) (putAt_block (show H + 2 ≠ g by omega))).trans hf⟩
theorem five_turn {Z Z' : World} {p : Nat} {e0 e1 e2 e3 e4 : Value} (h : FiveC Z p e0 e1 e2 e3 e4) (hp : Z'.heap[p]? = Z.heap[p]?) : Z'.cell? ⟨p, 0, none⟩ = some e0 ∧ Z'.cell? ⟨p, 1, none⟩ = some e1 ∧ Z'.cell? ⟨p, 2, none⟩ = some e2 ∧ Z'.cell? ⟨p, 3, none⟩ = some e3 ∧ Z'.cell? ⟨p, 4, none⟩ = some e4 := by
  have key : ∀ (j : Nat) (u : Value), Z.cell? ⟨p, j, none⟩ = some u → Z'.cell? ⟨p, j, none⟩ = some u := fun j u hu => (World.cell?_of_block (a := ⟨p, j, none⟩) hp).trans hu
  exact ⟨key _ _ h.1, key _ _ h.2.1, key _ _ h.2.2.1, key _ _ h.2.2.2.1, key _ _ h.2.2.2.2⟩
theorem set_same {Z Z' : World} {g o : Nat} {v : Value} (hb : Z'.heap[g]? = Z.heap[g]?) (hc : Z.cell? ⟨g, o, none⟩ = some v) : Z'.cell? ⟨g, o, none⟩ = some v := (World.cell?_of_block (a := ⟨g, o, none⟩) hb).trans hc
theorem fr_same {Z Z' : World} {g o : Nat} (hb : Z'.heap[g]? = Z.heap[g]?) (hc : Z.frozen? ⟨g, o, none⟩ = false) : Z'.frozen? ⟨g, o, none⟩ = false := (World.frozen?_of_block (a := ⟨g, o, none⟩) hb).trans hc
theorem mir_fin {W Wx : World} {H0 H : Nat} {k a b : Int} {A A1 : Option Addr} {n c j d1 : Nat} {set : List (UInt8 × UInt8)} {l : List Rx} {vs : List Value} (hset : RgS W (fun g => g < H0) A n c set) (hb : Below H W Wx) (hH : W.heap.size = H)
    (hvs : VsS Wx (fun g => (Value.slice A1 j d1).ownBlock = some g) A1 j d1 vs) (hj : j = (mirL l).length) (hr : ∀ (i : Nat) (u : Value) (x : Rx), vs[i]? = some u → (mirL l)[i]? = some x → RxV Wx (fun g => okM H0 H g ∧ (Value.slice A1 j d1).ownBlock ≠ some g) u x) (hlt : ∀ g, (Value.slice A1 j d1).ownBlock = some g → H + 6 ≤ g)
    (hk : -9223372036854775808 ≤ k ∧ k ≤ 9223372036854775807) (ha : -9223372036854775808 ≤ a ∧ a ≤ 9223372036854775807) (hb' : -9223372036854775808 ≤ b ∧ b ≤ 9223372036854775807) :
    RxV Wx (fun g => okM H0 H g) (.agg #[.int .i64 (if k = 5 then 6 else if k = 6 then 5 else k), .slice A n c, .int .i64 a, .int .i64 b, .slice A1 j d1]) (mirR (.mk k set a b l)) := by
  unfold mirR
  refine .mk _ a b A A1 n c j d1 set vs (mirL l) (hset.map (fun p _ hlt => World.cell?_of_block (hb.block _ (by omega))) (fun g hg hlt => Or.inl ⟨hg, by omega⟩)) (hvs.map (fun _ _ _ => rfl) (fun g hg _ => Or.inr (hlt g hg))) hj.symm ?_ ha hb' (fun i u x h1 h2 => (hr i u x h1 h2).map (fun _ _ _ => rfl) (fun g hg _ => hg.1))
  split
  · omega
  · split
    · omega
    · exact hk
theorem five_of_block {w : World} {b : Nat} {c0 c1 c2 c3 c4 : Value} {T : TypeId} (h : w.heap[b]? = some (.cells #[c0, c1, c2, c3, c4] T (0, 0))) : FiveFZ w b c0 c1 c2 c3 c4 := by
  refine ⟨⟨lt_of_block h, ?_, ?_, ?_, ?_, ?_⟩, ?_, ?_, ?_, ?_, ?_⟩ <;> simp [World.cell?, World.frozen?, h]
theorem mir_out {Wx Wy : World} {H0 H : Nat} {v v' : Value} {r : Rx} (h : RxV Wx (fun g => okM H0 H g) v r) (hy : ∀ q, q ≠ H + 2 → Wy.heap[q]? = Wx.heap[q]?) (_hs : Wy.heap.size = Wx.heap.size) (e : v = v') : RxV Wy (fun g => okM H0 H g) v' r := by
  subst e
  exact h.map (fun p hp _ => World.cell?_of_block (hy _ (by intro e; unfold okM at hp; omega))) (fun g hg _ => hg)
theorem mir_ret {W Wy : World} {H H0 : Nat} {k' a b : Int} {A A1 : Option Addr} {n c j d1 : Nat} {z0 z1 z2 z3 z4 : Value} {r : Rx}
    (hD : Wy.heap[H + 4]? = some (.deferred (some []))) (hF : FiveFZ Wy (H + 1) z0 z1 z2 z3 z4) (hr : RxV Wy (fun g => okM H0 H g) (.agg #[.int .i64 k', .slice A n c, .int .i64 a, .int .i64 b, .slice A1 j d1]) r) (hB : Below H W Wy) :
    (put5Z Wy (H + 1) (.int .i64 k') (.slice A n c) (.int .i64 a) (.int .i64 b) (.slice A1 j d1)).heap[H + 4]? = some (.deferred (some [])) ∧ Five ((put5Z Wy (H + 1) (.int .i64 k') (.slice A n c) (.int .i64 a) (.int .i64 b) (.slice A1 j d1)).putObj (H + 4) (.deferred none)) (H + 1) (.int .i64 k') (.slice A n c) (.int .i64 a) (.int .i64 b) (.slice A1 j d1) ∧
    RxV ((put5Z Wy (H + 1) (.int .i64 k') (.slice A n c) (.int .i64 a) (.int .i64 b) (.slice A1 j d1)).putObj (H + 4) (.deferred none)) (fun g => g < H0 ∨ H ≤ g) (.agg #[.int .i64 k', .slice A n c, .int .i64 a, .int .i64 b, .slice A1 j d1]) r ∧ Below H W ((put5Z Wy (H + 1) (.int .i64 k') (.slice A n c) (.int .i64 a) (.int .i64 b) (.slice A1 j d1)).putObj (H + 4) (.deferred none)) := by
  have hf5 := put5_fiveZ hF (.int .i64 k') (.slice A n c) (.int .i64 a) (.int .i64 b) (.slice A1 j d1)
  have hblk : ∀ q, q ≠ H + 1 → (put5Z Wy (H + 1) (.int .i64 k') (.slice A n c) (.int .i64 a) (.int .i64 b) (.slice A1 j d1)).heap[q]? = Wy.heap[q]? := fun q hq => by
    have := putAt_block (w := Wy) (b := H + 1) (o := 0) (u0 := .int .i64 k') (u1 := .slice A n c) (u2 := .int .i64 a) (u3 := .int .i64 b) (u4 := .slice A1 j d1) hq
    exact this
  have hB5 := put5_belowZ (u0 := .int .i64 k') (u1 := .slice A n c) (u2 := .int .i64 a) (u3 := .int .i64 b) (u4 := .slice A1 j d1) hB (show H ≤ H + 1 by omega)
  obtain ⟨X, hX⟩ : ∃ X, (put5Z Wy (H + 1) (.int .i64 k') (.slice A n c) (.int .i64 a) (.int .i64 b) (.slice A1 j d1)) = X := ⟨_, rfl⟩
  rw [hX] at hf5 hblk hB5 ⊢
  have hp : ∀ q, q ≠ H + 4 → (X.putObj (H + 4) (.deferred none)).heap[q]? = X.heap[q]? := fun q hq => World.putObj_heap_other (fun e => hq e)
  refine ⟨(hblk _ (by omega)).trans hD, ?_, ?_, ?_⟩
  · obtain ⟨h0, h1, h2, h3, h4, h5⟩ := hf5
    have key : ∀ (j : Nat) (u : Value), X.cell? ⟨H + 1, j, none⟩ = some u → (X.putObj (H + 4) (.deferred none)).cell? ⟨H + 1, j, none⟩ = some u := fun j u hu => (World.cell?_of_block (a := ⟨H + 1, j, none⟩) (hp _ (by show H + 1 ≠ H + 4; omega))).trans hu
    exact ⟨by rw [World.putObj_size]; exact h0, key _ _ h1, key _ _ h2, key _ _ h3, key _ _ h4, key _ _ h5⟩
  · refine hr.map (fun p hq _ => World.cell?_of_block ((hp _ ?_).trans (hblk _ ?_))) (fun g hg _ => ?_)
    · intro e; unfold okM at hq; omega
    · intro e; unfold okM at hq; omega
    · unfold okM at hg; omega
  · exact below_put hB5 _ _ (by omega)
set_option maxRecDepth 100000 in
set_option maxHeartbeats 4000000 in
theorem mirrored65 : ∀ r : Rx, sizeR r ≤ 1000000 → MirrorsAt r := by
  intro r
  induction r using Rx.ind with
  | h k set a b l ih =>
    intro hsz W H0 v hv hH0
    have hml : l.length ≤ 1000000 := by
      have : ∀ l : List Rx, l.length ≤ sizeL l := fun l => by
        induction l with
        | nil => simp
        | cons x l ih =>
          have : 1 ≤ sizeR x := by cases x; unfold sizeR; omega
          unfold sizeL
          simp
          omega
      have h2 := this l
      unfold sizeR at hsz
      omega
    have hih : ∀ x ∈ l, MirrorsAt x := fun x hx => ih x hx (by
      have : ∀ l : List Rx, x ∈ l → sizeR x ≤ sizeL l := fun l => by
        induction l with
        | nil => simp
        | cons y l ih =>
          intro h
          unfold sizeL
          rcases List.mem_cons.1 h with rfl | h
          · omega
          · have := ih h; omega
      have h2 := this l hx
      unfold sizeR at hsz
      omega)
    clear ih hsz
    cases hv with
    | mk _ _ _ A B n c m d _ vs _ hset hvs hlen hk ha hb hr =>
    obtain ⟨H, hH⟩ : ∃ H, W.heap.size = H := ⟨_, rfl⟩
    have HH := hide hH
    have Hset := hide hset
    have Hvs := hide (hvs.map (ok' := fun g => g < H) (fun _ _ _ => rfl) (fun g _ hlt => by omega))
    have Hr := hide (fun i v x h1 h2 => (hr i v x h1 h2).map (W' := W) (ok' := fun g => g < H0) (fun _ _ _ => rfl) (fun g hg _ => hg))
    have Hih := hide hih
    have Hlen := hide hlen
    have hm1 : m ≤ 1000000 := by omega
    clear hset hvs hr hih hlen hml
    refine (callsIn_wide (n := 8)).1 ?_
    refine callsIn_of_wp_marks Tryz.func91 rfl trivial ?_ rfl
    simp only [Tryz.ntmps91, List.size_toArray, List.length_cons, List.length_nil, Nat.reduceAdd, Nat.reduceSub, Array.replicate_succ, Array.replicate_zero, List.push_toArray, List.append_toArray, List.nil_append, List.cons_append]
    refine wpIn_wide.2 ?_
    have hB0 := bnew (bnew (Below.refl _ W) (.cells #[.int .i64 k, .slice A n c, .int .i64 a, .int .i64 b, .slice B m d] 25)) (.cells #[.int .i64 0, .slice none 0 0, .int .i64 0, .int .i64 0, .slice none 0 0] 25)
    obtain ⟨W1, hW1⟩ : ∃ W1, (W.alloc (.cells #[.int .i64 k, .slice A n c, .int .i64 a, .int .i64 b, .slice B m d] 25)).alloc (.cells #[.int .i64 0, .slice none 0 0, .int .i64 0, .int .i64 0, .slice none 0 0] 25) = W1 := ⟨_, rfl⟩
    have f0 : Five W1 H (.int .i64 k) (.slice A n c) (.int .i64 a) (.int .i64 b) (.slice B m d) := by rw [← hW1, ← hH]; exact (five_new W _ _ _ _ _ 25).keep (bnew (Below.refl _ _) _)
    have q1 : W1.heap[H + 1]? = some (.cells #[.int .i64 0, .slice none 0 0, .int .i64 0, .int .i64 0, .slice none 0 0] 25 (0, 0)) := by
      rw [← hW1, ← hH]
      have := heap_alloc_new (W.alloc (.cells #[.int .i64 k, .slice A n c, .int .i64 a, .int .i64 b, .slice B m d] 25)) (.cells #[.int .i64 0, .slice none 0 0, .int .i64 0, .int .i64 0, .slice none 0 0] 25)
      rw [World.size_alloc] at this
      exact this
    have hs1 : W1.heap.size = H + 2 := by rw [← hW1, ← hH]; simp
    rw [hW1, hH] at hB0
    go_upto_region 1 with fail
    clear hW1
    obtain ⟨_, t0, t1, t2, t3, t4⟩ := f0
    obtain ⟨W2, hW2⟩ : ∃ W2, W1.alloc (.cells #[.int .i64 k, .slice A n c, .int .i64 a, .int .i64 b, .slice B m d] 25) = W2 := ⟨_, rfl⟩
    have hb2 : Below W1.heap.size W1 W2 := by rw [← hW2]; exact bnew (Below.refl _ _) _
    have q2 : W2.heap[W1.heap.size]? = some (.cells #[.int .i64 k, .slice A n c, .int .i64 a, .int .i64 b, .slice B m d] 25 (0, 0)) := by rw [← hW2]; exact heap_alloc_new _ _
    have hs2 : W2.heap.size = H + 3 := by rw [← hW2, World.size_alloc, hs1]
    go_upto_region 2 with fail
    clear hW2
    rw [hs1] at q2
    have c24 : W2.cell? ⟨H + 2, 4, none⟩ = some (.slice B m d) := by simp [World.cell?, q2]
    have f24 : W2.frozen? ⟨H + 2, 4, none⟩ = false := by simp [World.frozen?, q2]
    obtain ⟨W3, hW3⟩ : ∃ W3, W2.setCell ⟨H + 2, 4, none⟩ (.slice none 0 0) = W3 := ⟨_, rfl⟩
    have q3 : W3.heap[H + 2]? = some (.cells #[.int .i64 k, .slice A n c, .int .i64 a, .int .i64 b, .slice none 0 0] 25 (0, 0)) := by
      rw [← hW3]
      have := Go.Joins.block_setCell (i := 4) q2 (.slice none 0 0)
      simpa using this
    have hs3 : W3.heap.size = H + 3 := by rw [← hW3]; simpa [World.setCell] using hs2
    have hbel3 : Below H W W3 := by
      rw [← hW3]
      exact (hB0.trans (hb2.mono (by omega))).setCell (by show H ≤ H + 2; omega) _
    have hlow3 : ∀ q, q ≠ H + 2 → W3.heap[q]? = W2.heap[q]? := fun q hq => by rw [← hW3]; exact Below.heap_setCell W2 ⟨H + 2, 4, none⟩ _ q (by show q ≠ H + 2; exact hq)
    have f3 : Five W3 H (.int .i64 k) (.slice A n c) (.int .i64 a) (.int .i64 b) (.slice B m d) := by
      have hblk : W3.heap[H]? = W1.heap[H]? := (hlow3 H (by omega)).trans (hb2.block H (by omega))
      have key : ∀ (j : Nat) (u : Value), W1.cell? ⟨H, j, none⟩ = some u → W3.cell? ⟨H, j, none⟩ = some u := fun j u hu => (World.cell?_of_block (a := ⟨H, j, none⟩) hblk).trans hu
      exact ⟨by omega, key _ _ t0, key _ _ t1, key _ _ t2, key _ _ t3, key _ _ t4⟩
    have q13 : W3.heap[H + 1]? = some (.cells #[.int .i64 0, .slice none 0 0, .int .i64 0, .int .i64 0, .slice none 0 0] 25 (0, 0)) := (hlow3 (H + 1) (by omega)).trans ((hb2.block (H + 1) (by omega)).trans q1)
    go_upto_region 3 with fail
    clear hW3 c24 f24 t0 t1 t2 t3 t4 hlow3 q2 hb2 hs2
    obtain ⟨_, t0, t1, t2, t3, t4⟩ := f3
    have HBk := hide (backward81 B m d W3)
    have hb34 := bnew (Below.refl _ W3) (.cells #[.slice B m d] 23)
    have cx : (W3.alloc (.cells #[.slice B m d] 23)).cell? ⟨H + 3, 0, none⟩ = some (.slice B m d) := by
      have := heap_alloc_new W3 (.cells #[.slice B m d] 23)
      rw [hs3] at this
      exact cell_of_one this
    obtain ⟨W4, hW4⟩ : ∃ W4, W3.alloc (.cells #[.slice B m d] 23) = W4 := ⟨_, rfl⟩
    have hs4 : W4.heap.size = H + 4 := by rw [← hW4, World.size_alloc, hs3]
    rw [hW4] at hb34 cx
    have HW4 := hide hW4
    clear hW4
    go_wp2_with fail
    with_reducible refine HBk.out.mono ?_
    rintro e w4 ⟨rfl, rfl⟩
    rw [HW4.out]
    clear HW4 HBk
    have q4 : W4.heap[H + 2]? = some (.cells #[.int .i64 k, .slice A n c, .int .i64 a, .int .i64 b, .slice none 0 0] 25 (0, 0)) := (hb34.block _ (by omega)).trans q3
    have hbel4 : Below H W W4 := hbel3.trans (hb34.mono (by omega))
    have HI0 := hide (show MS W4 H0 H k a b A n c (.slice none 0 0) [] W4 from ⟨q4, OwnY.nil _ _ _, Turns.refl _ _⟩)
    have Hvs4 := hide (Hvs.out.below (hbel4.mono (by omega)))
    have Hb4 := hide hbel4
    have Hf4 := hide (show W4.heap[H]? = W3.heap[H]? ∧ W4.heap[H + 1]? = W3.heap[H + 1]? from ⟨hb34.block _ (by omega), hb34.block _ (by omega)⟩)
    clear q3 q4 hbel3 hb34 hbel4
    go_wp2_with fail
    obtain ⟨i0, hi, hz0, hz1, hz2⟩ := info_parts info25
    refine (wpIn_wide (n := 8)).1 ?_
    refine range_mid (gf := 148) (first := #[]) (caps := #[.pointer (some ⟨H + 3, 0, none⟩)]) rfl (enters_of Tryz.func148 (by kernel_rfl) rfl) (back91' H (H + 3) B m d vs W4 cx Hvs4.out (by omega)) (fun _ => rfl)
      (fun A B C h k => h.trans k) (fun W l o h1 => ⟨fun q hq => World.putObj_heap_other (by omega), World.putObj_heap_other (by omega)⟩)
      (MI W4 H0 H k a b A n c l)
      (fun kk A B ⟨v, h⟩ hb => ⟨v, h.below hb⟩) (fun kk A o ⟨v, h⟩ => ⟨v, by rw [hs4]; exact h.put hs4 o⟩) ⟨_, HI0.out⟩
      (fun kk x bb Wx => ∃ (v : Value) (p : Nat) (q0 q1 q2 : Int) (qA qB : Option Addr) (qn qc qm qd : Nat), vs[x]? = some (.agg #[.int .i64 q0, .slice qA qn qc, .int .i64 q1, .int .i64 q2, .slice qB qm qd]) ∧ bb = { tmps := #[.agg #[.int .i64 k, .slice A n c, .int .i64 a, .int .i64 b, .slice B m d], .pointer (some ⟨H, 0, none⟩), .pointer (some ⟨H + 1, 0, none⟩), .pointer (some ⟨H + 2, 0, none⟩), undef, .pointer (some ⟨p, 0, none⟩),
        .agg #[.int .i64 k, .slice A n c, .int .i64 a, .int .i64 b, .slice B m d], .pointer (some ⟨H + 2, 4, none⟩), .pointer (some ⟨H, 4, none⟩), .slice B m d, .func (.func 148) #[] #[.pointer (some ⟨H + 3, 0, none⟩)], .int .i64 (x : Int), .agg #[.int .i64 q0, .slice qA qn qc, .int .i64 q1, .int .i64 q2, .slice qB qm qd], undef, undef, undef, undef, undef, undef, undef, undef, undef, undef, undef, undef, undef, undef, undef, undef, undef, undef], defers := [] } ∧
        MS W4 H0 H k a b A n c v ((l.reverse.take kk).map mirR) Wx ∧ FiveC Wx p (.int .i64 q0) (.slice qA qn qc) (.int .i64 q1) (.int .i64 q2) (.slice qB qm qd) ∧ H + 6 ≤ p ∧ v.ownBlock ≠ some p)
      (fun kk x bb A o ⟨v, p, q0, q1, q2, qA, qB, qn, qc, qm, qd, h1, h2, h3, h4, h5, h6⟩ => ⟨v, p, q0, q1, q2, qA, qB, qn, qc, qm, qd, h1, h2, by rw [hs4]; exact h3.put hs4 o, by
        have key : ∀ (j : Nat) (u : Value), A.cell? ⟨p, j, none⟩ = some u → (A.putObj (W4.heap.size + 1) o).cell? ⟨p, j, none⟩ = some u := fun j u hu => (World.cell?_of_block (a := ⟨p, j, none⟩) (World.putObj_heap_other (by show p ≠ _; omega))).trans hu
        exact ⟨key _ _ h4.1, key _ _ h4.2.1, key _ _ h4.2.2.1, key _ _ h4.2.2.2.1, key _ _ h4.2.2.2.2⟩, h5, h6⟩)
      ?assign ?body ?done
    case assign =>
      rintro l' j x Wx hx ⟨v, hMS⟩ hsz
      have hxm : x < m := by
        have := List.mem_of_getElem? hx
        simpa using this
      obtain ⟨y, hy⟩ : ∃ y, l[x]? = some y := ⟨_, List.getElem?_eq_getElem (by rw [Hlen.out]; exact hxm)⟩
      obtain ⟨u, hvx⟩ : ∃ u, vs[x]? = some u := ⟨_, List.getElem?_eq_getElem (by rw [Hvs4.out.2.2.1]; exact hxm)⟩
      obtain ⟨q0, q1, q2, qA, qB, qn, qc, qm, qd, rfl⟩ := rxv_shapeY (Hr.out x _ y hvx hy)
      have hvd : vs.getD x undef = .agg #[.int .i64 q0, .slice qA qn qc, .int .i64 q1, .int .i64 q2, .slice qB qm qd] := by rw [List.getD_eq_getElem?_getD, hvx]; rfl
      simp only [hvd]
      have HM := hide hMS
      have Hvx := hide hvx
      clear hMS hvx hvd hx hy
      gi_wp2
      have hb := bnew (Below.refl _ Wx) (.cells #[.int .i64 q0, .slice qA qn qc, .int .i64 q1, .int .i64 q2, .slice qB qm qd] 25)
      have hf := five_new Wx (.int .i64 q0) (.slice qA qn qc) (.int .i64 q1) (.int .i64 q2) (.slice qB qm qd) 25
      refine ⟨⟨v, Wx.heap.size, q0, q1, q2, qA, qB, qn, qc, qm, qd, Hvx.out, rfl, HM.out.below hb, ⟨hf.2.1, hf.2.2.1, hf.2.2.2.1, hf.2.2.2.2.1, hf.2.2.2.2.2⟩, by omega, fun e => by have := HM.out.2.1.lt e; omega⟩, hb.size, fun q h1 h2 => hb.block _ (by omega), fun q hq => hb.block _ (by omega), hb.block _ (by omega)⟩
    case body =>
      rintro l' j x bb Wx hx ⟨v, p, q0, q1, q2, qA, qB, qn, qc, qm, qd, hvx, rfl, hMS, hfc, hp6, hpv⟩ hsz
      have hxm : x < m := by
        have := List.mem_of_getElem? hx
        simpa using this
      have hjm : j < m := by
        have := (List.getElem?_eq_some_iff.1 hx).1
        simpa using this
      have hxj : x = m - 1 - j := by
        rw [List.getElem?_reverse (by simpa using hjm), List.length_range, List.getElem?_range (by omega)] at hx
        exact (Option.some.inj hx).symm
      obtain ⟨y, hy⟩ : ∃ y, l[x]? = some y := ⟨_, List.getElem?_eq_getElem (by rw [Hlen.out]; exact hxm)⟩
      have hyr : l.reverse[j]? = some y := by
        rw [List.getElem?_reverse (by rw [Hlen.out]; exact hjm), Hlen.out, ← hxj]
        exact hy
      have hxl : ((l.reverse.take j).map mirR).length = j := by
        rw [List.length_map, List.length_take, List.length_reverse, Hlen.out]
        omega
      have hMS := hMS.below (bel_drew Wx)
      have hfc : FiveC Wx.drew p (.int .i64 q0) (.slice qA qn qc) (.int .i64 q1) (.int .i64 q2) (.slice qB qm qd) := five_keep hfc (bel_drew Wx)
      have hst : Stay (H + 4) 2 (KpAt H (H + 3)) Wx Wx.drew := ⟨Nat.le_refl _, fun _ _ _ => rfl, fun _ _ => rfl, rfl⟩
      have hsz' : H + 6 ≤ Wx.drew.heap.size := by show H + 6 ≤ Wx.heap.size; omega
      refine wpIn_block ?_
      refine region_round (S := fun w' => w'.cell? ⟨p, 0, none⟩ = some (.int .i64 q0) ∧ w'.cell? ⟨p, 1, none⟩ = some (.slice qA qn qc) ∧ w'.cell? ⟨p, 2, none⟩ = some (.int .i64 q1) ∧ w'.cell? ⟨p, 3, none⟩ = some (.int .i64 q2) ∧ w'.cell? ⟨p, 4, none⟩ = some (.slice qB qm qd)) l' _ (by kernel_rfl) (fun ⟨_, _, h⟩ => h) (by kernel_rfl) ?_
      obtain ⟨Wr, hWr⟩ : ∃ Wr, Wx.drew = Wr := ⟨_, rfl⟩
      rw [hWr] at hMS hfc hst hsz' ⊢
      obtain ⟨A1, j', d1, -, hv1, hj', -, -⟩ := hMS.2.1.s
      rw [hxl] at hj'
      subst hj'
      subst hv1
      have hrx := (Hr.out x _ y hvx hy).kept (W' := Wr) ((Hb4.out.trans (hMS.2.2.below (by omega) (fun q e => by omega))).mono (by rw [HH.out]; exact Nat.le_refl _))
      have HC := hide (fun cw (hb : Below Wr.heap.size Wr cw) => (Hih.out y (List.mem_of_getElem? hy) cw H0 _ (hrx.kept hb) (by have := hb.size; omega)).mono (R' := fun e w' => ∃ v', e = .returned v' ∧ RxV w' (fun g => g < H0 ∨ Wr.heap.size ≤ g) v' (mirR y) ∧ Below cw.heap.size cw w') (fun e w' ⟨v', h1, h2, h3⟩ => ⟨v', h1, h2.map (fun _ _ _ => rfl) (fun g hg _ => by rcases hg with hg | hg; exact Or.inl hg; exact Or.inr (Nat.le_trans hb.size hg)), h3⟩))
      obtain ⟨hmb, ⟨cs, vs', h1, h2, h3, h4⟩, hT4⟩ := hMS
      rw [hxl] at h1
      have H1 := hide h1
      have HO := hide (And.intro h2 (And.intro h3 h4))
      have HT4 := hide hT4
      have HST := hide hst
      have HsR := hide hsz'
      have HfR := hide (show H0 ≤ H by omega)
      have HPV := hide hpv
      have Hp6 := hide hp6
      have Hy := hide hyr
      have Hxl := hide hxl
      have Bx := hide hmb
      have C4 := hide (show Wr.cell? ⟨H + 2, 4, none⟩ = some (.slice A1 j' d1) by simp [World.cell?, hmb])
      have BL := hide (Below.refl Wr.heap.size Wr)
      have hjb : j' ≤ 1000000 := by omega
      have hS : Wr.cell? ⟨p, 0, none⟩ = some (.int .i64 q0) ∧ Wr.cell? ⟨p, 1, none⟩ = some (.slice qA qn qc) ∧ Wr.cell? ⟨p, 2, none⟩ = some (.int .i64 q1) ∧ Wr.cell? ⟨p, 3, none⟩ = some (.int .i64 q2) ∧ Wr.cell? ⟨p, 4, none⟩ = some (.slice qB qm qd) := hfc
      clear hx hvx hp6 hpv hsz hxj hy hyr hxl hst hsz' hWr hrx h1 h2 h3 h4 hT4 hmb hfc
      refine wpAnyH_take (i := 0) (v := .pointer (some ⟨H + 2, 4, none⟩)) rfl (by kernel_rfl) (by kernel_rfl) (by kernel_rfl) (fun _ _ _ h => h) (Or.inl ⟨by rfl, ?_⟩) hS ?_
      · intro w hw
        go_simp
      simp only [Act.put, List.setIfInBounds_toArray]
      refine wpAnyH_take (i := 2) (v := .agg #[.int .i64 q0, .slice qA qn qc, .int .i64 q1, .int .i64 q2, .slice qB qm qd]) rfl (by kernel_rfl) (by kernel_rfl) (by kernel_rfl) (fun _ _ _ h => h) (Or.inl ⟨by rfl, ?_⟩) hS ?_
      · intro w hw
        (try dsimp only at hw)
        go_simp
      simp only [Act.put]
      refine wpAnyH_ready (rs := [1, 3, 5]) (by kernel_rfl) (by simp) (AllReadyH.cons rfl (fun K hK => ?_) (AllReadyH.cons rfl (fun K hK => ?_) (AllReadyH.cons rfl (fun K hK => ?_) AllReadyH.nil)))
      · rw [if_pos (by rfl)]
        have c4 := C4.out
        go_simp
        refine hK.out _ _ hS (fun _ => ?_)
        clear hK K c4
        try simp only [Act.put, List.setIfInBounds_toArray, List.set_cons_zero, List.set_cons_succ]
        refine wpAnyH_take (i := 4) (v := .int .i64 (j' : Int)) rfl (by kernel_rfl) (by kernel_rfl) (by kernel_rfl) (fun _ _ _ h => h) (Or.inl ⟨by rfl, ?_⟩) hS ?_
        · intro w hw
          go_simp
        try simp only [Act.put, List.setIfInBounds_toArray]
        refine wpAnyH_ready (rs := [3, 5]) (by kernel_rfl) (by simp) (AllReadyH.cons rfl (fun K hK => ?_) (AllReadyH.cons rfl (fun K hK => ?_) AllReadyH.nil))
        · rw [if_pos (by rfl)]
          go_simp
          with_reducible refine (HC.out _ BL.out).mono ?_
          rintro e wc ⟨vr, rfl, hvr, hbc⟩
          obtain ⟨r0, r1, r2, rA, rB, rn, rc, rm, rd, rfl⟩ := rxv_shapeY hvr
          have RX := hide hvr
          have hS2 := five_keep hS hbc
          have C4x := hide ((hbc.cell (p := ⟨H + 2, 4, none⟩) (World.block_lt_of_cell? _ _ C4.out)).trans C4.out)
          have Bxx := hide ((hbc.block _ (lt_of_block Bx.out)).trans Bx.out)
          have BLx := hide (bgo BL.out hbc)
          clear C4 BL hS Bx
          have C4 := hide C4x.out
          have BL := hide BLx.out
          have hS := hS2
          have Bx := hide Bxx.out
          clear C4x BLx hS2 Bxx hbc
          refine hK.out _ _ hS (fun _ => ?_)
          clear hK K
          try simp only [Act.put, List.setIfInBounds_toArray, List.set_cons_zero, List.set_cons_succ]
          refine wpAnyH_ready (rs := [5]) (by kernel_rfl) (by simp) (AllReadyH.cons rfl (fun K hK => ?_) AllReadyH.nil)
          rw [if_pos (by rfl)]
          go_simp
          obtain ⟨wa, hwa⟩ : ∃ wa, wc.alloc (.cells #[.int .i64 0, .slice none 0 0, .int .i64 0, .int .i64 0, .slice none 0 0] 25) = wa := ⟨_, rfl⟩
          obtain ⟨NB, hNB⟩ : ∃ NB, wc.heap.size = NB := ⟨_, rfl⟩
          have hba : Below wc.heap.size wc wa := by rw [← hwa]; exact bnew (Below.refl _ _) _
          have NW := hide (show ∀ (j : Nat) (u : Value), [Value.int .i64 0, .slice none 0 0, .int .i64 0, .int .i64 0, .slice none 0 0][j]? = some u → wa.cell? ((⟨NB, 0, none⟩ : Addr).add j) = some u by rw [← hwa]; exact news5 (T := 25) hNB (Below.refl _ _))
          rw [hwa]
          try rw [hNB]
          clear hwa hNB
          have hS2 := five_keep hS hba
          have C4x := hide ((hba.cell (p := ⟨H + 2, 4, none⟩) (World.block_lt_of_cell? _ _ C4.out)).trans C4.out)
          have Bxx := hide ((hba.block _ (lt_of_block Bx.out)).trans Bx.out)
          have BLx := hide (bgo BL.out hba)
          have RXx := hide (RX.out.kept hba)
          clear RX
          have RX := hide RXx.out
          clear RXx
          clear C4 BL hS Bx
          have C4 := hide C4x.out
          have BL := hide BLx.out
          have hS := hS2
          have Bx := hide Bxx.out
          clear C4x BLx hS2 Bxx hba
          refine hK.out _ _ hS (fun _ => ?_)
          clear hK K
          try simp only [Act.put, List.setIfInBounds_toArray, List.set_cons_zero, List.set_cons_succ]
          refine wpAnyH_ready (rs := [6]) (by kernel_rfl) (by simp) (AllReadyH.cons rfl (fun K hK => ?_) AllReadyH.nil)
          refine step_append_lies _ (by rfl) (.tmp 14) (.tmp 18) 23 (by rfl) (H + 6) 25 i0 _ 5 72 Tryz.underlying23 hi hz0 hz1 hz2 rfl (by omega) (.slice A1 j' d1) j' cs (by rfl) (owns_below' H1.out BL.out) ⟨NB, 0, none⟩ 1 1 [.int .i64 0, .slice none 0 0, .int .i64 0, .int .i64 0, .slice none 0 0] (by rfl) (by rfl) NW.out z5_one (by omega) (by unfold maxLen; omega) (by omega) (by have := BL.out.size; have := HsR.out; omega) wa.heap.size rfl ?_
          intro g cap Z hownZ hgrow hat hltZ
          have HF := hide (mir_facts H1.out BL.out RX.out hgrow hat HfR.out)
          obtain ⟨hS6, hm6, hgH, hgp⟩ := mir_cells H1.out hgrow hat hownZ hS HPV.out Bx.out
          obtain ⟨y0, y1, y2, y3, y4, yf0, yf1, yf2, yf3, yf4⟩ := row5_cells hownZ
          refine hK.out _ _ hS6 (fun _ => ?_)
          clear hK K
          try simp only [Act.put, List.setIfInBounds_toArray]
          refine wpAnyH_take (i := 7) (v := .pointer (some ⟨g, j' * 5, none⟩)) rfl (by kernel_rfl) (by kernel_rfl) (by kernel_rfl) (fun _ _ _ h => h) (Or.inl ⟨by rfl, ?_⟩) hS6 ?_
          · intro w hw
            go_simp
            try (intro hbad; exact absurd hbad (by omega))
          try simp only [Act.put]
          refine wpAnyH_take (i := 9) (v := .pointer (some ⟨H + 2, 4, none⟩)) rfl (by kernel_rfl) (by kernel_rfl) (by kernel_rfl) (fun _ _ _ h => h) (Or.inl ⟨by rfl, ?_⟩) hS6 ?_
          · intro w hw
            go_simp
            try (intro hbad; exact absurd hbad (by omega))
          try simp only [Act.put]
          refine wpAnyH_ready (rs := [8, 10]) (by kernel_rfl) (by simp) (AllReadyH.cons rfl (fun K hK => ?_) (AllReadyH.cons rfl (fun K hK => ?_) AllReadyH.nil))
          · rw [if_pos (by rfl)]
            have c46 : Z.cell? ⟨H + 2, 4, none⟩ = some (.slice A1 j' d1) := by simp [World.cell?, hm6]
            have f46 : Z.frozen? ⟨H + 2, 4, none⟩ = false := by simp [World.frozen?, hm6]
            obtain ⟨c47, f47⟩ := putAt_cell4 (o := j' * 5) (u0 := .int .i64 r0) (u1 := .slice rA rn rc) (u2 := .int .i64 r1) (u3 := .int .i64 r2) (u4 := .slice rB rm rd) hgH c46 f46
            have hS7 := five_turn hS6 (putAt_block (w := Z) (o := j' * 5) (u0 := .int .i64 r0) (u1 := .slice rA rn rc) (u2 := .int .i64 r1) (u3 := .int .i64 r2) (u4 := .slice rB rm rd) (Ne.symm hgp))
            go_simp
            refine hK.out _ _ hS7 (fun _ => ?_)
            clear hK K
            change wpAnyH _ _ _ _ _ _ _ _ (putAtY Z g (j' * 5) (.int .i64 r0) (.slice rA rn rc) (.int .i64 r1) (.int .i64 r2) (.slice rB rm rd))
            obtain ⟨Z2, hZ2⟩ : ∃ Z2, putAtY Z g (j' * 5) (.int .i64 r0) (.slice rA rn rc) (.int .i64 r1) (.int .i64 r2) (.slice rB rm rd) = Z2 := ⟨_, rfl⟩
            rw [hZ2] at c47 f47 ⊢
            have hS8 := five_turn hS6 (((Below.heap_setCell Z2 ⟨H + 2, 4, none⟩ (.slice (some ⟨g, 0, none⟩) (j' + 1) cap) p (by show p ≠ H + 2; have := Hp6.out; omega)).trans (by rw [← hZ2]; exact putAt_block (Ne.symm hgp))))
            have HZ2 := hide hZ2
            clear hZ2
            refine wpAnyH_ready (rs := [10]) (by kernel_rfl) (by simp) (AllReadyH.cons rfl (fun K hK => ?_) AllReadyH.nil)
            rw [if_pos (by rfl)]
            go_simp
            refine hK.out _ _ hS8 (fun _ => ?_)
            clear hK K
            refine wpAnyH_done (by kernel_rfl) ?_ _
            exact mir_round hs4 H1.out HO.out HT4.out HST.out HsR.out HfR.out Hy.out Hxl.out HF.out hownZ hm6 (Or.inl (by rw [HZ2.out]))
          · rw [if_pos (by rfl)]
            have c46 : Z.cell? ⟨H + 2, 4, none⟩ = some (.slice A1 j' d1) := by simp [World.cell?, hm6]
            have f46 : Z.frozen? ⟨H + 2, 4, none⟩ = false := by simp [World.frozen?, hm6]
            go_simp
            have hb8 : ∀ q, q ≠ H + 2 → (Z.setCell ⟨H + 2, 4, none⟩ (.slice (some ⟨g, 0, none⟩) (j' + 1) cap)).heap[q]? = Z.heap[q]? := fun q hq => Below.heap_setCell Z ⟨H + 2, 4, none⟩ _ q hq
            have hS7 := five_turn hS6 (hb8 p (by have := Hp6.out; omega))
            refine hK.out _ _ hS7 (fun _ => ?_)
            clear hK K
            obtain ⟨Z2, hZ2⟩ : ∃ Z2, Z.setCell ⟨H + 2, 4, none⟩ (.slice (some ⟨g, 0, none⟩) (j' + 1) cap) = Z2 := ⟨_, rfl⟩
            rw [hZ2] at hb8 ⊢
            have hgb := hb8 g (by omega)
            have hS8 := five_turn hS6 ((putAt_block (w := Z2) (o := j' * 5) (u0 := .int .i64 r0) (u1 := .slice rA rn rc) (u2 := .int .i64 r1) (u3 := .int .i64 r2) (u4 := .slice rB rm rd) (Ne.symm hgp)).trans (hb8 p (by have := Hp6.out; omega)))
            have y0 := set_same hgb y0
            have yf0 := fr_same hgb yf0
            have y1 := set_same hgb y1
            have yf1 := fr_same hgb yf1
            have y2 := set_same hgb y2
            have yf2 := fr_same hgb yf2
            have y3 := set_same hgb y3
            have yf3 := fr_same hgb yf3
            have y4 := set_same hgb y4
            have yf4 := fr_same hgb yf4
            have HZ2 := hide hZ2
            clear hZ2 c46 f46 hgb hb8
            refine wpAnyH_ready (rs := [8]) (by kernel_rfl) (by simp) (AllReadyH.cons rfl (fun K hK => ?_) AllReadyH.nil)
            rw [if_pos (by rfl)]
            go_simp
            refine hK.out _ _ hS8 (fun _ => ?_)
            clear hK K
            refine wpAnyH_done (by kernel_rfl) ?_ _
            exact mir_round hs4 H1.out HO.out HT4.out HST.out HsR.out HfR.out Hy.out Hxl.out HF.out hownZ hm6 (Or.inr (by first | (rw [HZ2.out]; done) | (rw [HZ2.out]; rfl)))
        · rw [if_pos (by rfl)]
          go_simp
          obtain ⟨wa, hwa⟩ : ∃ wa, Wr.alloc (.cells #[.int .i64 0, .slice none 0 0, .int .i64 0, .int .i64 0, .slice none 0 0] 25) = wa := ⟨_, rfl⟩
          obtain ⟨NB, hNB⟩ : ∃ NB, Wr.heap.size = NB := ⟨_, rfl⟩
          have hba : Below Wr.heap.size Wr wa := by rw [← hwa]; exact bnew (Below.refl _ _) _
          have NW := hide (show ∀ (j : Nat) (u : Value), [Value.int .i64 0, .slice none 0 0, .int .i64 0, .int .i64 0, .slice none 0 0][j]? = some u → wa.cell? ((⟨NB, 0, none⟩ : Addr).add j) = some u by rw [← hwa]; exact news5 (T := 25) hNB (Below.refl _ _))
          rw [hwa]
          try rw [hNB]
          clear hwa hNB
          have hS2 := five_keep hS hba
          have C4x := hide ((hba.cell (p := ⟨H + 2, 4, none⟩) (World.block_lt_of_cell? _ _ C4.out)).trans C4.out)
          have Bxx := hide ((hba.block _ (lt_of_block Bx.out)).trans Bx.out)
          have BLx := hide (bgo BL.out hba)
          clear C4 BL hS Bx
          have C4 := hide C4x.out
          have BL := hide BLx.out
          have hS := hS2
          have Bx := hide Bxx.out
          clear C4x BLx hS2 Bxx hba
          refine hK.out _ _ hS (fun _ => ?_)
          clear hK K
          try simp only [Act.put, List.setIfInBounds_toArray, List.set_cons_zero, List.set_cons_succ]
          refine wpAnyH_ready (rs := [3]) (by kernel_rfl) (by simp) (AllReadyH.cons rfl (fun K hK => ?_) AllReadyH.nil)
          rw [if_pos (by rfl)]
          go_simp
          with_reducible refine (HC.out _ BL.out).mono ?_
          rintro e wc ⟨vr, rfl, hvr, hbc⟩
          obtain ⟨r0, r1, r2, rA, rB, rn, rc, rm, rd, rfl⟩ := rxv_shapeY hvr
          have RX := hide hvr
          have hS2 := five_keep hS hbc
          have C4x := hide ((hbc.cell (p := ⟨H + 2, 4, none⟩) (World.block_lt_of_cell? _ _ C4.out)).trans C4.out)
          have Bxx := hide ((hbc.block _ (lt_of_block Bx.out)).trans Bx.out)
          have BLx := hide (bgo BL.out hbc)
          have NWx := hide (fun j u h => news_keep NW.out hbc j u h)
          clear NW
          have NW := hide NWx.out
          clear NWx
          clear C4 BL hS Bx
          have C4 := hide C4x.out
          have BL := hide BLx.out
          have hS := hS2
          have Bx := hide Bxx.out
          clear C4x BLx hS2 Bxx hbc
          refine hK.out _ _ hS (fun _ => ?_)
          clear hK K
          try simp only [Act.put, List.setIfInBounds_toArray, List.set_cons_zero, List.set_cons_succ]
          refine wpAnyH_ready (rs := [6]) (by kernel_rfl) (by simp) (AllReadyH.cons rfl (fun K hK => ?_) AllReadyH.nil)
          refine step_append_lies _ (by rfl) (.tmp 14) (.tmp 18) 23 (by rfl) (H + 6) 25 i0 _ 5 72 Tryz.underlying23 hi hz0 hz1 hz2 rfl (by omega) (.slice A1 j' d1) j' cs (by rfl) (owns_below' H1.out BL.out) ⟨NB, 0, none⟩ 1 1 [.int .i64 0, .slice none 0 0, .int .i64 0, .int .i64 0, .slice none 0 0] (by rfl) (by rfl) NW.out z5_one (by omega) (by unfold maxLen; omega) (by omega) (by have := BL.out.size; have := HsR.out; omega) wc.heap.size rfl ?_
          intro g cap Z hownZ hgrow hat hltZ
          have HF := hide (mir_facts H1.out BL.out RX.out hgrow hat HfR.out)
          obtain ⟨hS6, hm6, hgH, hgp⟩ := mir_cells H1.out hgrow hat hownZ hS HPV.out Bx.out
          obtain ⟨y0, y1, y2, y3, y4, yf0, yf1, yf2, yf3, yf4⟩ := row5_cells hownZ
          refine hK.out _ _ hS6 (fun _ => ?_)
          clear hK K
          try simp only [Act.put, List.setIfInBounds_toArray]
          refine wpAnyH_take (i := 7) (v := .pointer (some ⟨g, j' * 5, none⟩)) rfl (by kernel_rfl) (by kernel_rfl) (by kernel_rfl) (fun _ _ _ h => h) (Or.inl ⟨by rfl, ?_⟩) hS6 ?_
          · intro w hw
            go_simp
            try (intro hbad; exact absurd hbad (by omega))
          try simp only [Act.put]
          refine wpAnyH_take (i := 9) (v := .pointer (some ⟨H + 2, 4, none⟩)) rfl (by kernel_rfl) (by kernel_rfl) (by kernel_rfl) (fun _ _ _ h => h) (Or.inl ⟨by rfl, ?_⟩) hS6 ?_
          · intro w hw
            go_simp
            try (intro hbad; exact absurd hbad (by omega))
          try simp only [Act.put]
          refine wpAnyH_ready (rs := [8, 10]) (by kernel_rfl) (by simp) (AllReadyH.cons rfl (fun K hK => ?_) (AllReadyH.cons rfl (fun K hK => ?_) AllReadyH.nil))
          · rw [if_pos (by rfl)]
            have c46 : Z.cell? ⟨H + 2, 4, none⟩ = some (.slice A1 j' d1) := by simp [World.cell?, hm6]
            have f46 : Z.frozen? ⟨H + 2, 4, none⟩ = false := by simp [World.frozen?, hm6]
            obtain ⟨c47, f47⟩ := putAt_cell4 (o := j' * 5) (u0 := .int .i64 r0) (u1 := .slice rA rn rc) (u2 := .int .i64 r1) (u3 := .int .i64 r2) (u4 := .slice rB rm rd) hgH c46 f46
            have hS7 := five_turn hS6 (putAt_block (w := Z) (o := j' * 5) (u0 := .int .i64 r0) (u1 := .slice rA rn rc) (u2 := .int .i64 r1) (u3 := .int .i64 r2) (u4 := .slice rB rm rd) (Ne.symm hgp))
            go_simp
            refine hK.out _ _ hS7 (fun _ => ?_)
            clear hK K
            change wpAnyH _ _ _ _ _ _ _ _ (putAtY Z g (j' * 5) (.int .i64 r0) (.slice rA rn rc) (.int .i64 r1) (.int .i64 r2) (.slice rB rm rd))
            obtain ⟨Z2, hZ2⟩ : ∃ Z2, putAtY Z g (j' * 5) (.int .i64 r0) (.slice rA rn rc) (.int .i64 r1) (.int .i64 r2) (.slice rB rm rd) = Z2 := ⟨_, rfl⟩
            rw [hZ2] at c47 f47 ⊢
            have hS8 := five_turn hS6 (((Below.heap_setCell Z2 ⟨H + 2, 4, none⟩ (.slice (some ⟨g, 0, none⟩) (j' + 1) cap) p (by show p ≠ H + 2; have := Hp6.out; omega)).trans (by rw [← hZ2]; exact putAt_block (Ne.symm hgp))))
            have HZ2 := hide hZ2
            clear hZ2
            refine wpAnyH_ready (rs := [10]) (by kernel_rfl) (by simp) (AllReadyH.cons rfl (fun K hK => ?_) AllReadyH.nil)
            rw [if_pos (by rfl)]
            go_simp
            refine hK.out _ _ hS8 (fun _ => ?_)
            clear hK K
            refine wpAnyH_done (by kernel_rfl) ?_ _
            exact mir_round hs4 H1.out HO.out HT4.out HST.out HsR.out HfR.out Hy.out Hxl.out HF.out hownZ hm6 (Or.inl (by rw [HZ2.out]))
          · rw [if_pos (by rfl)]
            have c46 : Z.cell? ⟨H + 2, 4, none⟩ = some (.slice A1 j' d1) := by simp [World.cell?, hm6]
            have f46 : Z.frozen? ⟨H + 2, 4, none⟩ = false := by simp [World.frozen?, hm6]
            go_simp
            have hb8 : ∀ q, q ≠ H + 2 → (Z.setCell ⟨H + 2, 4, none⟩ (.slice (some ⟨g, 0, none⟩) (j' + 1) cap)).heap[q]? = Z.heap[q]? := fun q hq => Below.heap_setCell Z ⟨H + 2, 4, none⟩ _ q hq
            have hS7 := five_turn hS6 (hb8 p (by have := Hp6.out; omega))
            refine hK.out _ _ hS7 (fun _ => ?_)
            clear hK K
            obtain ⟨Z2, hZ2⟩ : ∃ Z2, Z.setCell ⟨H + 2, 4, none⟩ (.slice (some ⟨g, 0, none⟩) (j' + 1) cap) = Z2 := ⟨_, rfl⟩
            rw [hZ2] at hb8 ⊢
            have hgb := hb8 g (by omega)
            have hS8 := five_turn hS6 ((putAt_block (w := Z2) (o := j' * 5) (u0 := .int .i64 r0) (u1 := .slice rA rn rc) (u2 := .int .i64 r1) (u3 := .int .i64 r2) (u4 := .slice rB rm rd) (Ne.symm hgp)).trans (hb8 p (by have := Hp6.out; omega)))
            have y0 := set_same hgb y0
            have yf0 := fr_same hgb yf0
            have y1 := set_same hgb y1
            have yf1 := fr_same hgb yf1
            have y2 := set_same hgb y2
            have yf2 := fr_same hgb yf2
            have y3 := set_same hgb y3
            have yf3 := fr_same hgb yf3
            have y4 := set_same hgb y4
            have yf4 := fr_same hgb yf4
            have HZ2 := hide hZ2
            clear hZ2 c46 f46 hgb hb8
            refine wpAnyH_ready (rs := [8]) (by kernel_rfl) (by simp) (AllReadyH.cons rfl (fun K hK => ?_) AllReadyH.nil)
            rw [if_pos (by rfl)]
            go_simp
            refine hK.out _ _ hS8 (fun _ => ?_)
            clear hK K
            refine wpAnyH_done (by kernel_rfl) ?_ _
            exact mir_round hs4 H1.out HO.out HT4.out HST.out HsR.out HfR.out Hy.out Hxl.out HF.out hownZ hm6 (Or.inr (by first | (rw [HZ2.out]; done) | (rw [HZ2.out]; rfl)))
      · rw [if_pos (by rfl)]
        go_simp
        with_reducible refine (HC.out _ BL.out).mono ?_
        rintro e wc ⟨vr, rfl, hvr, hbc⟩
        obtain ⟨r0, r1, r2, rA, rB, rn, rc, rm, rd, rfl⟩ := rxv_shapeY hvr
        have RX := hide hvr
        have hS2 := five_keep hS hbc
        have C4x := hide ((hbc.cell (p := ⟨H + 2, 4, none⟩) (World.block_lt_of_cell? _ _ C4.out)).trans C4.out)
        have Bxx := hide ((hbc.block _ (lt_of_block Bx.out)).trans Bx.out)
        have BLx := hide (bgo BL.out hbc)
        clear C4 BL hS Bx
        have C4 := hide C4x.out
        have BL := hide BLx.out
        have hS := hS2
        have Bx := hide Bxx.out
        clear C4x BLx hS2 Bxx hbc
        refine hK.out _ _ hS (fun _ => ?_)
        clear hK K
        try simp only [Act.put, List.setIfInBounds_toArray, List.set_cons_zero, List.set_cons_succ]
        refine wpAnyH_ready (rs := [1, 5]) (by kernel_rfl) (by simp) (AllReadyH.cons rfl (fun K hK => ?_) (AllReadyH.cons rfl (fun K hK => ?_) AllReadyH.nil))
        · rw [if_pos (by rfl)]
          have c4 := C4.out
          go_simp
          refine hK.out _ _ hS (fun _ => ?_)
          clear hK K c4
          try simp only [Act.put, List.setIfInBounds_toArray, List.set_cons_zero, List.set_cons_succ]
          refine wpAnyH_take (i := 4) (v := .int .i64 (j' : Int)) rfl (by kernel_rfl) (by kernel_rfl) (by kernel_rfl) (fun _ _ _ h => h) (Or.inl ⟨by rfl, ?_⟩) hS ?_
          · intro w hw
            go_simp
          try simp only [Act.put, List.setIfInBounds_toArray]
          refine wpAnyH_ready (rs := [5]) (by kernel_rfl) (by simp) (AllReadyH.cons rfl (fun K hK => ?_) AllReadyH.nil)
          rw [if_pos (by rfl)]
          go_simp
          obtain ⟨wa, hwa⟩ : ∃ wa, wc.alloc (.cells #[.int .i64 0, .slice none 0 0, .int .i64 0, .int .i64 0, .slice none 0 0] 25) = wa := ⟨_, rfl⟩
          obtain ⟨NB, hNB⟩ : ∃ NB, wc.heap.size = NB := ⟨_, rfl⟩
          have hba : Below wc.heap.size wc wa := by rw [← hwa]; exact bnew (Below.refl _ _) _
          have NW := hide (show ∀ (j : Nat) (u : Value), [Value.int .i64 0, .slice none 0 0, .int .i64 0, .int .i64 0, .slice none 0 0][j]? = some u → wa.cell? ((⟨NB, 0, none⟩ : Addr).add j) = some u by rw [← hwa]; exact news5 (T := 25) hNB (Below.refl _ _))
          rw [hwa]
          try rw [hNB]
          clear hwa hNB
          have hS2 := five_keep hS hba
          have C4x := hide ((hba.cell (p := ⟨H + 2, 4, none⟩) (World.block_lt_of_cell? _ _ C4.out)).trans C4.out)
          have Bxx := hide ((hba.block _ (lt_of_block Bx.out)).trans Bx.out)
          have BLx := hide (bgo BL.out hba)
          have RXx := hide (RX.out.kept hba)
          clear RX
          have RX := hide RXx.out
          clear RXx
          clear C4 BL hS Bx
          have C4 := hide C4x.out
          have BL := hide BLx.out
          have hS := hS2
          have Bx := hide Bxx.out
          clear C4x BLx hS2 Bxx hba
          refine hK.out _ _ hS (fun _ => ?_)
          clear hK K
          try simp only [Act.put, List.setIfInBounds_toArray, List.set_cons_zero, List.set_cons_succ]
          refine wpAnyH_ready (rs := [6]) (by kernel_rfl) (by simp) (AllReadyH.cons rfl (fun K hK => ?_) AllReadyH.nil)
          refine step_append_lies _ (by rfl) (.tmp 14) (.tmp 18) 23 (by rfl) (H + 6) 25 i0 _ 5 72 Tryz.underlying23 hi hz0 hz1 hz2 rfl (by omega) (.slice A1 j' d1) j' cs (by rfl) (owns_below' H1.out BL.out) ⟨NB, 0, none⟩ 1 1 [.int .i64 0, .slice none 0 0, .int .i64 0, .int .i64 0, .slice none 0 0] (by rfl) (by rfl) NW.out z5_one (by omega) (by unfold maxLen; omega) (by omega) (by have := BL.out.size; have := HsR.out; omega) wa.heap.size rfl ?_
          intro g cap Z hownZ hgrow hat hltZ
          have HF := hide (mir_facts H1.out BL.out RX.out hgrow hat HfR.out)
          obtain ⟨hS6, hm6, hgH, hgp⟩ := mir_cells H1.out hgrow hat hownZ hS HPV.out Bx.out
          obtain ⟨y0, y1, y2, y3, y4, yf0, yf1, yf2, yf3, yf4⟩ := row5_cells hownZ
          refine hK.out _ _ hS6 (fun _ => ?_)
          clear hK K
          try simp only [Act.put, List.setIfInBounds_toArray]
          refine wpAnyH_take (i := 7) (v := .pointer (some ⟨g, j' * 5, none⟩)) rfl (by kernel_rfl) (by kernel_rfl) (by kernel_rfl) (fun _ _ _ h => h) (Or.inl ⟨by rfl, ?_⟩) hS6 ?_
          · intro w hw
            go_simp
            try (intro hbad; exact absurd hbad (by omega))
          try simp only [Act.put]
          refine wpAnyH_take (i := 9) (v := .pointer (some ⟨H + 2, 4, none⟩)) rfl (by kernel_rfl) (by kernel_rfl) (by kernel_rfl) (fun _ _ _ h => h) (Or.inl ⟨by rfl, ?_⟩) hS6 ?_
          · intro w hw
            go_simp
            try (intro hbad; exact absurd hbad (by omega))
          try simp only [Act.put]
          refine wpAnyH_ready (rs := [8, 10]) (by kernel_rfl) (by simp) (AllReadyH.cons rfl (fun K hK => ?_) (AllReadyH.cons rfl (fun K hK => ?_) AllReadyH.nil))
          · rw [if_pos (by rfl)]
            have c46 : Z.cell? ⟨H + 2, 4, none⟩ = some (.slice A1 j' d1) := by simp [World.cell?, hm6]
            have f46 : Z.frozen? ⟨H + 2, 4, none⟩ = false := by simp [World.frozen?, hm6]
            obtain ⟨c47, f47⟩ := putAt_cell4 (o := j' * 5) (u0 := .int .i64 r0) (u1 := .slice rA rn rc) (u2 := .int .i64 r1) (u3 := .int .i64 r2) (u4 := .slice rB rm rd) hgH c46 f46
            have hS7 := five_turn hS6 (putAt_block (w := Z) (o := j' * 5) (u0 := .int .i64 r0) (u1 := .slice rA rn rc) (u2 := .int .i64 r1) (u3 := .int .i64 r2) (u4 := .slice rB rm rd) (Ne.symm hgp))
            go_simp
            refine hK.out _ _ hS7 (fun _ => ?_)
            clear hK K
            change wpAnyH _ _ _ _ _ _ _ _ (putAtY Z g (j' * 5) (.int .i64 r0) (.slice rA rn rc) (.int .i64 r1) (.int .i64 r2) (.slice rB rm rd))
            obtain ⟨Z2, hZ2⟩ : ∃ Z2, putAtY Z g (j' * 5) (.int .i64 r0) (.slice rA rn rc) (.int .i64 r1) (.int .i64 r2) (.slice rB rm rd) = Z2 := ⟨_, rfl⟩
            rw [hZ2] at c47 f47 ⊢
            have hS8 := five_turn hS6 (((Below.heap_setCell Z2 ⟨H + 2, 4, none⟩ (.slice (some ⟨g, 0, none⟩) (j' + 1) cap) p (by show p ≠ H + 2; have := Hp6.out; omega)).trans (by rw [← hZ2]; exact putAt_block (Ne.symm hgp))))
            have HZ2 := hide hZ2
            clear hZ2
            refine wpAnyH_ready (rs := [10]) (by kernel_rfl) (by simp) (AllReadyH.cons rfl (fun K hK => ?_) AllReadyH.nil)
            rw [if_pos (by rfl)]
            go_simp
            refine hK.out _ _ hS8 (fun _ => ?_)
            clear hK K
            refine wpAnyH_done (by kernel_rfl) ?_ _
            exact mir_round hs4 H1.out HO.out HT4.out HST.out HsR.out HfR.out Hy.out Hxl.out HF.out hownZ hm6 (Or.inl (by rw [HZ2.out]))
          · rw [if_pos (by rfl)]
            have c46 : Z.cell? ⟨H + 2, 4, none⟩ = some (.slice A1 j' d1) := by simp [World.cell?, hm6]
            have f46 : Z.frozen? ⟨H + 2, 4, none⟩ = false := by simp [World.frozen?, hm6]
            go_simp
            have hb8 : ∀ q, q ≠ H + 2 → (Z.setCell ⟨H + 2, 4, none⟩ (.slice (some ⟨g, 0, none⟩) (j' + 1) cap)).heap[q]? = Z.heap[q]? := fun q hq => Below.heap_setCell Z ⟨H + 2, 4, none⟩ _ q hq
            have hS7 := five_turn hS6 (hb8 p (by have := Hp6.out; omega))
            refine hK.out _ _ hS7 (fun _ => ?_)
            clear hK K
            obtain ⟨Z2, hZ2⟩ : ∃ Z2, Z.setCell ⟨H + 2, 4, none⟩ (.slice (some ⟨g, 0, none⟩) (j' + 1) cap) = Z2 := ⟨_, rfl⟩
            rw [hZ2] at hb8 ⊢
            have hgb := hb8 g (by omega)
            have hS8 := five_turn hS6 ((putAt_block (w := Z2) (o := j' * 5) (u0 := .int .i64 r0) (u1 := .slice rA rn rc) (u2 := .int .i64 r1) (u3 := .int .i64 r2) (u4 := .slice rB rm rd) (Ne.symm hgp)).trans (hb8 p (by have := Hp6.out; omega)))
            have y0 := set_same hgb y0
            have yf0 := fr_same hgb yf0
            have y1 := set_same hgb y1
            have yf1 := fr_same hgb yf1
            have y2 := set_same hgb y2
            have yf2 := fr_same hgb yf2
            have y3 := set_same hgb y3
            have yf3 := fr_same hgb yf3
            have y4 := set_same hgb y4
            have yf4 := fr_same hgb yf4
            have HZ2 := hide hZ2
            clear hZ2 c46 f46 hgb hb8
            refine wpAnyH_ready (rs := [8]) (by kernel_rfl) (by simp) (AllReadyH.cons rfl (fun K hK => ?_) AllReadyH.nil)
            rw [if_pos (by rfl)]
            go_simp
            refine hK.out _ _ hS8 (fun _ => ?_)
            clear hK K
            refine wpAnyH_done (by kernel_rfl) ?_ _
            exact mir_round hs4 H1.out HO.out HT4.out HST.out HsR.out HfR.out Hy.out Hxl.out HF.out hownZ hm6 (Or.inr (by first | (rw [HZ2.out]; done) | (rw [HZ2.out]; rfl)))
        · rw [if_pos (by rfl)]
          go_simp
          obtain ⟨wa, hwa⟩ : ∃ wa, wc.alloc (.cells #[.int .i64 0, .slice none 0 0, .int .i64 0, .int .i64 0, .slice none 0 0] 25) = wa := ⟨_, rfl⟩
          obtain ⟨NB, hNB⟩ : ∃ NB, wc.heap.size = NB := ⟨_, rfl⟩
          have hba : Below wc.heap.size wc wa := by rw [← hwa]; exact bnew (Below.refl _ _) _
          have NW := hide (show ∀ (j : Nat) (u : Value), [Value.int .i64 0, .slice none 0 0, .int .i64 0, .int .i64 0, .slice none 0 0][j]? = some u → wa.cell? ((⟨NB, 0, none⟩ : Addr).add j) = some u by rw [← hwa]; exact news5 (T := 25) hNB (Below.refl _ _))
          rw [hwa]
          try rw [hNB]
          clear hwa hNB
          have hS2 := five_keep hS hba
          have C4x := hide ((hba.cell (p := ⟨H + 2, 4, none⟩) (World.block_lt_of_cell? _ _ C4.out)).trans C4.out)
          have Bxx := hide ((hba.block _ (lt_of_block Bx.out)).trans Bx.out)
          have BLx := hide (bgo BL.out hba)
          have RXx := hide (RX.out.kept hba)
          clear RX
          have RX := hide RXx.out
          clear RXx
          clear C4 BL hS Bx
          have C4 := hide C4x.out
          have BL := hide BLx.out
          have hS := hS2
          have Bx := hide Bxx.out
          clear C4x BLx hS2 Bxx hba
          refine hK.out _ _ hS (fun _ => ?_)
          clear hK K
          try simp only [Act.put, List.setIfInBounds_toArray, List.set_cons_zero, List.set_cons_succ]
          refine wpAnyH_ready (rs := [1]) (by kernel_rfl) (by simp) (AllReadyH.cons rfl (fun K hK => ?_) AllReadyH.nil)
          rw [if_pos (by rfl)]
          have c4 := C4.out
          go_simp
          refine hK.out _ _ hS (fun _ => ?_)
          clear hK K c4
          try simp only [Act.put, List.setIfInBounds_toArray, List.set_cons_zero, List.set_cons_succ]
          refine wpAnyH_take (i := 4) (v := .int .i64 (j' : Int)) rfl (by kernel_rfl) (by kernel_rfl) (by kernel_rfl) (fun _ _ _ h => h) (Or.inl ⟨by rfl, ?_⟩) hS ?_
          · intro w hw
            go_simp
          try simp only [Act.put, List.setIfInBounds_toArray]
          refine wpAnyH_ready (rs := [6]) (by kernel_rfl) (by simp) (AllReadyH.cons rfl (fun K hK => ?_) AllReadyH.nil)
          refine step_append_lies _ (by rfl) (.tmp 14) (.tmp 18) 23 (by rfl) (H + 6) 25 i0 _ 5 72 Tryz.underlying23 hi hz0 hz1 hz2 rfl (by omega) (.slice A1 j' d1) j' cs (by rfl) (owns_below' H1.out BL.out) ⟨NB, 0, none⟩ 1 1 [.int .i64 0, .slice none 0 0, .int .i64 0, .int .i64 0, .slice none 0 0] (by rfl) (by rfl) NW.out z5_one (by omega) (by unfold maxLen; omega) (by omega) (by have := BL.out.size; have := HsR.out; omega) wa.heap.size rfl ?_
          intro g cap Z hownZ hgrow hat hltZ
          have HF := hide (mir_facts H1.out BL.out RX.out hgrow hat HfR.out)
          obtain ⟨hS6, hm6, hgH, hgp⟩ := mir_cells H1.out hgrow hat hownZ hS HPV.out Bx.out
          obtain ⟨y0, y1, y2, y3, y4, yf0, yf1, yf2, yf3, yf4⟩ := row5_cells hownZ
          refine hK.out _ _ hS6 (fun _ => ?_)
          clear hK K
          try simp only [Act.put]
          refine wpAnyH_take (i := 7) (v := .pointer (some ⟨g, j' * 5, none⟩)) rfl (by kernel_rfl) (by kernel_rfl) (by kernel_rfl) (fun _ _ _ h => h) (Or.inl ⟨by rfl, ?_⟩) hS6 ?_
          · intro w hw
            go_simp
            try (intro hbad; exact absurd hbad (by omega))
          try simp only [Act.put]
          refine wpAnyH_take (i := 9) (v := .pointer (some ⟨H + 2, 4, none⟩)) rfl (by kernel_rfl) (by kernel_rfl) (by kernel_rfl) (fun _ _ _ h => h) (Or.inl ⟨by rfl, ?_⟩) hS6 ?_
          · intro w hw
            go_simp
            try (intro hbad; exact absurd hbad (by omega))
          try simp only [Act.put]
          refine wpAnyH_ready (rs := [8, 10]) (by kernel_rfl) (by simp) (AllReadyH.cons rfl (fun K hK => ?_) (AllReadyH.cons rfl (fun K hK => ?_) AllReadyH.nil))
          · rw [if_pos (by rfl)]
            have c46 : Z.cell? ⟨H + 2, 4, none⟩ = some (.slice A1 j' d1) := by simp [World.cell?, hm6]
            have f46 : Z.frozen? ⟨H + 2, 4, none⟩ = false := by simp [World.frozen?, hm6]
            obtain ⟨c47, f47⟩ := putAt_cell4 (o := j' * 5) (u0 := .int .i64 r0) (u1 := .slice rA rn rc) (u2 := .int .i64 r1) (u3 := .int .i64 r2) (u4 := .slice rB rm rd) hgH c46 f46
            have hS7 := five_turn hS6 (putAt_block (w := Z) (o := j' * 5) (u0 := .int .i64 r0) (u1 := .slice rA rn rc) (u2 := .int .i64 r1) (u3 := .int .i64 r2) (u4 := .slice rB rm rd) (Ne.symm hgp))
            go_simp
            refine hK.out _ _ hS7 (fun _ => ?_)
            clear hK K
            change wpAnyH _ _ _ _ _ _ _ _ (putAtY Z g (j' * 5) (.int .i64 r0) (.slice rA rn rc) (.int .i64 r1) (.int .i64 r2) (.slice rB rm rd))
            obtain ⟨Z2, hZ2⟩ : ∃ Z2, putAtY Z g (j' * 5) (.int .i64 r0) (.slice rA rn rc) (.int .i64 r1) (.int .i64 r2) (.slice rB rm rd) = Z2 := ⟨_, rfl⟩
            rw [hZ2] at c47 f47 ⊢
            have hS8 := five_turn hS6 (((Below.heap_setCell Z2 ⟨H + 2, 4, none⟩ (.slice (some ⟨g, 0, none⟩) (j' + 1) cap) p (by show p ≠ H + 2; have := Hp6.out; omega)).trans (by rw [← hZ2]; exact putAt_block (Ne.symm hgp))))
            have HZ2 := hide hZ2
            clear hZ2
            refine wpAnyH_ready (rs := [10]) (by kernel_rfl) (by simp) (AllReadyH.cons rfl (fun K hK => ?_) AllReadyH.nil)
            rw [if_pos (by rfl)]
            go_simp
            refine hK.out _ _ hS8 (fun _ => ?_)
            clear hK K
            refine wpAnyH_done (by kernel_rfl) ?_ _
            exact mir_round hs4 H1.out HO.out HT4.out HST.out HsR.out HfR.out Hy.out Hxl.out HF.out hownZ hm6 (Or.inl (by rw [HZ2.out]))
          · rw [if_pos (by rfl)]
            have c46 : Z.cell? ⟨H + 2, 4, none⟩ = some (.slice A1 j' d1) := by simp [World.cell?, hm6]
            have f46 : Z.frozen? ⟨H + 2, 4, none⟩ = false := by simp [World.frozen?, hm6]
            go_simp
            have hb8 : ∀ q, q ≠ H + 2 → (Z.setCell ⟨H + 2, 4, none⟩ (.slice (some ⟨g, 0, none⟩) (j' + 1) cap)).heap[q]? = Z.heap[q]? := fun q hq => Below.heap_setCell Z ⟨H + 2, 4, none⟩ _ q hq
            have hS7 := five_turn hS6 (hb8 p (by have := Hp6.out; omega))
            refine hK.out _ _ hS7 (fun _ => ?_)
            clear hK K
            obtain ⟨Z2, hZ2⟩ : ∃ Z2, Z.setCell ⟨H + 2, 4, none⟩ (.slice (some ⟨g, 0, none⟩) (j' + 1) cap) = Z2 := ⟨_, rfl⟩
            rw [hZ2] at hb8 ⊢
            have hgb := hb8 g (by omega)
            have hS8 := five_turn hS6 ((putAt_block (w := Z2) (o := j' * 5) (u0 := .int .i64 r0) (u1 := .slice rA rn rc) (u2 := .int .i64 r1) (u3 := .int .i64 r2) (u4 := .slice rB rm rd) (Ne.symm hgp)).trans (hb8 p (by have := Hp6.out; omega)))
            have y0 := set_same hgb y0
            have yf0 := fr_same hgb yf0
            have y1 := set_same hgb y1
            have yf1 := fr_same hgb yf1
            have y2 := set_same hgb y2
            have yf2 := fr_same hgb yf2
            have y3 := set_same hgb y3
            have yf3 := fr_same hgb yf3
            have y4 := set_same hgb y4
            have yf4 := fr_same hgb yf4
            have HZ2 := hide hZ2
            clear hZ2 c46 f46 hgb hb8
            refine wpAnyH_ready (rs := [8]) (by kernel_rfl) (by simp) (AllReadyH.cons rfl (fun K hK => ?_) AllReadyH.nil)
            rw [if_pos (by rfl)]
            go_simp
            refine hK.out _ _ hS8 (fun _ => ?_)
            clear hK K
            refine wpAnyH_done (by kernel_rfl) ?_ _
            exact mir_round hs4 H1.out HO.out HT4.out HST.out HsR.out HfR.out Hy.out Hxl.out HF.out hownZ hm6 (Or.inr (by first | (rw [HZ2.out]; done) | (rw [HZ2.out]; rfl)))
      · rw [if_pos (by rfl)]
        go_simp
        obtain ⟨wa, hwa⟩ : ∃ wa, Wr.alloc (.cells #[.int .i64 0, .slice none 0 0, .int .i64 0, .int .i64 0, .slice none 0 0] 25) = wa := ⟨_, rfl⟩
        obtain ⟨NB, hNB⟩ : ∃ NB, Wr.heap.size = NB := ⟨_, rfl⟩
        have hba : Below Wr.heap.size Wr wa := by rw [← hwa]; exact bnew (Below.refl _ _) _
        have NW := hide (show ∀ (j : Nat) (u : Value), [Value.int .i64 0, .slice none 0 0, .int .i64 0, .int .i64 0, .slice none 0 0][j]? = some u → wa.cell? ((⟨NB, 0, none⟩ : Addr).add j) = some u by rw [← hwa]; exact news5 (T := 25) hNB (Below.refl _ _))
        rw [hwa]
        try rw [hNB]
        clear hwa hNB
        have hS2 := five_keep hS hba
        have C4x := hide ((hba.cell (p := ⟨H + 2, 4, none⟩) (World.block_lt_of_cell? _ _ C4.out)).trans C4.out)
        have Bxx := hide ((hba.block _ (lt_of_block Bx.out)).trans Bx.out)
        have BLx := hide (bgo BL.out hba)
        clear C4 BL hS Bx
        have C4 := hide C4x.out
        have BL := hide BLx.out
        have hS := hS2
        have Bx := hide Bxx.out
        clear C4x BLx hS2 Bxx hba
        refine hK.out _ _ hS (fun _ => ?_)
        clear hK K
        try simp only [Act.put, List.setIfInBounds_toArray, List.set_cons_zero, List.set_cons_succ]
        refine wpAnyH_ready (rs := [1, 3]) (by kernel_rfl) (by simp) (AllReadyH.cons rfl (fun K hK => ?_) (AllReadyH.cons rfl (fun K hK => ?_) AllReadyH.nil))
        · rw [if_pos (by rfl)]
          have c4 := C4.out
          go_simp
          refine hK.out _ _ hS (fun _ => ?_)
          clear hK K c4
          try simp only [Act.put, List.setIfInBounds_toArray, List.set_cons_zero, List.set_cons_succ]
          refine wpAnyH_take (i := 4) (v := .int .i64 (j' : Int)) rfl (by kernel_rfl) (by kernel_rfl) (by kernel_rfl) (fun _ _ _ h => h) (Or.inl ⟨by rfl, ?_⟩) hS ?_
          · intro w hw
            go_simp
          try simp only [Act.put, List.setIfInBounds_toArray]
          refine wpAnyH_ready (rs := [3]) (by kernel_rfl) (by simp) (AllReadyH.cons rfl (fun K hK => ?_) AllReadyH.nil)
          rw [if_pos (by rfl)]
          go_simp
          with_reducible refine (HC.out _ BL.out).mono ?_
          rintro e wc ⟨vr, rfl, hvr, hbc⟩
          obtain ⟨r0, r1, r2, rA, rB, rn, rc, rm, rd, rfl⟩ := rxv_shapeY hvr
          have RX := hide hvr
          have hS2 := five_keep hS hbc
          have C4x := hide ((hbc.cell (p := ⟨H + 2, 4, none⟩) (World.block_lt_of_cell? _ _ C4.out)).trans C4.out)
          have Bxx := hide ((hbc.block _ (lt_of_block Bx.out)).trans Bx.out)
          have BLx := hide (bgo BL.out hbc)
          have NWx := hide (fun j u h => news_keep NW.out hbc j u h)
          clear NW
          have NW := hide NWx.out
          clear NWx
          clear C4 BL hS Bx
          have C4 := hide C4x.out
          have BL := hide BLx.out
          have hS := hS2
          have Bx := hide Bxx.out
          clear C4x BLx hS2 Bxx hbc
          refine hK.out _ _ hS (fun _ => ?_)
          clear hK K
          try simp only [Act.put, List.setIfInBounds_toArray, List.set_cons_zero, List.set_cons_succ]
          refine wpAnyH_ready (rs := [6]) (by kernel_rfl) (by simp) (AllReadyH.cons rfl (fun K hK => ?_) AllReadyH.nil)
          refine step_append_lies _ (by rfl) (.tmp 14) (.tmp 18) 23 (by rfl) (H + 6) 25 i0 _ 5 72 Tryz.underlying23 hi hz0 hz1 hz2 rfl (by omega) (.slice A1 j' d1) j' cs (by rfl) (owns_below' H1.out BL.out) ⟨NB, 0, none⟩ 1 1 [.int .i64 0, .slice none 0 0, .int .i64 0, .int .i64 0, .slice none 0 0] (by rfl) (by rfl) NW.out z5_one (by omega) (by unfold maxLen; omega) (by omega) (by have := BL.out.size; have := HsR.out; omega) wc.heap.size rfl ?_
          intro g cap Z hownZ hgrow hat hltZ
          have HF := hide (mir_facts H1.out BL.out RX.out hgrow hat HfR.out)
          obtain ⟨hS6, hm6, hgH, hgp⟩ := mir_cells H1.out hgrow hat hownZ hS HPV.out Bx.out
          obtain ⟨y0, y1, y2, y3, y4, yf0, yf1, yf2, yf3, yf4⟩ := row5_cells hownZ
          refine hK.out _ _ hS6 (fun _ => ?_)
          clear hK K
          try simp only [Act.put, List.setIfInBounds_toArray]
          refine wpAnyH_take (i := 7) (v := .pointer (some ⟨g, j' * 5, none⟩)) rfl (by kernel_rfl) (by kernel_rfl) (by kernel_rfl) (fun _ _ _ h => h) (Or.inl ⟨by rfl, ?_⟩) hS6 ?_
          · intro w hw
            go_simp
            try (intro hbad; exact absurd hbad (by omega))
          try simp only [Act.put]
          refine wpAnyH_take (i := 9) (v := .pointer (some ⟨H + 2, 4, none⟩)) rfl (by kernel_rfl) (by kernel_rfl) (by kernel_rfl) (fun _ _ _ h => h) (Or.inl ⟨by rfl, ?_⟩) hS6 ?_
          · intro w hw
            go_simp
            try (intro hbad; exact absurd hbad (by omega))
          try simp only [Act.put]
          refine wpAnyH_ready (rs := [8, 10]) (by kernel_rfl) (by simp) (AllReadyH.cons rfl (fun K hK => ?_) (AllReadyH.cons rfl (fun K hK => ?_) AllReadyH.nil))
          · rw [if_pos (by rfl)]
            have c46 : Z.cell? ⟨H + 2, 4, none⟩ = some (.slice A1 j' d1) := by simp [World.cell?, hm6]
            have f46 : Z.frozen? ⟨H + 2, 4, none⟩ = false := by simp [World.frozen?, hm6]
            obtain ⟨c47, f47⟩ := putAt_cell4 (o := j' * 5) (u0 := .int .i64 r0) (u1 := .slice rA rn rc) (u2 := .int .i64 r1) (u3 := .int .i64 r2) (u4 := .slice rB rm rd) hgH c46 f46
            have hS7 := five_turn hS6 (putAt_block (w := Z) (o := j' * 5) (u0 := .int .i64 r0) (u1 := .slice rA rn rc) (u2 := .int .i64 r1) (u3 := .int .i64 r2) (u4 := .slice rB rm rd) (Ne.symm hgp))
            go_simp
            refine hK.out _ _ hS7 (fun _ => ?_)
            clear hK K
            change wpAnyH _ _ _ _ _ _ _ _ (putAtY Z g (j' * 5) (.int .i64 r0) (.slice rA rn rc) (.int .i64 r1) (.int .i64 r2) (.slice rB rm rd))
            obtain ⟨Z2, hZ2⟩ : ∃ Z2, putAtY Z g (j' * 5) (.int .i64 r0) (.slice rA rn rc) (.int .i64 r1) (.int .i64 r2) (.slice rB rm rd) = Z2 := ⟨_, rfl⟩
            rw [hZ2] at c47 f47 ⊢
            have hS8 := five_turn hS6 (((Below.heap_setCell Z2 ⟨H + 2, 4, none⟩ (.slice (some ⟨g, 0, none⟩) (j' + 1) cap) p (by show p ≠ H + 2; have := Hp6.out; omega)).trans (by rw [← hZ2]; exact putAt_block (Ne.symm hgp))))
            have HZ2 := hide hZ2
            clear hZ2
            refine wpAnyH_ready (rs := [10]) (by kernel_rfl) (by simp) (AllReadyH.cons rfl (fun K hK => ?_) AllReadyH.nil)
            rw [if_pos (by rfl)]
            go_simp
            refine hK.out _ _ hS8 (fun _ => ?_)
            clear hK K
            refine wpAnyH_done (by kernel_rfl) ?_ _
            exact mir_round hs4 H1.out HO.out HT4.out HST.out HsR.out HfR.out Hy.out Hxl.out HF.out hownZ hm6 (Or.inl (by rw [HZ2.out]))
          · rw [if_pos (by rfl)]
            have c46 : Z.cell? ⟨H + 2, 4, none⟩ = some (.slice A1 j' d1) := by simp [World.cell?, hm6]
            have f46 : Z.frozen? ⟨H + 2, 4, none⟩ = false := by simp [World.frozen?, hm6]
            go_simp
            have hb8 : ∀ q, q ≠ H + 2 → (Z.setCell ⟨H + 2, 4, none⟩ (.slice (some ⟨g, 0, none⟩) (j' + 1) cap)).heap[q]? = Z.heap[q]? := fun q hq => Below.heap_setCell Z ⟨H + 2, 4, none⟩ _ q hq
            have hS7 := five_turn hS6 (hb8 p (by have := Hp6.out; omega))
            refine hK.out _ _ hS7 (fun _ => ?_)
            clear hK K
            obtain ⟨Z2, hZ2⟩ : ∃ Z2, Z.setCell ⟨H + 2, 4, none⟩ (.slice (some ⟨g, 0, none⟩) (j' + 1) cap) = Z2 := ⟨_, rfl⟩
            rw [hZ2] at hb8 ⊢
            have hgb := hb8 g (by omega)
            have hS8 := five_turn hS6 ((putAt_block (w := Z2) (o := j' * 5) (u0 := .int .i64 r0) (u1 := .slice rA rn rc) (u2 := .int .i64 r1) (u3 := .int .i64 r2) (u4 := .slice rB rm rd) (Ne.symm hgp)).trans (hb8 p (by have := Hp6.out; omega)))
            have y0 := set_same hgb y0
            have yf0 := fr_same hgb yf0
            have y1 := set_same hgb y1
            have yf1 := fr_same hgb yf1
            have y2 := set_same hgb y2
            have yf2 := fr_same hgb yf2
            have y3 := set_same hgb y3
            have yf3 := fr_same hgb yf3
            have y4 := set_same hgb y4
            have yf4 := fr_same hgb yf4
            have HZ2 := hide hZ2
            clear hZ2 c46 f46 hgb hb8
            refine wpAnyH_ready (rs := [8]) (by kernel_rfl) (by simp) (AllReadyH.cons rfl (fun K hK => ?_) AllReadyH.nil)
            rw [if_pos (by rfl)]
            go_simp
            refine hK.out _ _ hS8 (fun _ => ?_)
            clear hK K
            refine wpAnyH_done (by kernel_rfl) ?_ _
            exact mir_round hs4 H1.out HO.out HT4.out HST.out HsR.out HfR.out Hy.out Hxl.out HF.out hownZ hm6 (Or.inr (by first | (rw [HZ2.out]; done) | (rw [HZ2.out]; rfl)))
        · rw [if_pos (by rfl)]
          go_simp
          with_reducible refine (HC.out _ BL.out).mono ?_
          rintro e wc ⟨vr, rfl, hvr, hbc⟩
          obtain ⟨r0, r1, r2, rA, rB, rn, rc, rm, rd, rfl⟩ := rxv_shapeY hvr
          have RX := hide hvr
          have hS2 := five_keep hS hbc
          have C4x := hide ((hbc.cell (p := ⟨H + 2, 4, none⟩) (World.block_lt_of_cell? _ _ C4.out)).trans C4.out)
          have Bxx := hide ((hbc.block _ (lt_of_block Bx.out)).trans Bx.out)
          have BLx := hide (bgo BL.out hbc)
          have NWx := hide (fun j u h => news_keep NW.out hbc j u h)
          clear NW
          have NW := hide NWx.out
          clear NWx
          clear C4 BL hS Bx
          have C4 := hide C4x.out
          have BL := hide BLx.out
          have hS := hS2
          have Bx := hide Bxx.out
          clear C4x BLx hS2 Bxx hbc
          refine hK.out _ _ hS (fun _ => ?_)
          clear hK K
          try simp only [Act.put, List.setIfInBounds_toArray, List.set_cons_zero, List.set_cons_succ]
          refine wpAnyH_ready (rs := [1]) (by kernel_rfl) (by simp) (AllReadyH.cons rfl (fun K hK => ?_) AllReadyH.nil)
          rw [if_pos (by rfl)]
          have c4 := C4.out
          go_simp
          refine hK.out _ _ hS (fun _ => ?_)
          clear hK K c4
          try simp only [Act.put, List.setIfInBounds_toArray, List.set_cons_zero, List.set_cons_succ]
          refine wpAnyH_take (i := 4) (v := .int .i64 (j' : Int)) rfl (by kernel_rfl) (by kernel_rfl) (by kernel_rfl) (fun _ _ _ h => h) (Or.inl ⟨by rfl, ?_⟩) hS ?_
          · intro w hw
            go_simp
          try simp only [Act.put, List.setIfInBounds_toArray]
          refine wpAnyH_ready (rs := [6]) (by kernel_rfl) (by simp) (AllReadyH.cons rfl (fun K hK => ?_) AllReadyH.nil)
          refine step_append_lies _ (by rfl) (.tmp 14) (.tmp 18) 23 (by rfl) (H + 6) 25 i0 _ 5 72 Tryz.underlying23 hi hz0 hz1 hz2 rfl (by omega) (.slice A1 j' d1) j' cs (by rfl) (owns_below' H1.out BL.out) ⟨NB, 0, none⟩ 1 1 [.int .i64 0, .slice none 0 0, .int .i64 0, .int .i64 0, .slice none 0 0] (by rfl) (by rfl) NW.out z5_one (by omega) (by unfold maxLen; omega) (by omega) (by have := BL.out.size; have := HsR.out; omega) wc.heap.size rfl ?_
          intro g cap Z hownZ hgrow hat hltZ
          have HF := hide (mir_facts H1.out BL.out RX.out hgrow hat HfR.out)
          obtain ⟨hS6, hm6, hgH, hgp⟩ := mir_cells H1.out hgrow hat hownZ hS HPV.out Bx.out
          obtain ⟨y0, y1, y2, y3, y4, yf0, yf1, yf2, yf3, yf4⟩ := row5_cells hownZ
          refine hK.out _ _ hS6 (fun _ => ?_)
          clear hK K
          try simp only [Act.put]
          refine wpAnyH_take (i := 7) (v := .pointer (some ⟨g, j' * 5, none⟩)) rfl (by kernel_rfl) (by kernel_rfl) (by kernel_rfl) (fun _ _ _ h => h) (Or.inl ⟨by rfl, ?_⟩) hS6 ?_
          · intro w hw
            go_simp
            try (intro hbad; exact absurd hbad (by omega))
          try simp only [Act.put]
          refine wpAnyH_take (i := 9) (v := .pointer (some ⟨H + 2, 4, none⟩)) rfl (by kernel_rfl) (by kernel_rfl) (by kernel_rfl) (fun _ _ _ h => h) (Or.inl ⟨by rfl, ?_⟩) hS6 ?_
          · intro w hw
            go_simp
            try (intro hbad; exact absurd hbad (by omega))
          try simp only [Act.put]
          refine wpAnyH_ready (rs := [8, 10]) (by kernel_rfl) (by simp) (AllReadyH.cons rfl (fun K hK => ?_) (AllReadyH.cons rfl (fun K hK => ?_) AllReadyH.nil))
          · rw [if_pos (by rfl)]
            have c46 : Z.cell? ⟨H + 2, 4, none⟩ = some (.slice A1 j' d1) := by simp [World.cell?, hm6]
            have f46 : Z.frozen? ⟨H + 2, 4, none⟩ = false := by simp [World.frozen?, hm6]
            obtain ⟨c47, f47⟩ := putAt_cell4 (o := j' * 5) (u0 := .int .i64 r0) (u1 := .slice rA rn rc) (u2 := .int .i64 r1) (u3 := .int .i64 r2) (u4 := .slice rB rm rd) hgH c46 f46
            have hS7 := five_turn hS6 (putAt_block (w := Z) (o := j' * 5) (u0 := .int .i64 r0) (u1 := .slice rA rn rc) (u2 := .int .i64 r1) (u3 := .int .i64 r2) (u4 := .slice rB rm rd) (Ne.symm hgp))
            go_simp
            refine hK.out _ _ hS7 (fun _ => ?_)
            clear hK K
            change wpAnyH _ _ _ _ _ _ _ _ (putAtY Z g (j' * 5) (.int .i64 r0) (.slice rA rn rc) (.int .i64 r1) (.int .i64 r2) (.slice rB rm rd))
            obtain ⟨Z2, hZ2⟩ : ∃ Z2, putAtY Z g (j' * 5) (.int .i64 r0) (.slice rA rn rc) (.int .i64 r1) (.int .i64 r2) (.slice rB rm rd) = Z2 := ⟨_, rfl⟩
            rw [hZ2] at c47 f47 ⊢
            have hS8 := five_turn hS6 (((Below.heap_setCell Z2 ⟨H + 2, 4, none⟩ (.slice (some ⟨g, 0, none⟩) (j' + 1) cap) p (by show p ≠ H + 2; have := Hp6.out; omega)).trans (by rw [← hZ2]; exact putAt_block (Ne.symm hgp))))
            have HZ2 := hide hZ2
            clear hZ2
            refine wpAnyH_ready (rs := [10]) (by kernel_rfl) (by simp) (AllReadyH.cons rfl (fun K hK => ?_) AllReadyH.nil)
            rw [if_pos (by rfl)]
            go_simp
            refine hK.out _ _ hS8 (fun _ => ?_)
            clear hK K
            refine wpAnyH_done (by kernel_rfl) ?_ _
            exact mir_round hs4 H1.out HO.out HT4.out HST.out HsR.out HfR.out Hy.out Hxl.out HF.out hownZ hm6 (Or.inl (by rw [HZ2.out]))
          · rw [if_pos (by rfl)]
            have c46 : Z.cell? ⟨H + 2, 4, none⟩ = some (.slice A1 j' d1) := by simp [World.cell?, hm6]
            have f46 : Z.frozen? ⟨H + 2, 4, none⟩ = false := by simp [World.frozen?, hm6]
            go_simp
            have hb8 : ∀ q, q ≠ H + 2 → (Z.setCell ⟨H + 2, 4, none⟩ (.slice (some ⟨g, 0, none⟩) (j' + 1) cap)).heap[q]? = Z.heap[q]? := fun q hq => Below.heap_setCell Z ⟨H + 2, 4, none⟩ _ q hq
            have hS7 := five_turn hS6 (hb8 p (by have := Hp6.out; omega))
            refine hK.out _ _ hS7 (fun _ => ?_)
            clear hK K
            obtain ⟨Z2, hZ2⟩ : ∃ Z2, Z.setCell ⟨H + 2, 4, none⟩ (.slice (some ⟨g, 0, none⟩) (j' + 1) cap) = Z2 := ⟨_, rfl⟩
            rw [hZ2] at hb8 ⊢
            have hgb := hb8 g (by omega)
            have hS8 := five_turn hS6 ((putAt_block (w := Z2) (o := j' * 5) (u0 := .int .i64 r0) (u1 := .slice rA rn rc) (u2 := .int .i64 r1) (u3 := .int .i64 r2) (u4 := .slice rB rm rd) (Ne.symm hgp)).trans (hb8 p (by have := Hp6.out; omega)))
            have y0 := set_same hgb y0
            have yf0 := fr_same hgb yf0
            have y1 := set_same hgb y1
            have yf1 := fr_same hgb yf1
            have y2 := set_same hgb y2
            have yf2 := fr_same hgb yf2
            have y3 := set_same hgb y3
            have yf3 := fr_same hgb yf3
            have y4 := set_same hgb y4
            have yf4 := fr_same hgb yf4
            have HZ2 := hide hZ2
            clear hZ2 c46 f46 hgb hb8
            refine wpAnyH_ready (rs := [8]) (by kernel_rfl) (by simp) (AllReadyH.cons rfl (fun K hK => ?_) AllReadyH.nil)
            rw [if_pos (by rfl)]
            go_simp
            refine hK.out _ _ hS8 (fun _ => ?_)
            clear hK K
            refine wpAnyH_done (by kernel_rfl) ?_ _
            exact mir_round hs4 H1.out HO.out HT4.out HST.out HsR.out HfR.out Hy.out Hxl.out HF.out hownZ hm6 (Or.inr (by first | (rw [HZ2.out]; done) | (rw [HZ2.out]; rfl)))
    case done =>
      rintro Wx ⟨v, hmb, hown, hT⟩ hD
      rw [List.length_reverse, List.length_range, List.take_of_length_le (by rw [List.length_reverse, Hlen.out]; exact Nat.le_refl _), mirL_rev] at hown
      obtain ⟨A1, j, d1, vs', rfl, hj, hvs', hrv⟩ := hown.s
      have hlt := hown.lt (g := 0)
      have hHb : Wx.heap[H]? = W3.heap[H]? := (hT.block H (by omega) (by omega)).trans Hf4.out.1
      have hRb := ((hT.block (H + 1) (by omega) (by omega)).trans Hf4.out.2).trans q13
      have x0 := (World.cell?_of_block (a := ⟨H, 0, none⟩) hHb).trans t0
      have Fin := hide (mir_fin Hset.out (Hb4.out.trans (hT.below (by omega) (fun q e => by omega))) HH.out hvs' hj hrv (fun g e => (hown.lt e).1) hk ha hb)
      have hT' := hT
      have HD := hide (show Wx.heap[H + 4]? = some (.deferred (some [])) by rw [← hs4]; exact hD)
      have HM := hide hmb
      have HRb := hide hRb
      have hDlt : H + 4 < Wx.heap.size := by have := lt_of_block hD; omega
      clear hvs' hrv hown hT hD hlt hHb t0 t1 t2 t3 t4 hj
      have HB := hide (Hb4.out.trans ((hT'.below (by omega) (fun q e => by omega)) : Below H W4 Wx))
      clear hT'
      by_cases h5 : k = 5
      · subst h5
        have i0 : Wx.cell? ⟨H + 2, 0, none⟩ = some (.int .i64 5) := by simp [World.cell?, HM.out]
        have if0 : Wx.frozen? ⟨H + 2, 0, none⟩ = false := by simp [World.frozen?, HM.out]
        obtain ⟨Wy, hWy⟩ : ∃ Wy, Wx.setCell ⟨H + 2, 0, none⟩ (.int .i64 6) = Wy := ⟨_, rfl⟩
        have hm2 : Wy.heap[H + 2]? = some (.cells #[.int .i64 6, .slice A n c, .int .i64 a, .int .i64 b, .slice A1 j d1] 25 (0, 0)) := by
          rw [← hWy]
          have := Go.Joins.block_setCell (i := 0) HM.out (.int .i64 6)
          simpa using this
        have hy : ∀ q, q ≠ H + 2 → Wy.heap[q]? = Wx.heap[q]? := fun q hq => by rw [← hWy]; exact Below.heap_setCell Wx ⟨H + 2, 0, none⟩ _ q hq
        have hBy : Below H W Wy := by rw [← hWy]; exact HB.out.setCell (by show H ≤ H + 2; omega) _
        have hsy : Wy.heap.size = Wx.heap.size := by rw [← hWy]; simp [World.setCell]
        go_upto_region 11 with fail
        try rw [hWy]
        clear hWy i0 if0
        have i0 : Wy.cell? ⟨H + 2, 0, none⟩ = some (.int .i64 6) := by simp [World.cell?, hm2]
        have i1 : Wy.cell? ⟨H + 2, 1, none⟩ = some (.slice A n c) := by simp [World.cell?, hm2]
        have i2 : Wy.cell? ⟨H + 2, 2, none⟩ = some (.int .i64 a) := by simp [World.cell?, hm2]
        have i3 : Wy.cell? ⟨H + 2, 3, none⟩ = some (.int .i64 b) := by simp [World.cell?, hm2]
        have i4 : Wy.cell? ⟨H + 2, 4, none⟩ = some (.slice A1 j d1) := by simp [World.cell?, hm2]
        obtain ⟨⟨_, g0, g1, g2, g3, g4⟩, fr0, fr1, fr2, fr3, fr4⟩ := five_of_block ((hy (H + 1) (by omega)).trans HRb.out)
        have HFF := hide (five_of_block ((hy (H + 1) (by omega)).trans HRb.out))
        have HD2 := hide ((hy (H + 4) (by omega)).trans HD.out)
        have Fin2 := hide (mir_out Fin.out hy hsy (v' := .agg #[.int .i64 6, .slice A n c, .int .i64 a, .int .i64 b, .slice A1 j d1]) (by simp))
        have HBy := hide hBy
        clear hm2 hy hBy
        go_wp2
        obtain ⟨e1, e2, e3, e4⟩ := mir_ret HD2.out HFF.out Fin2.out HBy.out
        refine ⟨by simp, .inl ⟨_, _, rfl, run_takeDeferred e1, ?_⟩⟩
        exact ⟨_, res_box25 rfl _ _ (H + 1) _ _ _ _ _ rfl e2, _, rfl, e3, e4⟩
      · by_cases h6 : k = 6
        · subst h6
          have i0 : Wx.cell? ⟨H + 2, 0, none⟩ = some (.int .i64 6) := by simp [World.cell?, HM.out]
          have if0 : Wx.frozen? ⟨H + 2, 0, none⟩ = false := by simp [World.frozen?, HM.out]
          obtain ⟨Wy, hWy⟩ : ∃ Wy, Wx.setCell ⟨H + 2, 0, none⟩ (.int .i64 5) = Wy := ⟨_, rfl⟩
          have hm2 : Wy.heap[H + 2]? = some (.cells #[.int .i64 5, .slice A n c, .int .i64 a, .int .i64 b, .slice A1 j d1] 25 (0, 0)) := by
            rw [← hWy]
            have := Go.Joins.block_setCell (i := 0) HM.out (.int .i64 5)
            simpa using this
          have hy : ∀ q, q ≠ H + 2 → Wy.heap[q]? = Wx.heap[q]? := fun q hq => by rw [← hWy]; exact Below.heap_setCell Wx ⟨H + 2, 0, none⟩ _ q hq
          have hBy : Below H W Wy := by rw [← hWy]; exact HB.out.setCell (by show H ≤ H + 2; omega) _
          have hsy : Wy.heap.size = Wx.heap.size := by rw [← hWy]; simp [World.setCell]
          have h65 : ((6 : Int) == 5) = false := rfl
          go_upto_region 11 with fail
          try rw [hWy]
          clear hWy i0 if0
          have i0 : Wy.cell? ⟨H + 2, 0, none⟩ = some (.int .i64 5) := by simp [World.cell?, hm2]
          have i1 : Wy.cell? ⟨H + 2, 1, none⟩ = some (.slice A n c) := by simp [World.cell?, hm2]
          have i2 : Wy.cell? ⟨H + 2, 2, none⟩ = some (.int .i64 a) := by simp [World.cell?, hm2]
          have i3 : Wy.cell? ⟨H + 2, 3, none⟩ = some (.int .i64 b) := by simp [World.cell?, hm2]
          have i4 : Wy.cell? ⟨H + 2, 4, none⟩ = some (.slice A1 j d1) := by simp [World.cell?, hm2]
          obtain ⟨⟨_, g0, g1, g2, g3, g4⟩, fr0, fr1, fr2, fr3, fr4⟩ := five_of_block ((hy (H + 1) (by omega)).trans HRb.out)
          have HFF := hide (five_of_block ((hy (H + 1) (by omega)).trans HRb.out))
          have HD2 := hide ((hy (H + 4) (by omega)).trans HD.out)
          have Fin2 := hide (mir_out Fin.out hy hsy (v' := .agg #[.int .i64 5, .slice A n c, .int .i64 a, .int .i64 b, .slice A1 j d1]) (by simp))
          have HBy := hide hBy
          clear hm2 hy hBy
          go_wp2
          obtain ⟨e1, e2, e3, e4⟩ := mir_ret HD2.out HFF.out Fin2.out HBy.out
          refine ⟨by simp, .inl ⟨_, _, rfl, run_takeDeferred e1, ?_⟩⟩
          exact ⟨_, res_box25 rfl _ _ (H + 1) _ _ _ _ _ rfl e2, _, rfl, e3, e4⟩
        · have h5' : (k == 5) = false := beq_eq_false_iff_ne.2 h5
          have h6' : (k == 6) = false := beq_eq_false_iff_ne.2 h6
          have hm2 : Wx.heap[H + 2]? = some (.cells #[.int .i64 k, .slice A n c, .int .i64 a, .int .i64 b, .slice A1 j d1] 25 (0, 0)) := HM.out
          have hy : ∀ q, q ≠ H + 2 → Wx.heap[q]? = Wx.heap[q]? := fun _ _ => rfl
          have hBy : Below H W Wx := HB.out
          have hsy : Wx.heap.size = Wx.heap.size := rfl
          go_upto_region 11 with fail
          have i0 : Wx.cell? ⟨H + 2, 0, none⟩ = some (.int .i64 k) := by simp [World.cell?, hm2]
          have i1 : Wx.cell? ⟨H + 2, 1, none⟩ = some (.slice A n c) := by simp [World.cell?, hm2]
          have i2 : Wx.cell? ⟨H + 2, 2, none⟩ = some (.int .i64 a) := by simp [World.cell?, hm2]
          have i3 : Wx.cell? ⟨H + 2, 3, none⟩ = some (.int .i64 b) := by simp [World.cell?, hm2]
          have i4 : Wx.cell? ⟨H + 2, 4, none⟩ = some (.slice A1 j d1) := by simp [World.cell?, hm2]
          obtain ⟨⟨_, g0, g1, g2, g3, g4⟩, fr0, fr1, fr2, fr3, fr4⟩ := five_of_block ((hy (H + 1) (by omega)).trans HRb.out)
          have HFF := hide (five_of_block ((hy (H + 1) (by omega)).trans HRb.out))
          have HD2 := hide ((hy (H + 4) (by omega)).trans HD.out)
          have Fin2 := hide (mir_out Fin.out hy hsy (v' := .agg #[.int .i64 k, .slice A n c, .int .i64 a, .int .i64 b, .slice A1 j d1]) (by simp [h5, h6]))
          have HBy := hide hBy
          clear hm2 hy hBy
          go_wp2
          obtain ⟨e1, e2, e3, e4⟩ := mir_ret HD2.out HFF.out Fin2.out HBy.out
          refine ⟨by simp, .inl ⟨_, _, rfl, run_takeDeferred e1, ?_⟩⟩
          exact ⟨_, res_box25 rfl _ _ (H + 1) _ _ _ _ _ rfl e2, _, rfl, e3, e4⟩
end Go.Proofs.YtlnbjdlooghpeaaGreatDoor
namespace Go.Proofs.YtlnbjdlooghpeaaGreatDoor
open Go.RowKit
theorem all_mirror : AllMirror := fun r _ hs W _ v hv =>
  (mirrored65 r hs W W.heap.size v (hv.map (fun _ _ _ => rfl) (fun _ _ hlt => hlt)) (Nat.le_refl _)).mono fun _ _ ⟨v', h1, h2, h3⟩ => ⟨v', h1, h2.map (fun _ _ _ => rfl) (fun _ _ _ => trivial), h3⟩
end Go.Proofs.YtlnbjdlooghpeaaGreatDoor
