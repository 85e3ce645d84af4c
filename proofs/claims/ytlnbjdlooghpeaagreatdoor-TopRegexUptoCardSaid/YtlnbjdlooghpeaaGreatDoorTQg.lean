/- TopRegex: Qg, Qh. -/
import Derived.Test.YtlnbjdlooghpeaaGreatDoorTQf
import Derived.Deep.Cut
namespace Go.Proofs.YtlnbjdlooghpeaaGreatDoor
open Go.RowKit
def TriF (w : World) (b : Nat) (c0 c1 c2 : Value) : Prop := Tri3 w b c0 c1 c2 ∧ w.frozen? ⟨b, 0, none⟩ = false ∧ w.frozen? ⟨b, 1, none⟩ = false ∧ w.frozen? ⟨b, 2, none⟩ = false
theorem triF_new (w : World) (c0 c1 c2 : Value) (T : TypeId) : TriF (w.alloc (.cells #[c0, c1, c2] T)) w.heap.size c0 c1 c2 := by
  refine ⟨tri3_new w c0 c1 c2 T, ?_, ?_, ?_⟩ <;> (rw [World.frozen?_alloc_mark]; simp)
theorem TriF.at_ {w w' : World} {b B : Nat} {c0 c1 c2 : Value} (h : TriF w b c0 c1 c2) (hb : Below B w w') (hlt : b < B) : TriF w' b c0 c1 c2 := by
  obtain ⟨⟨h0, h1, h2, h3⟩, f0, f1, f2⟩ := h
  have key : ∀ k : Nat, w'.cell? ⟨b, k, none⟩ = w.cell? ⟨b, k, none⟩ := fun k => hb.cell (p := ⟨b, k, none⟩) hlt
  have fkey : ∀ k : Nat, w'.frozen? ⟨b, k, none⟩ = w.frozen? ⟨b, k, none⟩ := fun k => hb.frozen (p := ⟨b, k, none⟩) hlt
  exact ⟨⟨Nat.lt_of_lt_of_le h0 hb.size, (key _).trans h1, (key _).trans h2, (key _).trans h3⟩, (fkey _).trans f0, (fkey _).trans f1, (fkey _).trans f2⟩
theorem TriF.keep {w w' : World} {b : Nat} {c0 c1 c2 : Value} (h : TriF w b c0 c1 c2) (hb : Below w.heap.size w w') : TriF w' b c0 c1 c2 := h.at_ hb h.1.1
theorem set_off (w : World) (b j k : Nat) (u : Value) (h : j ≠ k) : (w.setCell ⟨b, j, none⟩ u).cell? ⟨b, k, none⟩ = w.cell? ⟨b, k, none⟩ := World.cell?_setCell_other _ _ _ _ (fun e => h (congrArg Addr.off e))
def put3 (w : World) (b : Nat) (u0 u1 u2 : Value) : World := ((w.setCell ⟨b, 0, none⟩ u0).setCell ⟨b, 1, none⟩ u1).setCell ⟨b, 2, none⟩ u2
theorem put3_tri {w : World} {b : Nat} {c0 c1 c2 : Value} (h : TriF w b c0 c1 c2) (u0 u1 u2 : Value) : Tri3 (put3 w b u0 u1 u2) b u0 u1 u2 := by
  obtain ⟨⟨h0, h1, h2, h3⟩, _⟩ := h
  unfold put3
  refine ⟨by simpa [World.setCell] using h0, ?_, ?_, ?_⟩
  · rw [set_off _ _ _ _ _ (by decide), set_off _ _ _ _ _ (by decide)]
    exact World.cell?_setCell_same _ _ _ h1
  · rw [set_off _ _ _ _ _ (by decide)]
    exact World.cell?_setCell_same _ _ _ (by rw [set_off _ _ _ _ _ (by decide)]; exact h2)
  · exact World.cell?_setCell_same _ _ _ (by rw [set_off _ _ _ _ _ (by decide), set_off _ _ _ _ _ (by decide)]; exact h3)
theorem put3_below {B b : Nat} {w w' : World} {u0 u1 u2 : Value} (h : Below B w w') (hb : B ≤ b) : Below B w (put3 w' b u0 u1 u2) :=
  ((h.setCell (by exact hb) _).setCell (by exact hb) _).setCell (by exact hb) _
theorem put3_cell {w : World} {b : Nat} {u0 u1 u2 : Value} {p : Addr} (h : p.block ≠ b) : (put3 w b u0 u1 u2).cell? p = w.cell? p := by
  unfold put3
  have key : ∀ (W : World) (j : Nat) (u : Value), (W.setCell ⟨b, j, none⟩ u).cell? p = W.cell? p := fun W j u => World.cell?_setCell_other _ _ _ _ (fun e => h (congrArg Addr.block e).symm)
  rw [key, key, key]
theorem put3_ndv {w : World} {b : Nat} {ok ok' : Nat → Prop} {u0 u1 u2 v : Value} {r : Nd} (h : NdV w ok v r) (hb : ¬ ok b) (ho : ∀ g, ok g → ok' g) : NdV (put3 w b u0 u1 u2) ok' v r :=
  h.map (fun _ hp _ => put3_cell fun e => hb (e ▸ hp)) fun g hg _ => ho g hg
theorem TriF.set2 {w : World} {b : Nat} {c0 c1 c2 : Value} (h : TriF w b c0 c1 c2) (u : Value) : TriF (w.setCell ⟨b, 2, none⟩ u) b c0 c1 u := by
  obtain ⟨⟨h0, h1, h2, h3⟩, f0, f1, f2⟩ := h
  have fk : ∀ k : Nat, (w.setCell ⟨b, 2, none⟩ u).frozen? ⟨b, k, none⟩ = w.frozen? ⟨b, k, none⟩ := fun k => World.frozen?_setCell _ _ _ _
  refine ⟨⟨by simpa [World.setCell] using h0, ?_, ?_, ?_⟩, (fk _).trans f0, (fk _).trans f1, (fk _).trans f2⟩
  · rw [set_off _ _ _ _ _ (by decide)]; exact h1
  · rw [set_off _ _ _ _ _ (by decide)]; exact h2
  · exact World.cell?_setCell_same _ _ _ h3
theorem NdV.setc {w : World} {b j : Nat} {ok : Nat → Prop} {u v : Value} {r : Nd} (h : NdV w ok v r) (hb : ¬ ok b) : NdV (w.setCell ⟨b, j, none⟩ u) ok v r :=
  h.map (fun p hp _ => World.cell?_setCell_other _ _ _ _ (fun e => hb (by have e' := congrArg Addr.block e; dsimp only at e'; rw [e']; exact hp))) fun g hg _ => hg
theorem ownsRow_setc {w : World} {b j B e sz n : Nat} {u v : Value} {xs : List Value} (h : w.ownsRow B e sz v n xs) (hb : b < B) : (w.setCell ⟨b, j, none⟩ u).ownsRow B e sz v n xs := by
  refine ⟨h.1, ?_⟩
  rcases h.2 with h2 | ⟨g, cap, cur, hv, hB, hh, hr⟩
  · exact Or.inl h2
  · exact Or.inr ⟨g, cap, cur, hv, hB, (Below.heap_setCell w ⟨b, j, none⟩ u g (by simp; omega)).trans hh, hr⟩
theorem OwnN.setc {w : World} {b j B : Nat} {ok : Nat → Prop} {u v : Value} {xs : List Nd} (h : OwnN w B ok v xs) (hb : b < B) (hk : ¬ ok b) : OwnN (w.setCell ⟨b, j, none⟩ u) B ok v xs := by
  obtain ⟨cs, vs, h1, h2, h3, h4⟩ := h
  exact ⟨cs, vs, ownsRow_setc h1 hb, h2, h3, fun i u x hu hx => (h4 i u x hu hx).setc fun h => hk h.1⟩
theorem load_tri {W : World} {b : Nat} {c0 c1 c2 : Value} (h : Tri3 W b c0 c1 c2) : (loadVar 32 ⟨b, 0, none⟩).run Tryz.prog W = .ok (.agg #[c0, c1, c2]) W := by
  obtain ⟨h0, h1, h2, h3⟩ := h
  go_simp
theorem res_box {fn : Func} {p : Tmp} (h : fn.results = #[.cell p 32]) (tmps : Array Value) (W : World) (b : Nat) (c0 c1 c2 : Value) (hp : tmps.getD p undef = .pointer (some ⟨b, 0, none⟩)) (hf : Tri3 W b c0 c1 c2) :
    (results fn tmps).run Tryz.prog W = .ok (.agg #[c0, c1, c2]) W := by
  have hp' : tmps[p]?.getD undef = .pointer (some ⟨b, 0, none⟩) := by simpa using hp
  simp [results, h, hp', asAddr, load_tri hf]
theorem infoN : (Tryz.prog.info? 32).map (fun i => (i.zero, i.size, i.bytes)) = some (some (.agg #[.int .i64 0, .int .i64 0, .slice none 0 0]), 3, 40) := by kernel_rfl
def GotN (W : World) (n : Nd) (e : Ending) (w' : World) : Prop := ∃ v, e = .returned v ∧ NdV w' (fun g => W.heap.size ≤ g) v n ∧ Below W.heap.size W w'
end Go.Proofs.YtlnbjdlooghpeaaGreatDoor
namespace Go.Proofs.YtlnbjdlooghpeaaGreatDoor
open Go.RowKit
theorem extract_list (s : ByteArray) (a b : Nat) : (s.extract a b).data.toList = (s.data.toList.drop a).take (b - a) := by
  rw [ByteArray.data_extract, Array.toList_extract, List.extract_eq_take_drop]
theorem tri_extract (s : List UInt8) (k : Nat) : tri ((bsx s).extract k (k + 3)).data.toList 0 = tri s k := by
  rw [extract_list, bsx_list, show k + 3 - k = 3 by omega]
  have key : ∀ m, m < 3 → fat ((s.drop k).take 3) m = fat s (k + m) := fun m hm => by
    unfold fat List.getD
    rw [List.getElem?_take_of_lt hm, List.getElem?_drop]
  unfold tri
  rw [key 0 (by omega), key (0 + 1) (by omega), key (0 + 2) (by omega), Nat.add_zero, Nat.zero_add, Nat.zero_add]
theorem tris_get {s : List UInt8} {k : Nat} (h : k + 3 ≤ s.length) : (tris s)[k]? = some (tri s k) := by
  unfold tris
  rw [List.getElem?_map, List.getElem?_range (by omega)]
  rfl
def leafN (c : Int) : Nd := .mk 3 c []
theorem andN_leaf (s : List UInt8) : andN s = .mk 4 0 ((tris s).map leafN) := rfl
end Go.Proofs.YtlnbjdlooghpeaaGreatDoor
