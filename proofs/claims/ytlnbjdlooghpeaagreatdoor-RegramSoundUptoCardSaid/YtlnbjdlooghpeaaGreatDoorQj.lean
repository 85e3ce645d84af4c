/- Layer 10: walk of the reference: simple. -/
import Derived.Test.YtlnbjdlooghpeaaGreatDoorQi
import Derived.Deep.DeepCutAuto
namespace Go.Proofs.YtlnbjdlooghpeaaGreatDoor
open Go.RowKit

theorem NdV.far {w w' : World} {ok : Nat → Prop} {v v' u : Value} {x : Nd} (h : NdV w (fun g => ok g ∧ v.ownBlock ≠ some g) u x) (hf : Far w w' v v') : NdV w' (fun g => ok g ∧ v'.ownBlock ≠ some g) u x :=
  h.map (fun p hp hlt => World.cell?_of_block (hf.2 p.block hlt hp.2).1) fun g hg hlt => ⟨hg.1, (hf.2 g hlt hg.2).2⟩
theorem Tri3.far {w w' : World} {b : Nat} {c0 c1 c2 v v' : Value} (h : Tri3 w b c0 c1 c2) (hn : v.ownBlock ≠ some b) (hf : Far w w' v v') : Tri3 w' b c0 c1 c2 ∧ v'.ownBlock ≠ some b := by
  obtain ⟨h0, h1, h2, h3⟩ := h
  obtain ⟨k1, k2⟩ := hf.2 b h0 hn
  have key : ∀ k : Nat, w'.cell? ⟨b, k, none⟩ = w.cell? ⟨b, k, none⟩ := fun k => World.cell?_of_block k1
  exact ⟨⟨Nat.lt_of_lt_of_le h0 hf.1, (key _).trans h1, (key _).trans h2, (key _).trans h3⟩, k2⟩
theorem simpL_next {k : Int} {l : List Nd} {i : Nat} {x : Nd} (h : l[i]? = some x) : simpL k [] (l.take (i + 1)) = addN k (simpL k [] (l.take i)) (simpN x) := by
  rw [simpL_eq, simpL_eq, takeN h, List.foldl_append]
  rfl
theorem onces_next {xs l : List Nd} {i : Nat} {x : Nd} (h : xs[i]? = some x) : (xs.take (i + 1)).foldl onceN l = onceN ((xs.take i).foldl onceN l) x := by
  rw [takeN h, List.foldl_append]
  rfl
theorem simpL_len (k : Int) (l : List Nd) (i : Nat) : (simpL k [] (l.take i)).length ≤ sizeNL l := by
  have h1 := simpL_size k (l.take i) [] fun n _ => simp_size n
  have h2 := sizeNL_take l i
  have h3 := sizeNL_len (simpL k [] (l.take i))
  rw [show sizeNL [] = 0 from by rw [sizeNL]] at h1
  omega
theorem once_grows (l : List Nd) (x : Nd) : l.length ≤ (onceN l x).length := by
  unfold onceN
  split
  · exact Nat.le_refl _
  · simp
theorem onces_grow : ∀ (xs l : List Nd), l.length ≤ (xs.foldl onceN l).length
  | [], _ => Nat.le_refl _
  | x :: xs, l => Nat.le_trans (once_grows l x) (onces_grow xs (onceN l x))
theorem onces_part (xs l : List Nd) (j : Nat) : ((xs.take j).foldl onceN l).length ≤ (xs.foldl onceN l).length := by
  have e : xs.foldl onceN l = (xs.drop j).foldl onceN ((xs.take j).foldl onceN l) := by rw [← List.foldl_append, List.take_append_drop]
  rw [e]
  exact onces_grow _ _
/-- A condition in old memory of which ok holds, or in new. -/
def GotM (W : World) (ok : Nat → Prop) (n : Nd) (e : Ending) (w' : World) : Prop := ∃ v, e = .returned v ∧ NdV w' (fun g => ok g ∨ W.heap.size ≤ g) v n ∧ Below W.heap.size W w'
theorem ndN_mk (n : Nd) : n = .mk n.kind n.gram n.subs := by cases n; rfl

end Go.Proofs.YtlnbjdlooghpeaaGreatDoor
