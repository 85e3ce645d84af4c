/- TopRegex: Qj, Qk. -/
import Derived.Test.YtlnbjdlooghpeaaGreatDoorTQg
import Derived.Deep.DeepCutAuto
import Derived.Deep.RegionLaw
import Derived.Deep.AppendLies
namespace Go.Proofs.YtlnbjdlooghpeaaGreatDoor
open Go.RowKit
theorem NdV.far {w w' : World} {ok : Nat → Prop} {v v' u : Value} {x : Nd} (h : NdV w (fun g => ok g ∧ v.ownBlock ≠ some g) u x) (hf : Far w w' v v') : NdV w' (fun g => ok g ∧ v'.ownBlock ≠ some g) u x :=
  h.map (fun p hp hlt => World.cell?_of_block (hf.2 p.block hlt hp.2).1) fun g hg hlt => ⟨hg.1, (hf.2 g hlt hg.2).2⟩
end Go.Proofs.YtlnbjdlooghpeaaGreatDoor
namespace Go.Proofs.YtlnbjdlooghpeaaGreatDoor
open Go.RowKit
section
variable {P : Program} {ops : Array Oper} {o : Oper} {a : Act} {K : Act → World → Prop} {Q : Exit → Act → World → Prop} {E : Prop}
theorem step_push_nd (hgd : o.guard = none) (s x : Operand) (t : TypeId) (ho : o.op = .call { callee := .builtin .append, args := #[s, x], argTypes := #[t, t] })
    (i : TypeInfo) (z : Value) (bytes : Nat) (ht : P.underlying t = some (.slice 32)) (hi : P.info? 32 = some i) (hz : i.zero = some z) (hsize : i.size = 3) (hby : i.bytes = bytes) (hzs : z.cells.size = 3)
    (B : Nat) (ok : Nat → Prop) (v : Value) (xs : List Nd) (hs : a.eval s = v) (w0 : World) (c0 c1 c2 : Value) (r : Nd) (hown : OwnN w0 B ok v xs) (hB : B ≤ w0.heap.size) (H : Nat) (hH : H = w0.heap.size)
    (hx : a.eval x = .slice (some ⟨H, 0, none⟩) 1 1) (hr : NdV w0 (fun g => ok g ∧ v.ownBlock ≠ some g) (.agg #[c0, c1, c2]) r) (hlen : (xs.length + 1) * bytes ≤ 140737488355328) (h63 : xs.length + 1 ≤ maxLen)
    (h : ∀ g cap w', OwnN w' B ok (.slice (some ⟨g, 0, none⟩) (xs.length + 1) cap) (xs ++ [r]) → Below B w0 w' → K (a.put o.dst (.slice (some ⟨g, 0, none⟩) (xs.length + 1) cap)) w') :
    if Region.wanted o (yielded ops a.tmps) = true then Oper.wp P o a (w0.alloc (.cells #[c0, c1, c2] 32)) K Q else E := by
  subst hH
  obtain ⟨cs, vs, hown, hvl, h3, h4⟩ := hown
  have hone : ∀ u ∈ [c0, c1, c2], u.oneCell' = true := by
    obtain ⟨d0, d1, d2, e, h0, h1, h2⟩ := hr.agg
    injection e with e
    injection e with e
    simp only [List.cons.injEq, and_true] at e
    obtain ⟨rfl, rfl, rfl⟩ := e
    intro u hu
    simp only [List.mem_cons, List.not_mem_nil, or_false] at hu
    rcases hu with rfl | rfl | rfl <;> assumption
  refine step_append_lies _ hgd s x t ho B 32 i z 3 bytes ht hi hz hsize hby hzs (by decide) v xs.length cs hs (hown.alloc _) ⟨w0.heap.size, 0, none⟩ 1 1 [c0, c1, c2] hx rfl (c1_tri _ _ _ _ _) hone (by decide) h63 hlen (by simp; omega) (w0.heap.size + 1) (by simp) ?_
  intro g cap w' hown' hg hat0 _
  obtain ⟨v', hv'⟩ : ∃ v', Value.slice (some ⟨g, 0, none⟩) (xs.length + 1) cap = v' := ⟨_, rfl⟩
  have hob : v'.ownBlock = some g := by rw [← hv']; rfl
  have hat : v'.ownBlock = v.ownBlock ∨ v'.ownBlock = some (w0.alloc (.cells #[c0, c1, c2] 32)).heap.size := by
    rcases hat0 with h | h
    · exact Or.inl (hob.trans h.symm)
    · exact Or.inr (by rw [hob, h]; simp)
  rw [hv'] at hown'
  have main : OwnN w' B ok v' (xs ++ [r]) ∧ Below B w0 w' := by
    have hF : Far w0 w' v v' := by
      refine ⟨by have := hg.size; simp at this; omega, fun g hlt hne => ⟨?_, ?_⟩⟩
      · exact (hg.block g (by simp; omega) (fun e => hne e.symm)).trans (((Below.refl w0.heap.size w0).alloc (Nat.le_refl _) _).block g hlt)
      · rcases hat with hat | hat
        · rw [hat]; exact hne
        · rw [hat]; intro e; injection e with e; simp at e; omega
    have hmap : ∀ (u : Value) (y : Nd), NdV w0 (fun g => ok g ∧ v.ownBlock ≠ some g) u y → NdV w' (fun g => ok g ∧ v'.ownBlock ≠ some g) u y := fun u y hy => hy.far hF
    have hcl : cs.length = xs.length * 3 := hown.1
    refine ⟨⟨cs ++ [c0, c1, c2], vs ++ [.agg #[c0, c1, c2]], by rw [List.length_append]; exact hown', by simp [hvl], fun j u hu => ?_, fun j u y hu hy => ?_⟩, ?_⟩
    · by_cases hj : j < vs.length
      · rw [List.getElem?_append_left hj] at hu
        obtain ⟨d0, d1, d2, e, e0, e1, e2⟩ := h3 j u hu
        have key : ∀ (q : Nat) (d : Value), q < 3 → cs[j * 3 + q]? = some d → (cs ++ [c0, c1, c2])[j * 3 + q]? = some d := fun q d hq hd => by
          rw [List.getElem?_append_left (by omega)]; exact hd
        exact ⟨d0, d1, d2, e, key 0 _ (by omega) e0, key 1 _ (by omega) e1, key 2 _ (by omega) e2⟩
      · rw [List.getElem?_append_right (by omega)] at hu
        have hj' : j = vs.length := by
          have := (List.getElem?_eq_some_iff.1 hu).1
          simp at this
          omega
        subst hj'
        rw [Nat.sub_self] at hu
        cases hu
        have key : ∀ q, q < 3 → (cs ++ [c0, c1, c2])[vs.length * 3 + q]? = [c0, c1, c2][q]? := fun q hq => by
          rw [List.getElem?_append_right (by omega), show vs.length * 3 + q - cs.length = q by omega]
        exact ⟨c0, c1, c2, rfl, key 0 (by omega), key 1 (by omega), key 2 (by omega)⟩
    · by_cases hj : j < vs.length
      · rw [List.getElem?_append_left hj] at hu
        rw [List.getElem?_append_left (by omega)] at hy
        exact hmap u y (h4 j u y hu hy)
      · rw [List.getElem?_append_right (by omega)] at hu hy
        have hj' : j = vs.length := by
          have := (List.getElem?_eq_some_iff.1 hu).1
          simp at this
          omega
        subst hj'
        rw [Nat.sub_self] at hu
        rw [hvl, Nat.sub_self] at hy
        cases hu
        cases hy
        exact hmap _ _ hr
    · exact ((Below.refl B w0).alloc hB _).grown hg (by simp; omega) fun k hk => (hown.lt k hk).1
  rw [← hv'] at main
  exact h g cap w' main.1 main.2
end
end Go.Proofs.YtlnbjdlooghpeaaGreatDoor
