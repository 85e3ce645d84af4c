/- What the form's own reach gives: the lengths of the lists of the grams of an argument. -/
import Derived.Test.YtdegppifgcbaeaaAr
import Derived.SizedLaws
namespace Go.Proofs.Ytdegppifgcbaeaa
open Go.RowKit Go.ChangeShapes Go.WideShapes Go.Joins

variable {H : Type} {enc : TypeId × Value → H} {W : World}

theorem bytes3 : Try.prog.bytesOf 3 = 8 := by kernel_rfl
theorem weights_all (e : TypeId) (l : List (DataW H)) (d : DataW H) (h : d ∈ l) (x : Nat) (hx : x ∈ d.weights Try.prog e) : x ∈ DataW.weightsAll Try.prog e l := by
  induction l with
  | nil => simp at h
  | cons a r ih =>
    simp only [DataW.weightsAll, List.mem_append]
    rcases List.mem_cons.1 h with rfl | h
    · exact Or.inl hx
    · exact Or.inr (ih h)
theorem lits_len (k : IntKind) (zs : List Int) : (lits (H := H) k zs).length = zs.length := by simp [lits]
theorem ints_reach {fuel : Nat} {v : Value} {y : DataW H × List MemPlace} (h : DataW.trod enc Try.prog W 0 (fun _ => true) true fuel 29 [v] = some y) :
    ∃ A n c l, v = .slice A n c ∧ Sl W A n c (numCells l) ∧ (l = [] ∨ ∃ x ∈ y.1.weights Try.prog 29, l.length * 8 ≤ x) := by
  rcases open_ints Try.underlying29 Try.underlying3 (by kernel_rfl) h with ⟨hcs, _⟩ | ⟨a, len, cap, zs, hcs, _, hl, hm, hz, hy, hcell, hw⟩
  · cases hcs
    exact ⟨none, 0, 0, [], rfl, Sl.nil W, Or.inl rfl⟩
  · cases hcs
    have hz' : zs.length = cap := by simpa using hz
    have hd : y.1 = .slice (lits .i64 (zs.take len)) (lits .i64 (zs.drop len)) := congrArg Prod.fst hy
    refine ⟨some a, len, cap, zs.take len, rfl, ⟨hl, by unfold maxLen at hm; omega, (fun e => by cases e), reads_of (by rw [num_len, List.length_take]; omega) ?_⟩, Or.inr ?_⟩
    · intro j u hu
      have hj : j < len := by have := (List.getElem?_eq_some_iff.1 hu).1; rw [num_len, List.length_take] at this; omega
      have hjl : j < zs.length := by omega
      have e0 : (zs.take len)[j]? = some zs[j] := by rw [List.getElem?_take, if_pos hj, List.getElem?_eq_getElem hjl]
      rw [num_get _ j _ e0] at hu
      cases hu
      rw [hcell j hjl]
      simp [List.getD, hjl]
    · refine ⟨((zs.take len).length + (zs.drop len).length) * 8, ?_, by omega⟩
      rw [hd]
      simp only [DataW.weights, Try.underlying29, bytes3, lits_len]
      exact List.mem_cons_self
/-- A parameter that is a slice of grams, with what the reach bounds. -/
theorem grams_reach {A : Option Addr} {n c : Nat} {d : DataW H} {p : List MemPlace} (h : DataW.Trod enc Try.prog W 0 (fun _ => true) true 32 (.slice A n c) d p) (hr : ∀ x ∈ d.weights Try.prog 32, x ≤ reachBytes) :
    ∃ gs, GrS W A n c gs ∧ ∀ g ∈ gs, g.2.length ≤ 17592186044416 := by
  obtain ⟨fuel, hf⟩ := h
  have hf' : DataW.trod enc Try.prog W 0 (fun _ => true) true fuel 32 [.slice A n c] = some (d, p) := by simpa [Value.cells] using hf
  rcases Go.Deep.open_slice Try.underlying32 hf' with ⟨hcs, _⟩ | ⟨a, len, cap, m, q, D, Pl, hcs, _, hl, hm, hmm, hd, hx⟩
  · cases hcs
    exact ⟨[], ⟨Nat.le_refl _, by omega, rfl, fun i f hf => by simp at hf⟩, by simp⟩
  · cases hcs
    have hm' : m = c := by simpa using hmm
    have hd' : d = .slice ((List.range n).map D) ((List.range (m - n)).map fun j => D (n + j)) := congrArg Prod.fst hd
    have hri : ∀ i, i < n → ∀ x ∈ (D i).weights Try.prog 39, x ≤ reachBytes := by
      intro i hi x hxx
      refine hr x ?_
      rw [hd']
      simp only [DataW.weights, Try.underlying32]
      exact List.mem_cons_of_mem _ (List.mem_append.2 (Or.inl (weights_all 39 _ (D i) (List.mem_map.2 ⟨i, List.mem_range.2 hi, rfl⟩) x hxx)))
    obtain ⟨gs, hgl, hgs⟩ := list_of n (fun i (x : Int × List Int) => (∃ B p q, W.cell? (a.add (i * 2)) = some (.int .i64 x.1) ∧ W.cell? (a.add (i * 2 + 1)) = some (.slice B p q) ∧ Sl W B p q (numCells x.2)) ∧ x.2.length ≤ 17592186044416) fun i hi => by
      obtain ⟨cs, hc, ht⟩ := hx i (by omega)
      rw [cells39] at hc
      obtain ⟨_, hcl, hat⟩ := World.cells?_some hc
      obtain ⟨y0, y1, k, hDi, _, h0, h1⟩ := trod_struct2 Try.underlying39 ht
      have hDi' : D i = .agg [y0.1, y1.1] := congrArg Prod.fst hDi
      have hyr : ∀ x ∈ y1.1.weights Try.prog 29, x ≤ reachBytes := by
        intro x hxx
        refine hri i hi x ?_
        rw [hDi']
        simp only [DataW.weights, Try.underlying39]
        exact DataW.weights_mem_each (j := 1) (t := 29) (d := y1.1) rfl rfl x hxx
      match cs, hcl with
      | [v0, v1], _ =>
        have e0 := hat 0 (by omega)
        have e1 := hat 1 (by omega)
        rw [Go.Deep.add_add] at e0 e1
        obtain ⟨z0, q0, _, w0⟩ := DataW.trod_int Try.underlying3 h0
        have h1' : DataW.trod enc Try.prog W 0 (fun _ => true) true k 29 [v1] = some y1 := h1
        obtain ⟨B, p', q', xs, q1, hs, hb⟩ := ints_reach h1'
        have r0 : v0 = .int .i64 z0 := (List.cons.inj (q0 : [v0] = [.int .i64 z0])).1
        subst r0 q1
        refine ⟨(z0, xs), ⟨B, p', q', e0, e1, hs⟩, ?_⟩
        show xs.length ≤ _
        rcases hb with rfl | ⟨x, hxx, hle⟩
        · simp
        · have := hyr x hxx
          unfold reachBytes at this
          omega
    refine ⟨gs, ⟨hl, by unfold maxLen at hm; omega, hgl, fun i x hxx => ?_⟩, fun g hg => ?_⟩
    · have hi := (List.getElem?_eq_some_iff.1 hxx).1
      obtain ⟨g, o, sp⟩ := a
      obtain ⟨⟨_, _, _, k0, _⟩, _⟩ := hgs 0 gs[0] (List.getElem?_eq_getElem (by omega))
      have hsp : sp = none := by simpa [Addr.add] using World.cell?_spot k0
      subst hsp
      obtain ⟨⟨B, p', q', h0, h1, hs⟩, _⟩ := hgs i x hxx
      rw [add_plain] at h0 h1
      exact ⟨g, o, rfl, B, p', q', h0, h1, hs⟩
    · obtain ⟨i, hi, rfl⟩ := List.getElem_of_mem hg
      exact (hgs i _ (List.getElem?_eq_getElem hi)).2

end Go.Proofs.Ytdegppifgcbaeaa
