/- What the program's elements reads; that Unpack's test of it is right; binary search; no program. -/
import Derived.Test.YtfljmnjcoagbmaaV6
namespace Go.Proofs.Ytfljmnjcoagbmaa

/-- The elements of the blocks; none if they cannot be read. -/
def eltP (b : List UInt8) : List Int :=
  match getP b 0 with
  | (x, nx, er) => if er ≠ 0 then [] else ((skipP b (2 * ((x + 15) / 16)) (nx : Int)).bind fun i => partsP b ((x + 15) / 16) i []).getD []
theorem elt_bad (b : List UInt8) (x nx er : Nat) (hg : getP b 0 = (x, nx, er)) (h : er ≠ 0) : eltP b = [] := by
  unfold eltP
  rw [hg]
  exact if_pos h
theorem elt_go (b : List UInt8) (x nx K : Nat) (hg : getP b 0 = (x, nx, 0)) (hK : (x + 15) / 16 = K) : eltP b = ((skipP b (2 * K) (nx : Int)).bind fun i => partsP b K i []).getD [] := by
  unfold eltP
  rw [hg, ← hK]
  exact if_neg (by simp)
theorem elt_pack (l : List Int) (h : valP l = true) : eltP (packP l) = l := by
  have hl := val_len l h
  have hg := blocks_good l h
  have g0 := getP_back [] (headsP (blocksP l) ++ bodiesP (blocksP l)) l.length (by unfold big; omega)
  rw [List.nil_append, List.length_nil, Nat.zero_add] at g0
  have g1 := skip_heads (blocksP l) (enc l.length) (bodiesP (blocksP l)) hg
  have g2 := parts_bodies (blocksP l) (enc l.length ++ headsP (blocksP l)) [] hg
  rw [List.nil_append, blocks_flat, List.append_assoc, List.length_append] at g2
  rw [blocks_len] at g1 g2
  have g0' : getP (packP l) 0 = (l.length, (enc l.length).length, 0) := g0
  have g1' : skipP (packP l) (2 * ((l.length + 15) / 16)) ((enc l.length).length : Int) = some (((enc l.length).length + (headsP (blocksP l)).length : Nat) : Int) := g1
  have g2' : partsP (packP l) ((l.length + 15) / 16) (((enc l.length).length + (headsP (blocksP l)).length : Nat) : Int) [] = some l := g2
  rw [elt_go _ _ _ _ g0' rfl, g1']
  show (partsP (packP l) _ _ []).getD [] = l
  rw [g2']
  rfl
theorem unp_no (b : List UInt8) (h : ¬ (valP (eltP b) = true ∧ packP (eltP b) = b)) : unpackP b = none := by
  cases hu : unpackP b with
  | none => rfl
  | some l =>
    obtain ⟨h1, h2⟩ := (unpack_iff b l).1 hu
    have he := elt_pack l h1
    rw [h2] at he
    exact absurd ⟨by rw [he]; exact h1, by rw [he]; exact h2⟩ h
theorem unp_yes (b : List UInt8) (h1 : valP (eltP b) = true) (h2 : packP (eltP b) = b) : unpackP b = some (eltP b) := (unpack_iff b _).2 ⟨h1, h2⟩

theorem gl_next (l : List UInt8) : ∀ (k : Nat) (xs : List Int) (nxt : Nat) (ys : List Int) (ny : Nat), nxt ≤ l.length → gl l k xs nxt = (ys, ny, 0) → nxt ≤ ny ∧ ny ≤ l.length
  | 0, xs, nxt, ys, ny, hn, h => by
    unfold gl at h
    cases h
    exact ⟨Nat.le_refl _, hn⟩
  | k + 1, xs, nxt, ys, ny, hn, h => by
    obtain ⟨⟨d, a, er⟩, hg⟩ : ∃ g, getP l (nxt : Int) = g := ⟨_, rfl⟩
    by_cases he : er = 0
    · subst he
      have hx := getP_next l _ d a hg
      by_cases h1 : xs ≠ [] ∧ d = 0
      · rw [gl_form l k xs nxt d a hg h1.1 h1.2] at h
        cases h
      · by_cases h2 : (4611686018427387904 : Int) < xs.getLastD 0 + (d : Int)
        · rw [gl_long l k xs nxt d a hg h1 h2] at h
          cases h
        · rw [gl_ok l k xs nxt d a hg h1 h2] at h
          have := gl_next l k _ a ys ny hx.1 h
          omega
    · rw [gl_bad l k xs nxt d a er hg he] at h
      simp only [Prod.mk.injEq] at h
      omega
theorem getL_next (l : List UInt8) (i most : Int) (ys : List Int) (ny : Nat) (h : getL l i most = (ys, ny, 0)) : 0 ≤ i ∧ i < (ny : Int) ∧ ny ≤ l.length := by
  obtain ⟨⟨x, nx, er⟩, hg⟩ : ∃ g, getP l i = g := ⟨_, rfl⟩
  by_cases he : er = 0
  · subst he
    have hx := getP_next l i x nx hg
    by_cases h1 : most < (x : Int)
    · rw [getL_long l i most x nx hg h1] at h
      cases h
    · rw [getL_go l i most x nx hg h1] at h
      have := gl_next l x [] nx ys ny hx.1 h
      omega
  · rw [getL_bad l i most x nx er hg he] at h
    simp only [Prod.mk.injEq] at h
    omega

/-- How many are less than m. -/
def cntL (l : List Int) (m : Int) : Nat := l.countP fun y => decide (y < m)
theorem cntL_le (l : List Int) (m : Int) : cntL l m ≤ l.length := List.countP_le_length
theorem cnt_spec : ∀ (l : List Int) (m : Int), Up l → (∀ y ∈ l.take (cntL l m), y < m) ∧ ∀ z, l[cntL l m]? = some z → m ≤ z
  | [], m, _ => ⟨by simp, by simp⟩
  | x :: l, m, h => by
    have h' := up_cons.1 h
    have ih := cnt_spec l m h'.2
    by_cases hx : x < m
    · have e : cntL (x :: l) m = cntL l m + 1 := by unfold cntL; rw [List.countP_cons_of_pos (by simpa using hx)]
      rw [e]
      refine ⟨fun y hy => ?_, fun z hz => ih.2 z (by simpa using hz)⟩
      rw [List.take_succ_cons] at hy
      rcases List.mem_cons.1 hy with rfl | hy
      · exact hx
      · exact ih.1 y hy
    · have e : cntL (x :: l) m = 0 := by
        unfold cntL
        rw [List.countP_eq_zero]
        intro y hy
        rcases List.mem_cons.1 hy with rfl | hy
        · simpa using hx
        · have := h'.1 y hy; simp; omega
      rw [e]
      exact ⟨by simp, fun z hz => by simp at hz; omega⟩

end Go.Proofs.Ytfljmnjcoagbmaa
