/- Bounds of lengths. -/
import Derived.Test.YtmiegjefmebpdaaGreatDoorKD
namespace Go.Proofs.YtmiegjefmebpdaaGreatDoor

def InB (p : Int × Int) (P : Int) : Prop := 0 ≤ p.1 ∧ p.1 ≤ P ∧ -1 ≤ p.2 ∧ p.2 ≤ P
def stepN (k : Int) (i : Nat) (p q : Int × Int) : Int × Int :=
  if k = 2 then catStep p q else if i = 0 then (q.1, if p.2 < 0 ∨ q.2 < 0 then -1 else if p.2 < q.2 then q.2 else p.2) else altStep p q
theorem lenL_step (k a b : Int) (i : Nat) (p : Int × Int) (x : Rx) (l : List Rx) (hk : k ≠ 4) : lenL k a b i p (x :: l) = lenL k a b (i + 1) (stepN k i p (lenR x)) l := by
  rw [lenL, if_neg hk]
  rfl
theorem stepN_in {k : Int} {i : Nat} {p q : Int × Int} {P Q : Int} (hp : InB p P) (hq : InB q Q) : InB (stepN k i p q) (P + Q) := by
  obtain ⟨p1, p2⟩ := p
  obtain ⟨q1, q2⟩ := q
  obtain ⟨h1, h2, h3, h4⟩ := hp
  obtain ⟨g1, g2, g3, g4⟩ := hq
  simp only at h1 h2 h3 h4 g1 g2 g3 g4
  unfold stepN catStep altStep
  split
  · refine ⟨?_, ?_, ?_, ?_⟩ <;> simp only <;> first | omega | (split <;> omega)
  · split
    · refine ⟨?_, ?_, ?_, ?_⟩ <;> simp only <;> first | omega | (split <;> first | omega | (split <;> omega))
    · refine ⟨?_, ?_, ?_, ?_⟩ <;> simp only <;> first | omega | (split <;> first | omega | (split <;> omega))
theorem InB.mono {p : Int × Int} {P Q : Int} (h : InB p P) (hpq : P ≤ Q) : InB p Q := ⟨h.1, by have := h.2.1; omega, h.2.2.1, by have := h.2.2.2; omega⟩
theorem lenL_in (k a b : Int) (D : Nat) (hk : k ≠ 4) : ∀ (l : List Rx) (i : Nat) (p : Int × Int) (P : Int), (∀ x ∈ l, InB (lenR x) ((sizeR x * D : Nat) : Int)) → InB p P → InB (lenL k a b i p l) (P + ((sizeL l * D : Nat) : Int))
  | [], i, p, P, _, hp => by
    rw [lenL]
    exact hp.mono (by omega)
  | x :: l, i, p, P, hx, hp => by
    rw [lenL_step k a b i p x l hk]
    have h := lenL_in k a b D hk l (i + 1) _ _ (fun y hy => hx y (List.mem_cons_of_mem _ hy)) (stepN_in (k := k) (i := i) hp (hx x (by simp)))
    refine h.mono ?_
    simp only [sizeL]
    rw [Nat.add_mul]
    omega
theorem rep_in {a b : Int} {q : Int × Int} {Q : Int} (hb : boundsR a b = true) (hq : InB q Q) (hQ : 0 ≤ Q) : InB (repStep a b q) (8 * Q) := by
  obtain ⟨q1, q2⟩ := q
  obtain ⟨g1, g2, g3, g4⟩ := hq
  simp only at g1 g2 g3 g4
  unfold boundsR at hb
  rw [decide_eq_true_eq] at hb
  obtain ⟨a0, a1, hb⟩ := hb
  have m1 : 0 ≤ a * q1 := Int.mul_nonneg a0 g1
  have m2 : a * q1 ≤ 8 * Q := Int.mul_le_mul a1 g2 g1 (by omega)
  unfold repStep
  split
  · exact ⟨m1, m2, (by simp), (by show (0 : Int) ≤ _; omega)⟩
  · split
    · exact ⟨m1, m2, (by simp), (by show (-1 : Int) ≤ _; omega)⟩
    · rename_i h1 h2
      have hb0 : 0 ≤ b := by omega
      have hq0 : 0 ≤ q2 := by simp only at h2; omega
      have m3 : 0 ≤ b * q2 := Int.mul_nonneg hb0 hq0
      have m4 : b * q2 ≤ 8 * Q := Int.mul_le_mul (by omega) g4 hq0 (by omega)
      exact ⟨m1, m2, (by show (-1 : Int) ≤ b * q2; omega), m4⟩
theorem len_in : ∀ (r : Rx), nodeR r = 0 → InB (lenR r) ((sizeR r * 8 ^ depthR r : Nat) : Int) := by
  intro r
  induction r using Rx.ind with
  | h k s a b l ih =>
    intro hn
    obtain ⟨hf, hbd, hsub⟩ := node_ok hn
    obtain ⟨hk7, hkset, hle, hab, h4, h3, hl0⟩ := fields_of hf
    have hpos : 1 ≤ 8 ^ depthL l := Nat.one_le_pow _ _ (by decide)
    have hdep : sizeR (.mk k s a b l) * 8 ^ depthR (.mk k s a b l) = (1 + sizeL l) * (8 ^ depthL l * 8) := by rw [sizeR, depthR, Nat.pow_succ]
    have hbig : (1 + sizeL l) * (8 ^ depthL l * 8) = 8 * 8 ^ depthL l + 8 * (sizeL l * 8 ^ depthL l) := by
      rw [Nat.add_mul, Nat.one_mul, Nat.mul_comm (8 ^ depthL l) 8, ← Nat.mul_assoc, Nat.mul_comm (sizeL l) 8, Nat.mul_assoc]
    rw [hdep, hbig]
    have hx : ∀ x ∈ l, InB (lenR x) ((sizeR x * 8 ^ depthL l : Nat) : Int) := fun x hx => (ih x hx (hsub x hx)).mono (by
      have := Nat.mul_le_mul_left (sizeR x) (Nat.pow_le_pow_right (show 0 < 8 by decide) (depthL_mem hx))
      omega)
    obtain ⟨S, hS⟩ : ∃ S, sizeL l * 8 ^ depthL l = S := ⟨_, rfl⟩
    rw [lenR]
    split
    · rw [hS]
      exact ⟨by decide, (by show (1 : Int) ≤ _; omega), by decide, (by show (1 : Int) ≤ _; omega)⟩
    · by_cases hk4 : k = 4
      · obtain ⟨x, rfl⟩ := List.length_eq_one_iff.1 (h4 hk4)
        rw [lenL, if_pos hk4]
        have h := rep_in (hbd hk4) (hx x (by simp)) (by omega)
        refine h.mono ?_
        have : sizeL [x] = sizeR x := by simp [sizeL]
        rw [this]
        omega
      · have h := lenL_in k a b (8 ^ depthL l) hk4 l 0 (0, 0) 0 hx ⟨by decide, by decide, by decide, by decide⟩
        refine h.mono ?_
        rw [hS]
        omega
theorem len_U {r : Rx} (hn : nodeR r = 0) (hs : sizeR r ≤ 1000) (hd : depthR r ≤ 12) : InB (lenR r) 68719476736000 := by
  refine (len_in r hn).mono ?_
  have h1 : 8 ^ depthR r ≤ 8 ^ 12 := Nat.pow_le_pow_right (by decide) hd
  have h2 : sizeR r * 8 ^ depthR r ≤ 1000 * 8 ^ 12 := Nat.mul_le_mul hs h1
  have h3 : (1000 * 8 ^ 12 : Nat) = 68719476736000 := by decide
  omega

end Go.Proofs.YtmiegjefmebpdaaGreatDoor
