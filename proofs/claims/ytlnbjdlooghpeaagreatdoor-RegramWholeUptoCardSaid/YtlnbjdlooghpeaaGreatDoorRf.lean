/- P8.8 over plain data: folding; no program. -/
import Derived.Test.YtlnbjdlooghpeaaGreatDoorRz
namespace Go.Proofs.YtlnbjdlooghpeaaGreatDoor

/-- The other case of a letter. -/
def othB (c : UInt8) : UInt8 := if 97 ≤ c.toNat ∧ c.toNat ≤ 122 then UInt8.ofNat (c.toNat - 32) else if 65 ≤ c.toNat ∧ c.toNat ≤ 90 then UInt8.ofNat (c.toNat + 32) else c
theorem othB_oth (c : UInt8) : othB (othB c) = c := by
  have h0 : c.toNat < 256 := c.toNat_lt
  unfold othB
  by_cases h : 97 ≤ c.toNat ∧ c.toNat ≤ 122
  · have e : (UInt8.ofNat (c.toNat - 32)).toNat = c.toNat - 32 := by simp; omega
    rw [if_pos h, e, if_neg (by omega), if_pos (by omega)]
    apply UInt8.toNat_inj.1
    simp
    omega
  · rw [if_neg h]
    by_cases h2 : 65 ≤ c.toNat ∧ c.toNat ≤ 90
    · have e : (UInt8.ofNat (c.toNat + 32)).toNat = c.toNat + 32 := by simp; omega
      rw [if_pos h2, e, if_pos (by omega)]
      apply UInt8.toNat_inj.1
      simp
    · rw [if_neg h2, if_neg h, if_neg h2]
theorem has_foldSet (set : List (UInt8 × UInt8)) (c : UInt8) : hasS (foldSet set) c = (hasS set c || hasS set (othB c)) := by
  have h0 : c.toNat < 256 := c.toNat_lt
  unfold foldSet
  rw [(rgN_has _ c 256 (Nat.le_refl _)).1]
  have e : UInt8.ofNat c.toNat = c := by simp
  unfold othB
  by_cases h : 97 ≤ c.toNat ∧ c.toNat ≤ 122
  · have h2 : ¬ (65 ≤ c.toNat ∧ c.toNat ≤ 90) := by omega
    simp [h0, h, h2]
  · by_cases h2 : 65 ≤ c.toNat ∧ c.toNat ≤ 90
    · simp [h0, h, h2]
    · simp [h0, h, h2]
theorem foldSet_same {a b : List (UInt8 × UInt8)} (h : ∀ c, hasS a c = hasS b c) : foldSet a = foldSet b := by
  unfold foldSet
  exact rgN_congr 256 fun i _ => by rw [h, h, h]
/-- Ranges that hold just the bytes of the folded set. -/
theorem foldSet_is {l set : List (UInt8 × UInt8)} (h : ∀ c, hasS l c = (hasS set c || hasS set (othB c))) : rangesS l false = foldSet set := by
  have e : rangesS (foldSet set) false = foldSet set := by
    show rgN _ 256 = rgN _ 256
    refine rgN_congr 256 fun i hi => ?_
    have := (rgN_has (fun i => hasS set (UInt8.ofNat i) || (decide (97 ≤ i ∧ i ≤ 122) && hasS set (UInt8.ofNat (i - 32))) || (decide (65 ≤ i ∧ i ≤ 90) && hasS set (UInt8.ofNat (i + 32)))) (UInt8.ofNat i) 256 (Nat.le_refl _)).1
    unfold foldSet
    rw [this]
    have e1 : (UInt8.ofNat i).toNat = i := by simp; omega
    rw [e1]
    simp [hi]
  rw [← e]
  exact ranges_same (fun c => by rw [h, has_foldSet]) false
theorem foldSet_fold (set : List (UInt8 × UInt8)) : foldSet (foldSet set) = foldSet set := by
  have h : ∀ c, hasS (foldSet set) c = (hasS (foldSet set) c || hasS (foldSet set) (othB c)) := fun c => by
    rw [has_foldSet, has_foldSet, othB_oth]
    cases hasS set c <;> cases hasS set (othB c) <;> rfl
  have e1 := foldSet_is h
  have e2 := foldSet_is (l := foldSet set) (set := set) fun c => has_foldSet set c
  rw [← e1, e2]
theorem foldSet_ne {set : List (UInt8 × UInt8)} (h : set ≠ []) (hle : ∀ r ∈ set, r.1 ≤ r.2) : foldSet set ≠ [] := by
  cases set with
  | nil => exact absurd rfl h
  | cons r l =>
    intro e
    have hr : hasS (r :: l) r.1 = true := by
      unfold hasS
      rw [List.any_cons]
      have := hle r (by simp)
      simp [this]
    have := has_foldSet (r :: l) r.1
    rw [e, hr] at this
    simp [hasS] at this
theorem foldSet_le (set : List (UInt8 × UInt8)) : ∀ r ∈ foldSet set, r.1 ≤ r.2 := fun r hr => UInt8.le_iff_toNat_le.2 ((rgN_has _ 0 256 (Nat.le_refl _)).2 r hr).1

theorem foldL_len : ∀ l, (foldL l).length = l.length
  | [] => rfl
  | x :: l => by unfold foldL; rw [List.length_cons, List.length_cons, foldL_len l]
theorem mem_foldL : ∀ {l : List Rx} {y : Rx}, y ∈ foldL l → ∃ x ∈ l, y = foldR x
  | [], y, h => by simp [foldL] at h
  | x :: l, y, h => by
    unfold foldL at h
    rcases List.mem_cons.1 h with rfl | h
    · exact ⟨x, by simp, rfl⟩
    · obtain ⟨z, hz, e⟩ := mem_foldL h
      exact ⟨z, by simp [hz], e⟩
theorem size_fold (r : Rx) : sizeR (foldR r) = sizeR r := by
  induction r using Rx.ind with
  | h k s a b l ih =>
    have : ∀ m : List Rx, (∀ x ∈ m, sizeR (foldR x) = sizeR x) → sizeL (foldL m) = sizeL m := by
      intro m
      induction m with
      | nil => intro _; rfl
      | cons x m ihm => intro h; simp only [foldL, sizeL]; rw [h x (by simp), ihm fun y hy => h y (by simp [hy])]
    simp only [foldR, sizeR]
    rw [this l ih]
theorem depth_fold (r : Rx) : depthR (foldR r) = depthR r := by
  induction r using Rx.ind with
  | h k s a b l ih =>
    have : ∀ m : List Rx, (∀ x ∈ m, depthR (foldR x) = depthR x) → depthL (foldL m) = depthL m := by
      intro m
      induction m with
      | nil => intro _; rfl
      | cons x m ihm => intro h; simp only [foldL, depthL]; rw [h x (by simp), ihm fun y hy => h y (by simp [hy])]
    simp only [foldR, depthR]
    rw [this l ih]
theorem len_fold (r : Rx) : lenR (foldR r) = lenR r := by
  induction r using Rx.ind with
  | h k s a b l ih =>
    have : ∀ (m : List Rx), (∀ x ∈ m, lenR (foldR x) = lenR x) → ∀ i p, lenL k a b i p (foldL m) = lenL k a b i p m := by
      intro m
      induction m with
      | nil => intro _ i p; rfl
      | cons x m ihm =>
        intro h i p
        simp only [foldL, lenL]
        rw [h x (by simp), ihm fun y hy => h y (by simp [hy])]
    simp only [foldR, lenR]
    rw [this l ih]
theorem fold_fold (r : Rx) : foldR (foldR r) = foldR r := by
  induction r using Rx.ind with
  | h k s a b l ih =>
    have : ∀ m : List Rx, (∀ x ∈ m, foldR (foldR x) = foldR x) → foldL (foldL m) = foldL m := by
      intro m
      induction m with
      | nil => intro _; rfl
      | cons x m ihm => intro h; simp only [foldL]; rw [h x (by simp), ihm fun y hy => h y (by simp [hy])]
    simp only [foldR]
    rw [this l ih]
    by_cases hk : k = 1
    · simp only [if_pos hk]; rw [foldSet_fold]
    · simp only [if_neg hk]
theorem node_fold (r : Rx) (h : nodeR r = 0) : nodeR (foldR r) = 0 := by
  induction r using Rx.ind with
  | h k s a b l ih =>
    obtain ⟨hf, hb, hsub⟩ := node_ok h
    obtain ⟨hk, hset, hle, hab, h4, h3, hl⟩ := fields_of hf
    have hL : nodeL (foldL l) = 0 := by
      have : ∀ m : List Rx, (∀ x ∈ m, nodeR (foldR x) = 0) → nodeL (foldL m) = 0 := by
        intro m
        induction m with
        | nil => intro _; rfl
        | cons x m ihm => intro h; simp only [foldL, nodeL]; rw [if_pos (h x (by simp))]; exact ihm fun y hy => h y (by simp [hy])
      exact this l fun x hx => ih x hx (hsub x hx)
    simp only [foldR]
    have hff : fieldsR (.mk k (if k = 1 then foldSet s else []) a b (foldL l)) = true := by
      have hf' := hf
      simp only [fieldsR, foldL_len, Bool.and_eq_true] at hf ⊢
      obtain ⟨⟨⟨⟨q1, q2⟩, q3⟩, q4⟩, q5⟩ := hf
      refine ⟨⟨⟨⟨q1, ?_⟩, ?_⟩, q4⟩, q5⟩
      · by_cases hk1 : k = 1
        · have hne := foldSet_ne (hset.1 hk1) hle
          have : 0 < (foldSet s).length := List.length_pos_iff.2 hne
          simp [hk1, this]
        · simp [hk1]
      · by_cases hk1 : k = 1
        · rw [if_pos hk1, List.all_eq_true]
          exact fun r hr => decide_eq_true (foldSet_le s r hr)
        · rw [if_neg hk1]; rfl
    unfold nodeR
    rw [if_neg (by rw [hff]; simp), if_neg (by rintro ⟨hk4, hbb⟩; rw [hb hk4] at hbb; cases hbb)]
    exact hL
theorem right_node {r : Rx} (h : rightR r = 0) : nodeR r = 0 ∧ sizeR r ≤ 40 ∧ depthR r ≤ 12 := by
  unfold rightR at h
  by_cases hn : nodeR r = 0
  · rw [if_pos hn] at h
    split at h
    · cases h
    · exact ⟨hn, by omega, by omega⟩
  · rw [if_neg hn] at h; exact absurd h hn
theorem right_fold (r : Rx) (h : rightR r = 0) : rightR (foldR r) = 0 := by
  obtain ⟨h1, h2, h3⟩ := right_node h
  unfold rightR
  rw [if_pos (node_fold r h1), size_fold, depth_fold, if_neg (by omega)]

/-! ### covers -/
mutual
def covR : Rx → Rx → Bool
  | .mk k s a b l, .mk k' s' a' b' l' => decide (k = k' ∧ a = a' ∧ b = b' ∧ l.length = l'.length) && (List.range 256).all (fun i => hasS s' (UInt8.ofNat i) == (hasS s (UInt8.ofNat i) || hasS s (othB (UInt8.ofNat i)))) && covL l l'
def covL : List Rx → List Rx → Bool
  | x :: l, y :: m => covR x y && covL l m
  | _, _ => true
end
theorem cov_fold (r : Rx) (h : nodeR r = 0) : covR r (foldR r) = true := by
  induction r using Rx.ind with
  | h k s a b l ih =>
    obtain ⟨hf, hb, hsub⟩ := node_ok h
    obtain ⟨hk, hset, hle, hab, h4, h3, hl⟩ := fields_of hf
    have hL : covL l (foldL l) = true := by
      have : ∀ m : List Rx, (∀ x ∈ m, covR x (foldR x) = true) → covL m (foldL m) = true := by
        intro m
        induction m with
        | nil => intro _; rfl
        | cons x m ihm => intro h; simp only [foldL, covL]; rw [h x (by simp), ihm fun y hy => h y (by simp [hy])]; rfl
      exact this l fun x hx => ih x hx (hsub x hx)
    simp only [foldR, covR]
    rw [hL, foldL_len]
    simp only [true_and, decide_true, Bool.true_and, Bool.and_true, List.all_eq_true]
    intro i _
    by_cases hk1 : k = 1
    · rw [if_pos hk1, has_foldSet]; simp
    · have : s = [] := Classical.byContradiction fun e => hk1 (hset.2 e)
      rw [if_neg hk1, this]
      rfl

end Go.Proofs.YtlnbjdlooghpeaaGreatDoor
