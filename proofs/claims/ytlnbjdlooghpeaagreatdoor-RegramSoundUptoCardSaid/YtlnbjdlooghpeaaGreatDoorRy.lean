/- P8.7 over plain data: parsing the canonical string gives the expression; no program. -/
import Derived.Test.YtlnbjdlooghpeaaGreatDoorRx
namespace Go.Proofs.YtlnbjdlooghpeaaGreatDoor

/-! ### enough fuel -/
theorem setE_len : ∀ n acc l x r, setE n acc l = some (x, r) → r.length < l.length
  | 0, _, _, _, _, h => by simp [setE] at h
  | n + 1, acc, [], x, r, h => by simp [setE] at h
  | n + 1, acc, c :: l, x, r, h => by
    unfold setE at h
    split at h
    · split at h
      · cases h
      · cases h; simp
    · have one_len : ∀ (l : List UInt8) y q, oneS l = some (y, q) → q.length < l.length := by
        intro l y q h
        cases l with
        | nil => simp [oneS] at h
        | cons c l =>
          simp only [oneS] at h
          split at h
          · cases h
          · split at h
            · cases l with
              | nil => simp at h
              | cons d l' =>
                simp only at h
                split at h
                · cases h; simp; omega
                · cases h
            · split at h
              · cases h
              · cases h; simp
      split at h
      · cases h
      · rename_i y q hy
        have h1 := one_len _ _ _ hy
        split at h
        · split at h
          · cases h
          · split at h
            · cases h
            · rename_i z e hz
              have h2 := one_len _ _ _ hz
              split at h
              · cases h
              · have := setE_len n _ _ _ _ h
                simp at h2
                omega
        · have := setE_len n _ _ _ _ h
          omega
theorem setS_len {l : List UInt8} {x : Rx} {r : List UInt8} (h : setS l = some (x, r)) : r.length < l.length := by
  unfold setS at h
  split at h
  · split at h
    · rename_i y q hy
      cases h
      have := setE_len _ _ _ _ _ hy
      simp at this
      omega
    · cases h
  · split at h
    · rename_i y q hy
      cases h
      exact setE_len _ _ _ _ _ hy
    · cases h
theorem bounds_len {l r : List UInt8} {m n : Int} (h : boundsS l = some (m, n, r)) : r.length < l.length := by
  have num : ∀ (l : List UInt8) a q, numberS l = some (a, q) → q.length ≤ l.length := by
    intro l a q h
    unfold numberS at h
    split at h
    · cases h
    · cases h; simp
  unfold boundsS at h
  split at h
  · cases h
  · rename_i a q hq
    have h1 := num _ _ _ hq
    split at h
    · cases h
    · rename_i c q'
      simp at h1
      split at h
      · cases h; omega
      · split at h
        · split at h
          · cases h
          · rename_i d q''
            simp at h1
            split at h
            · cases h; omega
            · split at h
              · cases h
              · rename_i b p hp
                have h2 := num _ _ _ hp
                simp at h2
                split at h
                · cases h
                · simp at h2
                  split at h
                  · cases h; omega
                  · cases h
        · cases h
theorem suffix_len {x y : Rx} {l r : List UInt8} (h : suffixP x l = some (y, r)) : r.length ≤ l.length := by
  cases l with
  | nil => unfold suffixP at h; cases h; simp
  | cons c l =>
    simp only [suffixP] at h
    split at h
    · cases h; simp
    · split at h
      · cases h; simp
      · split at h
        · cases h; simp
        · split at h
          · split at h
            · rename_i hb
              cases h
              have := bounds_len hb
              simp; omega
            · cases h
          · cases h; simp
theorem parse_len : ∀ n, (∀ l x r, atomP n l = some (x, r) → r.length < l.length) ∧ (∀ l x r, itemP n l = some (x, r) → r.length < l.length) ∧
    (∀ acc l x r, seqP n acc l = some (x, r) → r.length ≤ l.length) ∧ (∀ acc l x r, altP n acc l = some (x, r) → r.length ≤ l.length)
  | 0 => ⟨fun l x r h => by simp [atomP] at h, fun l x r h => by simp [itemP] at h, fun acc l x r h => by simp [seqP] at h, fun acc l x r h => by simp [altP] at h⟩
  | n + 1 => by
    obtain ⟨h1, h2, h3, h4⟩ := parse_len n
    refine ⟨fun l x r h => ?_, fun l x r h => ?_, fun acc l x r h => ?_, fun acc l x r h => ?_⟩
    · cases l with
      | nil => simp [atomP] at h
      | cons c l =>
        unfold atomP at h
        split at h
        · split at h
          · rename_i y d l' hy
            split at h
            · cases h
              have := h4 _ _ _ _ hy
              simp at this ⊢
              omega
            · cases h
          · cases h
        · split at h
          · have := setS_len h; simp; omega
          · split at h
            · cases h; simp
            · split at h
              · cases h; simp
              · split at h
                · cases h; simp
                · split at h
                  · cases l with
                    | nil => simp at h
                    | cons d l' =>
                      simp only at h
                      split at h
                      · cases h; simp; omega
                      · split at h
                        · cases h; simp; omega
                        · cases h
                  · split at h
                    · cases h
                    · cases h; simp
    · unfold itemP at h
      split at h
      · rename_i y l' hy
        have a := h1 _ _ _ hy
        have b := suffix_len h
        omega
      · cases h
    · cases l with
      | nil => unfold seqP at h; cases h; simp
      | cons c l =>
        unfold seqP at h
        split at h
        · cases h; simp
        · split at h
          · rename_i y l' hy
            have a := h2 _ _ _ hy
            have b := h3 _ _ _ _ h
            omega
          · cases h
    · unfold altP at h
      split at h
      · cases h
      · rename_i y l' hy
        have a := h3 _ _ _ _ hy
        split at h
        · cases h; simp
        · rename_i c l''
          simp at a
          split at h
          · have b := h4 _ _ _ _ h; omega
          · cases h; simp; omega
/-- More fuel changes nothing, once there is enough. -/
theorem fuel_more : ∀ n m, (∀ l, 4 * l.length + 1 ≤ n → 4 * l.length + 1 ≤ m → atomP n l = atomP m l) ∧ (∀ l, 4 * l.length + 2 ≤ n → 4 * l.length + 2 ≤ m → itemP n l = itemP m l) ∧
    (∀ acc l, 4 * l.length + 3 ≤ n → 4 * l.length + 3 ≤ m → seqP n acc l = seqP m acc l) ∧ (∀ acc l, 4 * l.length + 4 ≤ n → 4 * l.length + 4 ≤ m → altP n acc l = altP m acc l)
  | 0, m => ⟨fun l h => by omega, fun l h => by omega, fun acc l h => by omega, fun acc l h => by omega⟩
  | n + 1, 0 => ⟨fun l _ h => by omega, fun l _ h => by omega, fun acc l _ h => by omega, fun acc l _ h => by omega⟩
  | n + 1, m + 1 => by
    obtain ⟨h1, h2, h3, h4⟩ := fuel_more n m
    refine ⟨fun l a b => ?_, fun l a b => ?_, fun acc l a b => ?_, fun acc l a b => ?_⟩
    · cases l with
      | nil => rfl
      | cons c l =>
        simp at a b
        unfold atomP
        rw [h4 [] l (by omega) (by omega)]
    · unfold itemP
      rw [h1 l (by omega) (by omega)]
    · cases l with
      | nil => rfl
      | cons c l =>
        simp at a b
        unfold seqP
        rw [h2 (c :: l) (by simp; omega) (by simp; omega)]
        split
        · rfl
        · split
          · rename_i y l' hy
            have := (parse_len m).2.1 _ _ _ hy
            simp at this
            exact h3 _ _ (by omega) (by omega)
          · rfl
    · unfold altP
      rw [h3 [] l (by omega) (by omega)]
      split
      · rfl
      · rename_i y l' hy
        have := (parse_len m).2.2.1 _ _ _ _ hy
        split
        · rfl
        · rename_i c l''
          simp at this
          split
          · exact h4 _ _ (by omega) (by omega)
          · rfl
theorem alt_enough {l : List UInt8} {x : Rx × List UInt8} (h : ∃ n0, ∀ n, n0 ≤ n → altP n [] l = some x) : altP (4 * l.length + 4) [] l = some x := by
  obtain ⟨n0, h⟩ := h
  rw [← h (max n0 (4 * l.length + 4)) (by omega)]
  exact (fuel_more _ _).2.2.2 [] l (by omega) (by omega)

end Go.Proofs.YtlnbjdlooghpeaaGreatDoor
