/- What parsing leaves is an end of what it was given; no program. -/
import Derived.Test.YtmiegjefmebpdaaGreatDoorRy
namespace Go.Proofs.YtmiegjefmebpdaaGreatDoor

/-- r is an end of l. -/
def EndOf (r l : List UInt8) : Prop := ∃ j, r = l.drop j
theorem EndOf.refl (l : List UInt8) : EndOf l l := ⟨0, rfl⟩
theorem EndOf.cons {r l : List UInt8} (h : EndOf r l) (c : UInt8) : EndOf r (c :: l) := by
  obtain ⟨j, rfl⟩ := h
  exact ⟨j + 1, rfl⟩
theorem EndOf.trans {a b c : List UInt8} (h : EndOf a b) (k : EndOf b c) : EndOf a c := by
  obtain ⟨i, rfl⟩ := h
  obtain ⟨j, rfl⟩ := k
  exact ⟨j + i, by rw [List.drop_drop]⟩
theorem EndOf.tail {r l : List UInt8} (h : EndOf r l.tail) : EndOf r l := by
  cases l with
  | nil => exact h
  | cons c l => exact EndOf.cons h c
theorem EndOf.self (c : UInt8) (l : List UInt8) : EndOf l (c :: l) := (EndOf.refl l).cons c
theorem EndOf.tl (l : List UInt8) : EndOf l.tail l := (EndOf.refl _).tail
theorem one_end {l : List UInt8} {y : List (UInt8 × UInt8)} {q : List UInt8} (h : oneS l = some (y, q)) : EndOf q l := by
  cases l with
  | nil => simp [oneS] at h
  | cons c l =>
    simp only [oneS] at h
    split at h
    · cases h
    · split at h
      · cases l with
        | nil => simp at h
        | cons d l' =>
          simp only at h
          split at h
          · cases h; exact (EndOf.self d _).cons c
          · cases h
      · split at h
        · cases h
        · cases h; exact EndOf.self c _
theorem setE_end : ∀ n acc l x r, setE n acc l = some (x, r) → EndOf r l
  | 0, _, _, _, _, h => by simp [setE] at h
  | n + 1, acc, [], x, r, h => by simp [setE] at h
  | n + 1, acc, c :: l, x, r, h => by
    unfold setE at h
    split at h
    · split at h
      · cases h
      · cases h; exact EndOf.self c l
    · split at h
      · cases h
      · rename_i y q hy
        have h1 := one_end hy
        split at h
        · split at h
          · cases h
          · split at h
            · cases h
            · rename_i z e hz
              have h2 := one_end hz
              split at h
              · cases h
              · exact (setE_end n _ _ _ _ h).trans (h2.tail.trans h1)
        · exact (setE_end n _ _ _ _ h).trans h1
theorem setS_end {l : List UInt8} {x : Rx} {r : List UInt8} (h : setS l = some (x, r)) : EndOf r l := by
  unfold setS at h
  split at h
  · split at h
    · rename_i y q hy
      cases h
      exact (setE_end _ _ _ _ _ hy).tail
    · cases h
  · split at h
    · rename_i y q hy
      cases h
      exact setE_end _ _ _ _ _ hy
    · cases h
theorem num_end {l : List UInt8} {a : Int} {q : List UInt8} (h : numberS l = some (a, q)) : EndOf q l := by
  unfold numberS at h
  split at h
  · cases h
  · cases h; exact ⟨_, rfl⟩
theorem bounds_end {l r : List UInt8} {m n : Int} (h : boundsS l = some (m, n, r)) : EndOf r l := by
  unfold boundsS at h
  split at h
  · cases h
  · rename_i a q hq
    have h1 := num_end hq
    split at h
    · cases h
    · rename_i c q'
      split at h
      · cases h; exact (EndOf.self c _).trans h1
      · split at h
        · split at h
          · cases h
          · rename_i d q''
            split at h
            · cases h; exact ((EndOf.self d _).cons c).trans h1
            · split at h
              · cases h
              · rename_i b p hp
                have h2 := num_end hp
                split at h
                · cases h
                · rename_i e q3
                  split at h
                  · cases h; exact ((EndOf.self e _).trans (h2.cons c)).trans h1
                  · cases h
        · cases h
theorem suffix_end {x y : Rx} {l r : List UInt8} (h : suffixP x l = some (y, r)) : EndOf r l := by
  cases l with
  | nil => unfold suffixP at h; cases h; exact EndOf.refl _
  | cons c l =>
    simp only [suffixP] at h
    split at h
    · cases h; exact EndOf.self c _
    · split at h
      · cases h; exact EndOf.self c _
      · split at h
        · cases h; exact EndOf.self c _
        · split at h
          · split at h
            · rename_i hb
              cases h
              exact (bounds_end hb).cons c
            · cases h
          · cases h; exact EndOf.refl _
theorem parse_end : ∀ n, (∀ l x r, atomP n l = some (x, r) → EndOf r l) ∧ (∀ l x r, itemP n l = some (x, r) → EndOf r l) ∧
    (∀ acc l x r, seqP n acc l = some (x, r) → EndOf r l) ∧ (∀ acc l x r, altP n acc l = some (x, r) → EndOf r l)
  | 0 => ⟨fun l x r h => by simp [atomP] at h, fun l x r h => by simp [itemP] at h, fun acc l x r h => by simp [seqP] at h, fun acc l x r h => by simp [altP] at h⟩
  | n + 1 => by
    obtain ⟨h1, h2, h3, h4⟩ := parse_end n
    refine ⟨fun l x r h => ?_, fun l x r h => ?_, fun acc l x r h => ?_, fun acc l x r h => ?_⟩
    · cases l with
      | nil => simp [atomP] at h
      | cons c l =>
        unfold atomP at h
        split at h
        · split at h
          · rename_i y d l' hy
            split at h
            · cases h
              exact ((EndOf.self d _).trans (h4 _ _ _ _ hy)).cons c
            · cases h
          · cases h
        · split at h
          · exact (setS_end h).cons c
          · split at h
            · cases h; exact EndOf.self c _
            · split at h
              · cases h; exact EndOf.self c _
              · split at h
                · cases h; exact EndOf.self c _
                · split at h
                  · cases l with
                    | nil => simp at h
                    | cons d l' =>
                      simp only at h
                      split at h
                      · cases h; exact (EndOf.self d _).cons c
                      · split at h
                        · cases h; exact (EndOf.self d _).cons c
                        · cases h
                  · split at h
                    · cases h
                    · cases h; exact EndOf.self c _
    · unfold itemP at h
      split at h
      · rename_i y l' hy
        exact (suffix_end h).trans (h1 _ _ _ hy)
      · cases h
    · cases l with
      | nil => unfold seqP at h; cases h; exact EndOf.refl _
      | cons c l =>
        unfold seqP at h
        split at h
        · cases h; exact EndOf.refl _
        · split at h
          · rename_i y l' hy
            exact (h3 _ _ _ _ h).trans (h2 _ _ _ hy)
          · cases h
    · unfold altP at h
      split at h
      · cases h
      · rename_i y l' hy
        have a := h3 _ _ _ _ hy
        split at h
        · cases h; exact a
        · rename_i c l''
          split at h
          · exact ((h4 _ _ _ _ h).cons c).trans a
          · cases h; exact a

end Go.Proofs.YtmiegjefmebpdaaGreatDoor
