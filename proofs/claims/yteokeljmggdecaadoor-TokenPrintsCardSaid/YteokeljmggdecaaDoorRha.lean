/- Walk of layer 11's reference: token. -/
import Derived.Test.YteokeljmggdecaaDoorRf
import Derived.Test.YteokeljmggdecaaDoorRg
import Derived.Deep.Cut
import Derived.Deep.RegionWith
namespace Go.Proofs.YteokeljmggdecaaDoor
open Go.RowKit

theorem Four.set_other {w : World} {b b1 : Nat} {c0 c1 c2 c3 : Value} (h : Four w b c0 c1 c2 c3) (hne : b ≠ b1) (o : Nat) (u : Value) : Four (w.setCell ⟨b1, o, none⟩ u) b c0 c1 c2 c3 := by
  obtain ⟨h0, h1, h2, h3, h4⟩ := h
  have key : ∀ j : Nat, (w.setCell ⟨b1, o, none⟩ u).cell? ⟨b, j, none⟩ = w.cell? ⟨b, j, none⟩ := fun j => World.cell?_setCell_other _ _ _ _ (fun e => hne (congrArg Addr.block e).symm)
  exact ⟨by simpa [World.setCell] using h0, (key 0).trans h1, (key 1).trans h2, (key 2).trans h3, (key 3).trans h4⟩
theorem Below.drew' (w : World) (B : Nat) : Below B w w.drew := ⟨rfl, rfl, rfl, Nat.le_refl _, fun _ _ => rfl⟩
theorem pre_metaS (r1 : List UInt8) : preS true (36 :: r1) = metaS r1 := by
  unfold metaS
  by_cases h : r1.headD 0 = 36
  · rw [if_pos h]
    cases r1 with
    | nil => exact absurd h (by decide)
    | cons y z =>
      have hy : y = 36 := h
      subst hy
      rw [pre_many]
      rfl
  · rw [if_neg h, pre_meta r1 h]
theorem pre_litK (pat : Bool) (r1 : List UInt8) : preS pat (34 :: r1) = litK r1 := by rw [pre_lit]; rfl
theorem word_fault {pat : Bool} {c : UInt8} {r1 : List UInt8} (hl : ltB c = true) : errS pat (c :: r1) = if 24 < (wordS (c :: r1)).length then 4 else 0 := by
  unfold errS
  rw [pre_word (r := c :: r1) hl]
  have e : wordS (c :: r1) = c :: wordS r1 := tw_cons c r1 (lt_wd hl)
  have hall : (wordS (c :: r1)).all wdB = true := tw_all _
  rw [e] at hall ⊢
  cases hk : isKw (c :: wordS r1) with
  | true =>
    have h24 := (kw_facts _ (mem_kw hk)).2.2.2
    rw [if_pos rfl, if_neg (by omega)]
    show faultS 2 (c :: wordS r1) = 0
    exact fault_right (by rw [right_kw]; exact hk)
  | false =>
    rw [if_neg (by decide)]
    show faultS 1 (c :: wordS r1) = _
    unfold faultS
    rw [form1, word_name hall, hl, hk, if_neg (by decide)]
    rfl
theorem mark_err {pat : Bool} {c : UInt8} {r1 : List UInt8} (h1 : dgB c = false) (h2 : ltB c = false) (h3 : ¬ c = 34) (h4 : ¬ (pat = true ∧ c = 36)) :
    (2 ≤ (c :: r1).length ∧ isMk ((c :: r1).take 2) = true → preS pat (c :: r1) = (5, (c :: r1).take 2, 2) ∧ errS pat (c :: r1) = 0) ∧
    (¬ (2 ≤ (c :: r1).length ∧ isMk ((c :: r1).take 2) = true) → preS pat (c :: r1) = (5, [c], 1) ∧ errS pat (c :: r1) = if isMk [c] = true then 0 else 11) := by
  have hp := pre_mark (pat := pat) (r := r1) h1 h2 h3 h4
  refine ⟨fun h => ?_, fun h => ?_⟩
  · rw [if_pos h] at hp
    refine ⟨hp, ?_⟩
    unfold errS
    rw [hp]
    exact fault_right (by rw [right_mark]; exact h.2)
  · rw [if_neg h] at hp
    have hp : preS pat (c :: r1) = (5, [c], 1) := hp
    refine ⟨hp, ?_⟩
    unfold errS
    rw [hp]
    show faultS 5 [c] = _
    cases hm : isMk [c] with
    | true => exact fault_right (by rw [right_mark]; exact hm)
    | false => unfold faultS; rw [form5, hm]; rfl
end Go.Proofs.YteokeljmggdecaaDoor
