/- Frames one after the other: how many are there as a whole, where they end; no program. -/
import Derived.Test.YtandmdmgleeogaaFrames
namespace Go.Proofs.Ytandmdmgleeogaa

/-- How many bytes the first j frames take. -/
def endP (L : List (List UInt8)) (j : Nat) : Nat := (sealsP (L.take j)).length

theorem seals_app : ∀ a b : List (List UInt8), sealsP (a ++ b) = sealsP a ++ sealsP b
  | [], _ => rfl
  | x :: a, b => by
    show sealP x ++ sealsP (a ++ b) = (sealP x ++ sealsP a) ++ sealsP b
    rw [seals_app a b, List.append_assoc]
theorem seals_snoc (L : List (List UInt8)) (i : Nat) (l : List UInt8) (h : L[i]? = some l) : sealsP (L.take (i + 1)) = sealsP (L.take i) ++ sealP l := by
  have hk := (List.getElem?_eq_some_iff.1 h).1
  rw [List.take_succ_eq_append_getElem hk, (List.getElem?_eq_some_iff.1 h).2, seals_app]
  show _ ++ (sealP l ++ []) = _
  rw [List.append_nil]
theorem endP_cons (b : List UInt8) (L : List (List UInt8)) (j : Nat) : endP (b :: L) (j + 1) = (sealP b).length + endP L j := by
  show (sealP b ++ sealsP (L.take j)).length = _
  rw [List.length_append]
  rfl
theorem whole_span : ∀ (L : List (List UInt8)) (r : Nat), wholeP L r ≤ L.length ∧ spanP L r = endP L (wholeP L r) ∧ (∀ j, j < wholeP L r → endP L (j + 1) ≤ r) ∧ (wholeP L r < L.length → r < endP L (wholeP L r + 1))
  | [], r => ⟨Nat.le_refl _, rfl, fun j h => absurd h (by simp [wholeP]), fun h => absurd h (by simp [wholeP])⟩
  | b :: L, r => by
    obtain ⟨h1, h2, h3, h4⟩ := whole_span L (r - (sealP b).length)
    by_cases hw : (sealP b).length ≤ r
    · have ew : wholeP (b :: L) r = wholeP L (r - (sealP b).length) + 1 := by rw [wholeP, if_pos hw]
      have es : spanP (b :: L) r = (sealP b).length + spanP L (r - (sealP b).length) := by rw [spanP, if_pos hw]
      rw [ew, es]
      refine ⟨by simpa using h1, by rw [endP_cons, h2], fun j hj => ?_, fun hlt => ?_⟩
      · cases j with
        | zero => rw [endP_cons]; show _ + 0 ≤ r; omega
        | succ j => rw [endP_cons]; have := h3 j (by omega); omega
      · rw [endP_cons]
        have := h4 (by simpa using hlt)
        omega
    · have ew : wholeP (b :: L) r = 0 := by rw [wholeP, if_neg hw]
      have es : spanP (b :: L) r = 0 := by rw [spanP, if_neg hw]
      rw [ew, es]
      refine ⟨Nat.zero_le _, rfl, fun j hj => absurd hj (by omega), fun _ => ?_⟩
      rw [endP_cons]
      show r < _ + 0
      omega
theorem endP_le (L : List (List UInt8)) (hL : ∀ b ∈ L, b.length ≤ 60) : (sealsP L).length ≤ 73 * L.length := by
  induction L with
  | nil => simp [sealsP]
  | cons b L ih =>
    have h1 := ih fun x hx => hL x (by simp [hx])
    have h2 := hL b (by simp)
    have h3 := seal_len b
    have h4 : (enc b.length).length = 1 := by rw [enc_low _ (by omega)]; rfl
    show (sealP b ++ sealsP L).length ≤ _
    rw [List.length_append, List.length_cons]
    omega

end Go.Proofs.Ytandmdmgleeogaa
