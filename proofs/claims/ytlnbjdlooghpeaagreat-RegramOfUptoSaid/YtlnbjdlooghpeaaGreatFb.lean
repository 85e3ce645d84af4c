/- The program's regex.Fold: canonical ranges of a closure, the other case of a set's bytes, Fold. -/
import Derived.Test.YtlnbjdlooghpeaaGreatFa
import Derived.Deep.RegionHeld3
import Derived.Deep.RegionWith
namespace Go.Proofs.YtlnbjdlooghpeaaGreat
open Go.RowKit


theorem cont_yes {g : Nat → Bool} {i : Nat} (h0 : 0 < i) (hi : i ≤ 256) (h : g (i - 1) = true) : ∃ m r, rgN g i = m ++ [r] ∧ r.2.toNat + 1 = i := by
  obtain ⟨j, rfl⟩ : ∃ j, i = j + 1 := ⟨i - 1, by omega⟩
  simp only [Nat.add_sub_cancel] at h
  have hv : (UInt8.ofNat j).toNat = j := by simp; omega
  have e : rgN g (j + 1) = addB (rgN g j) j := by show (if g j = true then _ else _) = _; rw [if_pos h]
  rw [e]
  rcases List.eq_nil_or_concat (rgN g j) with hnil | ⟨m, r, hmr⟩
  · exact ⟨[], (UInt8.ofNat j, UInt8.ofNat j), by rw [addB_none j hnil]; rfl, by simp only [hv]⟩
  · rw [List.concat_eq_append] at hmr
    rw [hmr]
    by_cases he : r.2.toNat + 1 = j
    · exact ⟨m, (r.1, UInt8.ofNat j), by rw [addB_yes m r j he], by simp only [hv]⟩
    · exact ⟨m ++ [r], (UInt8.ofNat j, UInt8.ofNat j), by rw [addB_no m r j he], by simp only [hv]⟩
theorem cont_no {g : Nat → Bool} {i : Nat} (hi : i < 256) (h : i = 0 ∨ g (i - 1) = false) (hg : g i = true) : rgN g (i + 1) = rgN g i ++ [(UInt8.ofNat i, UInt8.ofNat i)] := by
  have e : rgN g (i + 1) = addB (rgN g i) i := by show (if g i = true then _ else _) = _; rw [if_pos hg]
  rw [e]
  rcases List.eq_nil_or_concat (rgN g i) with hnil | ⟨m, r, hmr⟩
  · rw [addB_none i hnil, hnil]; rfl
  · rw [List.concat_eq_append] at hmr
    have hmem : r ∈ rgN g i := by rw [hmr]; simp
    obtain ⟨h1, h2⟩ := rgN_has g r.2 i (by omega)
    have h3 := h2 r hmem
    by_cases he : r.2.toNat + 1 = i
    · exfalso
      have hh : hasS (rgN g i) r.2 = true := by
        unfold hasS
        rw [List.any_eq_true]
        exact ⟨r, hmem, by simp [UInt8.le_iff_toNat_le, h3.1]⟩
      rw [h1] at hh
      simp at hh
      rcases h with h | h
      · omega
      · rw [show r.2.toNat = i - 1 by omega, h] at hh
        exact absurd hh.2 (by simp)
    · rw [hmr, addB_no m r i he]
theorem cont_set {g : Nat → Bool} {i : Nat} {m : List (UInt8 × UInt8)} {r : UInt8 × UInt8} (hg : g i = true) (hmr : rgN g i = m ++ [r]) (he : r.2.toNat + 1 = i) : rgN g (i + 1) = m ++ [(r.1, UInt8.ofNat i)] := by
  have e : rgN g (i + 1) = addB (rgN g i) i := by show (if g i = true then _ else _) = _; rw [if_pos hg]
  rw [e, hmr, addB_yes m r i he]
theorem cont_skip {g : Nat → Bool} {i : Nat} (hg : g i = false) : rgN g (i + 1) = rgN g i := by show (if g i = true then _ else _) = _; rw [hg]; rfl

theorem other_oth (c : UInt8) : other c = othB c := rfl
theorem canon_fold (set : List (UInt8 × UInt8)) : rgN (fun i => hasS set (UInt8.ofNat i) || hasS set (other (UInt8.ofNat i))) 256 = foldSet set := by
  have h := fun i (hi : i < 256) => has_foldSet set (UInt8.ofNat i)
  unfold foldSet at h ⊢
  refine rgN_congr 256 fun i hi => ?_
  have hv : (UInt8.ofNat i).toNat = i := by simp; omega
  have h2 := h i hi
  rw [(rgN_has _ _ 256 (Nat.le_refl _)).1, hv, decide_eq_true hi, Bool.true_and] at h2
  rw [h2]
  rfl
theorem canon_nil : rgN (fun i => hasS [] (UInt8.ofNat i) || hasS [] (other (UInt8.ofNat i))) 256 = [] := by
  have : ∀ n, rgN (fun i => hasS [] (UInt8.ofNat i) || hasS [] (other (UInt8.ofNat i))) n = [] := by
    intro n
    induction n with
    | zero => rfl
    | succ n ih => exact (cont_skip (by rfl)).trans ih
  exact this 256
theorem foldL_app : ∀ (l : List Rx) (x : Rx), foldL (l ++ [x]) = foldL l ++ [foldR x]
  | [], x => rfl
  | y :: l, x => by simp only [List.cons_append, foldL, foldL_app l x]
theorem rxv_agg_set {W : World} {k a b : Int} {v : Value} {set : List (UInt8 × UInt8)} {xs : List Rx} {B : Nat} {u : Value} (hu : OwnR W B u set) (hx : OwnX W B v xs)
    (hk : -9223372036854775808 ≤ k ∧ k ≤ 9223372036854775807) (ha : -9223372036854775808 ≤ a ∧ a ≤ 9223372036854775807) (hb : -9223372036854775808 ≤ b ∧ b ≤ 9223372036854775807) :
    RxV W (fun g => B ≤ g) (.agg #[.int .i64 k, u, .int .i64 a, .int .i64 b, v]) (.mk k set a b xs) := by
  obtain ⟨A, n, c, rfl, _, hs⟩ := hu.s
  obtain ⟨A', m, d, vs, rfl, hm, hvs, hr⟩ := hx.s
  exact .mk k a b A A' n c m d set vs xs hs hvs hm.symm hk ha hb hr

end Go.Proofs.YtlnbjdlooghpeaaGreat
