/- Walk of the law that each number, string and list has one encoding. -/
import Derived.Test.YtpgoglkgaeccnaaWF
import Derived.Test.YtpgoglkgaeccnaaPm
import Derived.Deep.RegionWith
import Derived.Deep.DeepCutAuto
namespace Go.Proofs.Ytpgoglkgaeccnaa
open Go.RowKit
open Go.Lib (byteCells strCells)

theorem gl_once (l : List UInt8) : ∀ (k : Nat) (xs0 : List Int) (nxt : Nat) (xs : List Int) (i : Nat) (p last : Int), nxt ≤ l.length → xs0.getLastD 0 = last → 0 ≤ last → (xs0 = [] → p = -1) → (xs0 ≠ [] → p = last) → gl l k xs0 nxt = (xs, i, 0) →
    ∃ ys, xs = xs0 ++ ys ∧ ys.length = k ∧ incr p ys = true ∧ nxt ≤ i ∧ i ≤ l.length ∧ (l.drop nxt).take (i - nxt) = dif last ys ∧ ∀ y ∈ ys, y ≤ 4611686018427387904
  | 0, xs0, nxt, xs, i, p, last, hn, _, _, _, _, hg => by
    simp only [gl, Prod.mk.injEq] at hg
    obtain ⟨rfl, rfl, _⟩ := hg
    exact ⟨[], by simp, rfl, rfl, Nat.le_refl _, hn, by simp [dif], fun y hy => by simp at hy⟩
  | k + 1, xs0, nxt, xs, i, p, last, hn, hl, h0, hp0, hp1, hg => by
    obtain ⟨⟨d, a, er⟩, hq⟩ : ∃ g, getP l (nxt : Int) = g := ⟨_, rfl⟩
    by_cases her : er = 0
    · subst her
      obtain ⟨k', m, hk', hma, hal, hm0, hfn, hdp, hdb⟩ := getP_good l _ d a hq
      have hk2 : k' = nxt := by omega
      subst hk2
      by_cases hform : xs0 ≠ [] ∧ d = 0
      · rw [gl_form l k xs0 k' d a hq hform.1 hform.2] at hg
        simp at hg
      · by_cases hlong : (4611686018427387904 : Int) < xs0.getLastD 0 + (d : Int)
        · rw [gl_long l k xs0 k' d a hq hform hlong] at hg
          simp at hg
        · rw [gl_ok l k xs0 k' d a hq hform hlong, hl] at hg
          have hlt : p < last + (d : Int) := by
            by_cases hx : xs0 = []
            · have := hp0 hx; omega
            · have h1 := hp1 hx
              have : d ≠ 0 := fun e => hform ⟨hx, e⟩
              omega
          obtain ⟨ys, h1, h2, h3, h4, h5, h6, h7⟩ := gl_once l k (xs0 ++ [last + (d : Int)]) a xs i (last + (d : Int)) (last + (d : Int)) hal (by simp) (by omega) (fun e => by simp at e) (fun _ => rfl) hg
          refine ⟨(last + (d : Int)) :: ys, by rw [h1, List.append_assoc]; rfl, by rw [List.length_cons, h2], by rw [incr_true _ _ _ hlt]; exact h3, by omega, h5, ?_, ?_⟩
          · rw [dif_cons, show (last + (d : Int) - last).toNat = d by omega, ← dec_once l k' m d hfn hm0 hdp, show i - k' = m + (i - a) by omega]
            exact take_add l k' m (i - a) _ _ rfl (by rw [hma]; exact h6)
          · intro y hy
            rcases List.mem_cons.1 hy with rfl | hy
            · rw [hl] at hlong; omega
            · exact h7 y hy
    · rw [gl_bad l k xs0 nxt d a er hq her] at hg
      simp only [Prod.mk.injEq] at hg
      exact absurd hg.2.2 her

theorem getL_once (l : List UInt8) (i most : Int) (xs : List Int) (nx : Nat) (h : getL l i most = (xs, nx, 0)) :
    ∃ k : Nat, i = (k : Int) ∧ k < nx ∧ nx ≤ l.length ∧ (l.drop k).take (nx - k) = encL xs ∧ incr (-1) xs = true ∧ ∀ y ∈ xs, y ≤ 4611686018427387904 := by
  obtain ⟨⟨x, a, er⟩, hq⟩ : ∃ g, getP l i = g := ⟨_, rfl⟩
  by_cases her : er = 0
  · subst her
    by_cases hm : most < (x : Int)
    · rw [getL_long l i most x a hq hm] at h; simp at h
    · rw [getL_go l i most x a hq hm] at h
      obtain ⟨k, m, hk, hma, hal, hm0, hfn, hdp, hdb⟩ := getP_good l i x a hq
      obtain ⟨ys, h1, h2, h3, h4, h5, h6, h7⟩ := gl_once l x [] a xs nx (-1) 0 hal rfl (by omega) (fun _ => rfl) (fun e => absurd rfl e) h
      rw [List.nil_append] at h1
      subst h1
      refine ⟨k, hk, by omega, h5, ?_, h3, h7⟩
      unfold encL
      rw [h2, ← dec_once l k m x hfn hm0 hdp, show nx - k = m + (nx - a) by omega]
      exact take_add l k m (nx - a) _ _ rfl (by rw [hma]; exact h6)
  · rw [getL_bad l i most x a er hq her] at h
    simp only [Prod.mk.injEq] at h
    exact absurd h.2.2 her
theorem getS_once (l : List UInt8) (i most : Int) (s : List UInt8) (nx : Nat) (h : getS l i most = (s, nx, 0)) :
    ∃ k : Nat, i = (k : Int) ∧ k < nx ∧ nx ≤ l.length ∧ (l.drop k).take (nx - k) = enc s.length ++ s ∧ s.length ≤ l.length := by
  obtain ⟨⟨x, a, er⟩, hq⟩ : ∃ g, getP l i = g := ⟨_, rfl⟩
  by_cases her : er = 0
  · subst her
    by_cases hm : most < (x : Int)
    · rw [getS_long l i most x a hq hm] at h; simp at h
    · by_cases hs : l.length < a + x
      · rw [getS_short l i most x a hq hm hs] at h; simp at h
      · rw [getS_ok l i most x a hq hm hs] at h
        obtain ⟨k, m, hk, hma, hal, hm0, hfn, hdp, hdb⟩ := getP_good l i x a hq
        simp only [Prod.mk.injEq] at h
        obtain ⟨hs1, hs2, _⟩ := h
        have hlen : s.length = x := by rw [← hs1, List.length_take, List.length_drop]; omega
        refine ⟨k, hk, by omega, by omega, ?_, by omega⟩
        rw [hlen, ← dec_once l k m x hfn hm0 hdp, show nx - k = m + x by omega]
        exact take_add l k m x _ _ rfl (by rw [hma]; exact hs1)
  · rw [getS_bad l i most x a er hq her] at h
    simp only [Prod.mk.injEq] at h
    exact absurd h.2.2 her
theorem getP_once (l : List UInt8) (i : Int) (x nx : Nat) (h : getP l i = (x, nx, 0)) :
    ∃ k : Nat, i = (k : Int) ∧ k < nx ∧ nx ≤ l.length ∧ (l.drop k).take (nx - k) = enc x ∧ x ≤ 4611686018427387904 := by
  obtain ⟨k, m, hk, hma, hal, hm0, hfn, hdp, hdb⟩ := getP_good l i x nx h
  refine ⟨k, hk, by omega, hal, ?_, by unfold big at hdb; exact hdb⟩
  rw [show nx - k = m by omega]
  exact dec_once l k m x hfn hm0 hdp

/-- string(b[i:j]) in every world that keeps b. -/
theorem Sl.window {w : World} {A : Option Addr} {n c : Nat} {l : List UInt8} (h : Sl w A n c (byteCells l)) (k nx : Nat) (hk : k < nx) (hn : nx ≤ n) (r : List UInt8) (hr : (l.drop k).take (nx - k) = r) :
    (convert 22 9 (.slice (A.map fun x => x.add k) (nx - k) (c - k))).run Try.prog w = .ok (.string ⟨r.toArray⟩) w := by
  have hcut := h.reads.cut (k := k) (cap := c) (by omega) h.1
  rw [if_neg (by have := h.1; omega), ← bytes_drop] at hcut
  have htake := hcut.take (k := nx - k) (by omega)
  rw [← bytes_take, hr] at htake
  exact conv_run (P := Try.prog) (c := c - k) htake 22 9 5 Try.underlying22 Try.underlying5 Try.underlying9 (fun e => by
    have := h.2.2.1
    cases A with
    | none => have := this rfl; omega
    | some a => cases e)

end Go.Proofs.Ytpgoglkgaeccnaa
