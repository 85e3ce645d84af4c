/- Walk of layer 8's reference: canonical. -/
import Derived.Test.YtmiegjefmebpdaaGreatDoorKB
namespace Go.Proofs.YtmiegjefmebpdaaGreatDoor
open Go.RowKit

theorem os_size (l : List (UInt8 × UInt8)) (h : l.length ≤ 256) : (osA (ofSet l)).size + 100 ≤ 1400 := by
  have h1 := ranges_len l true
  have h2 := flat_le l
  have h3 := flat_le (rangesS l true)
  have q : ∀ a, (quoted a special).length ≤ 2 := fun a => quoted_len a special
  have rp : ∀ (l : List (UInt8 × UInt8)) s, rangesP l = some s → s.length ≤ 5 * l.length := fun l s hs => by
    obtain ⟨rfl, _⟩ := rangesP_some hs
    exact flat_le l
  unfold osA
  split
  · rename_i s hs
    rw [bs_size]
    unfold ofSet at hs
    split at hs
    · split at hs
      · rename_i a _
        cases hs
        have := q a
        omega
      · split at hs
        · cases hs; simp
        · split at hs
          · rename_i t ht
            cases hs
            have := rp l t ht
            simp
            omega
          · split at hs
            · rename_i t ht
              split at hs
              · cases hs
              · cases hs
                have := rp _ t ht
                simp
                omega
            · cases hs
    · cases hs
  · rw [bs_size]; simp
theorem canL_app (o : Int) : ∀ (a : List Rx) (ts : List (List UInt8)) (x : Rx) (s : List UInt8), canL o a = some ts → canR x = some s → canL o (a ++ [x]) = some (ts ++ [wrapP o x.kind s])
  | [], ts, x, s, h, hx => by
    unfold canL at h
    cases h
    simp [canL, hx]
  | y :: a, ts, x, s, h, hx => by
    unfold canL at h
    split at h
    · cases h
    · rename_i u hu
      split at h
      · cases h
      · rename_i t ht
        cases h
        have := canL_app o a t x s ht hx
        simp only [List.cons_append, canL]
        rw [hu, this]
theorem canL_none (o : Int) : ∀ (l : List Rx) (x : Rx), x ∈ l → canR x = none → canL o l = none
  | [], x, h, _ => by simp at h
  | y :: l, x, h, hx => by
    unfold canL
    rcases List.mem_cons.1 h with rfl | h
    · rw [hx]
    · cases hy : canR y with
      | none => rfl
      | some s => simp only; rw [canL_none o l x h hx]
def joinN (k : Int) (ts : List (List UInt8)) : List UInt8 := if k = 3 then altJ ts else ts.flatten
theorem altJ_app : ∀ (ts : List (List UInt8)) (t : List UInt8), ts ≠ [] → altJ (ts ++ [t]) = altJ ts ++ 124 :: t
  | [], t, h => absurd rfl h
  | [s], t, _ => rfl
  | s :: u :: l, t, _ => by
    have := altJ_app (u :: l) t (by simp)
    show s ++ 124 :: altJ (u :: l ++ [t]) = _
    rw [this]
    show _ = (s ++ 124 :: altJ (u :: l)) ++ 124 :: t
    simp
theorem join_cat {k : Int} (h : k ≠ 3) (ts : List (List UInt8)) (t : List UInt8) : joinN k (ts ++ [t]) = joinN k ts ++ t := by
  unfold joinN
  rw [if_neg h, if_neg h]
  simp
theorem join_alt (ts : List (List UInt8)) (t : List UInt8) (h : ts ≠ []) : joinN 3 (ts ++ [t]) = joinN 3 ts ++ [124] ++ t := by
  unfold joinN
  rw [if_pos rfl, if_pos rfl, altJ_app ts t h]
  simp
theorem join_first (k : Int) (t : List UInt8) : joinN k ([] ++ [t]) = t := by
  unfold joinN
  split
  · rfl
  · simp

end Go.Proofs.YtmiegjefmebpdaaGreatDoor
