/- The chapter's examples of layer 5, over the contracts of what they call. -/
import Derived.Test.YtfljmnjcoagbmaaRD
namespace Go.Proofs.Ytfljmnjcoagbmaa
open Go.RowKit
open Go.Lib (byteCells)

theorem litI (w : World) (g : Nat) (hg : g = w.heap.size) (cs : Array Value) (xs : List Int) (n : Nat) (hx : cs.toList = numCells xs) (hn : xs.length = n) (hm : n ≤ 1000) : Sl (w.alloc (.cells cs 3)) (some ⟨g, 0, none⟩) n n (numCells xs) := by
  subst hg
  exact lit_sl w cs 3 _ n hx (by rw [num_len]; exact hn) (by omega)
theorem ex_and : andS [1, 3, 5] [5, 3, 3] = [3, 5] := by decide
theorem ex_or : orS [1, 3, 5] [5, 3, 3] = [1, 3, 5] := by decide
theorem ex_minus : minusS [1, 3, 5] [5, 3, 3] = [1] := by decide
theorem ex_least : leastS 2 [[1, 2], [2, 2], [1]] = [1, 2] := by decide
theorem ex_val : valP [5, 300] = true := by decide
theorem ex_encL : encL [5, 300] = [2, 5, 167, 2] := by
  show enc 2 ++ (enc 5 ++ (enc 295 ++ [])) = _
  rw [enc_low 2 (by decide), enc_low 5 (by decide), enc_high 295 (by decide), enc_low (295 / 128) (by decide)]
  rfl
theorem ex_pack : packP [5, 300] = [2, 172, 2, 4, 2, 5, 167, 2] := by
  show enc 2 ++ ((enc 300 ++ (enc (encL [5, 300]).length ++ [])) ++ (encL [5, 300] ++ [])) = _
  rw [ex_encL, enc_low 2 (by decide), enc_high 300 (by decide), enc_low (300 / 128) (by decide)]
  show _ ++ ((_ ++ (enc 4 ++ [])) ++ _) = _
  rw [enc_low 4 (by decide)]
  rfl
theorem ex_packR : packR [5, 300] = ([2, 172, 2, 4, 2, 5, 167, 2], 0) := by unfold packR; rw [ex_val, ex_pack]; rfl
theorem ex_unpack : unpackP [2, 172, 2, 4, 2, 5, 167, 2] = some [5, 300] := by rw [← ex_pack]; exact unpack_pack _ ex_val
theorem ex_unpR : unpR (unpackP [2, 172, 2, 4, 2, 5, 167, 2]) = ([5, 300], 0) := by rw [ex_unpack]; rfl
theorem ex_seek6 : seekV (unpackP [2, 172, 2, 4, 2, 5, 167, 2]) 6 = (300, true) := by rw [ex_unpack]; decide
theorem ex_seek301 : seekV (unpackP [2, 172, 2, 4, 2, 5, 167, 2]) 301 = (0, false) := by rw [ex_unpack]; decide

/-- Three short lists, laid one after the other, and the row of them. -/
theorem rows3 (w : World) (g : Nat) (hg : g = w.heap.size) :
    RowsI ((((w.alloc (.cells #[.int .i64 1, .int .i64 2] 3)).alloc (.cells #[.int .i64 2, .int .i64 2] 3)).alloc (.cells #[.int .i64 1] 3)).alloc (.cells #[.slice (some ⟨g, 0, none⟩) 2 2, .slice (some ⟨g + 1, 0, none⟩) 2 2, .slice (some ⟨g + 2, 0, none⟩) 1 1] 22))
      (some ⟨g + 3, 0, none⟩) 3 3 [[1, 2], [2, 2], [1]] := by
  subst hg
  have s0 := litI w w.heap.size rfl #[.int .i64 1, .int .i64 2] [1, 2] 2 rfl rfl (by decide)
  have s1 := litI (w.alloc (.cells #[.int .i64 1, .int .i64 2] 3)) (w.heap.size + 1) (by simp) #[.int .i64 2, .int .i64 2] [2, 2] 2 rfl rfl (by decide)
  have s2 := litI ((w.alloc (.cells #[.int .i64 1, .int .i64 2] 3)).alloc (.cells #[.int .i64 2, .int .i64 2] 3)) (w.heap.size + 2) (by simp) #[.int .i64 1] [1] 1 rfl rfl (by decide)
  have t0 := ((s0.below (bnew (Below.refl _ _) (.cells #[.int .i64 2, .int .i64 2] 3))).below (bnew (Below.refl _ _) (.cells #[.int .i64 1] 3))).below (bnew (Below.refl _ _) (.cells #[.slice (some ⟨w.heap.size, 0, none⟩) 2 2, .slice (some ⟨w.heap.size + 1, 0, none⟩) 2 2, .slice (some ⟨w.heap.size + 2, 0, none⟩) 1 1] 22))
  have t1 := (s1.below (bnew (Below.refl _ _) (.cells #[.int .i64 1] 3))).below (bnew (Below.refl _ _) (.cells #[.slice (some ⟨w.heap.size, 0, none⟩) 2 2, .slice (some ⟨w.heap.size + 1, 0, none⟩) 2 2, .slice (some ⟨w.heap.size + 2, 0, none⟩) 1 1] 22))
  have t2 := s2.below (bnew (Below.refl _ _) (.cells #[.slice (some ⟨w.heap.size, 0, none⟩) 2 2, .slice (some ⟨w.heap.size + 1, 0, none⟩) 2 2, .slice (some ⟨w.heap.size + 2, 0, none⟩) 1 1] 22))
  have e : w.heap.size + 3 = (((w.alloc (.cells #[.int .i64 1, .int .i64 2] 3)).alloc (.cells #[.int .i64 2, .int .i64 2] 3)).alloc (.cells #[.int .i64 1] 3)).heap.size := by simp
  refine ⟨Nat.le_refl _, by decide, rfl, fun i l hl => ?_⟩
  match i, hl with
  | 0, hl =>
    simp at hl; subst hl
    exact ⟨_, _, _, _, rfl, by rw [addr0, e, World.cell?_alloc_mark]; rfl, t0⟩
  | 1, hl =>
    simp at hl; subst hl
    exact ⟨_, _, _, _, rfl, by rw [addr0, e, World.cell?_alloc_mark]; rfl, t1⟩
  | 2, hl =>
    simp at hl; subst hl
    exact ⟨_, _, _, _, rfl, by rw [addr0, e, World.cell?_alloc_mark]; rfl, t2⟩
  | i + 3, hl => simp at hl

end Go.Proofs.Ytfljmnjcoagbmaa
