/- Layer 10: walks of the reference on lists of strings: add, product, both, Strings. -/
import Derived.Test.YtlnbjdlooghpeaaGreatDoorQb
namespace Go.Proofs.YtlnbjdlooghpeaaGreatDoor
open Go.RowKit
open Go.Op (bytesLess)

theorem bsx_to (l : List UInt8) : (bsx l).toList = l := by rw [ByteArray.toList_eq]; exact bsx_list l
theorem str_eq {a b : List UInt8} (h : a = b) : ((bsx a).toList == (bsx b).toList) = true := by rw [h]; simp
theorem str_ne {a b : List UInt8} (h : a ≠ b) : ((bsx a).toList == (bsx b).toList) = false := by rw [bsx_to, bsx_to]; simpa using h
theorem str_less (a b : List UInt8) (q : Bool) (h : bytesLess a b = q) : bytesLess (bsx a).toList (bsx b).toList = q := by rw [bsx_to, bsx_to]; exact h
theorem info9 : (Tryz.prog.info? 9).map (fun i => (i.zero, i.size, i.bytes)) = some (some (.string ByteArray.empty), 1, 16) := by kernel_rfl
/-- What a list of strings returns as. -/
def GotS (W : World) (l : List (List UInt8)) (e : Ending) (w' : World) : Prop := ∃ A n c, e = .returned (.slice A n c) ∧ n = l.length ∧ Sl w' A n c (strCells l) ∧ Below W.heap.size W w'
theorem Sl.nstr {w : World} {A : Option Addr} {n c : Nat} {xs : List (List UInt8)} (h : Sl w A n c (strCells xs)) : xs.length = n := by rw [← str_len]; exact h.reads.1
theorem own_str {w : World} {B : Nat} {v : Value} {l : List (List UInt8)} (h : Own w B 9 v (strCells l)) : ∃ A m c, v = .slice A m c ∧ m = l.length ∧ Sl w A m c (strCells l) := by
  obtain ⟨A, c, rfl, hs⟩ := h.sl
  exact ⟨A, _, c, rfl, str_len l, hs⟩
theorem str_snoc (l : List (List UInt8)) (s : List UInt8) : strCells l ++ [.string (bsx s)] = strCells (l ++ [s]) := by simp [strCells]

end Go.Proofs.YtlnbjdlooghpeaaGreatDoor
