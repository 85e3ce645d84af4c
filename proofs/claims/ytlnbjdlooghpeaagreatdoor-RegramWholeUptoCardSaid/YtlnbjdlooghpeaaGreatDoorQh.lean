/- Layer 10: walk of the reference: ofStrings. -/
import Derived.Test.YtlnbjdlooghpeaaGreatDoorQg
namespace Go.Proofs.YtlnbjdlooghpeaaGreatDoor
open Go.RowKit

theorem extract_list (s : ByteArray) (a b : Nat) : (s.extract a b).data.toList = (s.data.toList.drop a).take (b - a) := by
  rw [ByteArray.data_extract, Array.toList_extract, List.extract_eq_take_drop]
theorem tri_extract (s : List UInt8) (k : Nat) : tri ((bsx s).extract k (k + 3)).data.toList 0 = tri s k := by
  rw [extract_list, bsx_list, show k + 3 - k = 3 by omega]
  have key : ∀ m, m < 3 → fat ((s.drop k).take 3) m = fat s (k + m) := fun m hm => by
    unfold fat List.getD
    rw [List.getElem?_take_of_lt hm, List.getElem?_drop]
  unfold tri
  rw [key 0 (by omega), key (0 + 1) (by omega), key (0 + 2) (by omega), Nat.add_zero, Nat.zero_add, Nat.zero_add]
theorem tris_get {s : List UInt8} {k : Nat} (h : k + 3 ≤ s.length) : (tris s)[k]? = some (tri s k) := by
  unfold tris
  rw [List.getElem?_map, List.getElem?_range (by omega)]
  rfl
def leafN (c : Int) : Nd := .mk 3 c []
theorem andN_leaf (s : List UInt8) : andN s = .mk 4 0 ((tris s).map leafN) := rfl

end Go.Proofs.YtlnbjdlooghpeaaGreatDoor
