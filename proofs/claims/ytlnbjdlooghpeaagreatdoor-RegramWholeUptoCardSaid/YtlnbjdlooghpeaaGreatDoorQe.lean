/- Layer 10: walks of the reference: FoldByte, Code, bytes. -/
import Derived.Test.YtlnbjdlooghpeaaGreatDoorQd
import Derived.Test.YtlnbjdlooghpeaaGreatDoorTri
import Derived.Laws.Concat
namespace Go.Proofs.YtlnbjdlooghpeaaGreatDoor
open Go.RowKit
open Go.Lib (byteCells)

theorem fat_at (s : ByteArray) (k : Nat) (h : k < s.size) : (fld s[k]).toNat = fat s.data.toList k := by unfold fat; rw [getD_byte s k h]

theorem ret_tup {a b : Value} {c d : Value} (h : a = c) (h' : b = d) : Ending.returned (.tuple #[a, b]) = .returned (.tuple #[c, d]) := by rw [h, h']
theorem conv1 (z : Int) (u : UInt8) (hz : (u.toNat : Int) = z) (w : World) :
    (convert 129 9 (.slice (some ⟨w.heap.size, 0, none⟩) 1 1)).run Tryz.prog (w.alloc (.cells #[.int .u8 z] 5)) = .ok (.string (bsx [u])) (w.alloc (.cells #[.int .u8 z] 5)) := by
  have hs := lit_sl w #[.int .u8 z] 5 (byteCells [u]) 1 (by simp [byteCells]; omega) (by simp [byteCells]) (by omega)
  exact conv_run hs.reads 129 9 5 Tryz.underlying129 Tryz.underlying5 Tryz.underlying9 (fun e => by cases e)

end Go.Proofs.YtlnbjdlooghpeaaGreatDoor
