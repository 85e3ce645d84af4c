/- TopRegex: Qa, Qc, Qe, Qf. -/
import Derived.Test.YtlnbjdlooghpeaaGreatDoorTGk
import Derived.Test.YtlnbjdlooghpeaaGreatDoorTMn
import Derived.Test.YtlnbjdlooghpeaaGreatDoorTNg
import Derived.Deep.RegionHeld3
import Derived.BigQuiet
import Derived.Laws.Concat
import Derived.Test.YtlnbjdlooghpeaaGreatDoorTTri
namespace Go.Proofs.YtlnbjdlooghpeaaGreatDoor
open Go.RowKit
theorem nd_next {a b : List Nd} {k : Nat} (h : a.take k = b.take k) {x y : Nd} (hx : a[k]? = some x) (hy : b[k]? = some y) (e : x = y) : a.take (k + 1) = b.take (k + 1) := by
  rw [takeN hx, takeN hy, h, e]
end Go.Proofs.YtlnbjdlooghpeaaGreatDoor
namespace Go.Proofs.YtlnbjdlooghpeaaGreatDoor
open Go.RowKit
open Go.Op (bytesLess)
theorem Sl.nstr {w : World} {A : Option Addr} {n c : Nat} {xs : List (List UInt8)} (h : Sl w A n c (strCells xs)) : xs.length = n := by rw [← str_len]; exact h.reads.1
end Go.Proofs.YtlnbjdlooghpeaaGreatDoor
namespace Go.Proofs.YtlnbjdlooghpeaaGreatDoor
open Go.RowKit
open Go.Lib (byteCells)
theorem fat_at (s : ByteArray) (k : Nat) (h : k < s.size) : (fld s[k]).toNat = fat s.data.toList k := by unfold fat; rw [getD_byte s k h]
theorem conv1 (z : Int) (u : UInt8) (hz : (u.toNat : Int) = z) (w : World) :
    (convert 129 9 (.slice (some ⟨w.heap.size, 0, none⟩) 1 1)).run Tryz.prog (w.alloc (.cells #[.int .u8 z] 5)) = .ok (.string (bsx [u])) (w.alloc (.cells #[.int .u8 z] 5)) := by
  have hs := lit_sl w #[.int .u8 z] 5 (byteCells [u]) 1 (by simp [byteCells]; omega) (by simp [byteCells]) (by omega)
  exact conv_run hs.reads 129 9 5 Tryz.underlying129 Tryz.underlying5 Tryz.underlying9 (fun e => by cases e)
end Go.Proofs.YtlnbjdlooghpeaaGreatDoor
namespace Go.Proofs.YtlnbjdlooghpeaaGreatDoor
open Go.RowKit
theorem bel_alloc (w : World) (o : Obj) : Below w.heap.size w (w.alloc o) := bnew (Below.refl _ _) o
theorem rxv_shape {W : World} {ok : Nat → Prop} {v : Value} {r : Rx} (h : RxV W ok v r) : ∃ (k a b : Int) (A B : Option Addr) (n c m d : Nat), v = .agg #[.int .i64 k, .slice A n c, .int .i64 a, .int .i64 b, .slice B m d] := by
  cases h
  exact ⟨_, _, _, _, _, _, _, _, _, rfl⟩
def GotL (W : World) (o : Option (List (List UInt8))) (e : Ending) (w' : World) : Prop := ∃ A n c, e = .returned (.tuple #[.slice A n c, .bool o.isSome]) ∧ n = (o.getD []).length ∧ Sl w' A n c (strCells (o.getD [])) ∧ Below W.heap.size W w'
end Go.Proofs.YtlnbjdlooghpeaaGreatDoor
