/- Layer 8: the law over two expressions. -/
import Derived.Test.YtmiegjefmebpdaaGreatDoorNV
import Derived.Test.YtmiegjefmebpdaaGreatDoorKT
namespace Go.Proofs.YtmiegjefmebpdaaGreatDoor
open Go.RowKit
theorem l3 {ok ok' : Nat → Prop} {v v' : Value} {r r' : Rx} (w : World) (hv : RxV w ok v r) (hv' : RxV w ok' v' r') : Calls Tryz.prog 3 #[v, v'] w fun e w' => e = .returned (.bool true) ∧ Below w.heap.size w w' := law3 cs alive w hv hv'
end Go.Proofs.YtmiegjefmebpdaaGreatDoor
