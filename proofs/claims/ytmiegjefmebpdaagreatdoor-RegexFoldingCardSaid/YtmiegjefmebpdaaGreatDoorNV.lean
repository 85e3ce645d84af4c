/- Layer 8: the program keeps the contracts; the laws that want no more. -/
import Derived.Test.YtmiegjefmebpdaaGreatDoorQ6
import Derived.Test.YtmiegjefmebpdaaGreatDoorQ1
import Derived.Test.YtmiegjefmebpdaaGreatDoorQ2
import Derived.Test.YtmiegjefmebpdaaGreatDoorQ3
import Derived.Test.YtmiegjefmebpdaaGreatDoorQ5
import Derived.Test.YtmiegjefmebpdaaGreatDoorKS
import Derived.Test.YtmiegjefmebpdaaGreatDoorKW
namespace Go.Proofs.YtmiegjefmebpdaaGreatDoor
open Go.RowKit

theorem cs : Cs where
  right := fun W ok v r h h1 h2 => pright12 h (by omega) (by omega)
  same := fun W ok ok' v v' r r' h h' _ _ _ _ q hq => psame14 r W ok ok' v v' r' h h' q hq
  parse := fun s W hs => pparse16 s (by omega) W
  print := fun W ok v r h h1 h2 ht => pprint18 h (by omega) (by omega) ht
  has := fun W ok A n c set x q h _ hq => phas20 h x q hq
  lens := fun W ok v r h h0 => plens22 h h0
  fold := fun W ok v r h h0 _ => by
    obtain ⟨hn, hsz, _⟩ := right_node h0
    exact (pfold24 r W ok v h hn (by omega)).mono fun _ _ ⟨v', h1, h2, h3⟩ => ⟨v', _, h1, h2, h3⟩
theorem alive : AliveC := alive10 cs
theorem l4 (s : ByteArray) (hs : s.size ≤ 9223372036854775807) (w : World) : Calls Tryz.prog 4 #[.string s] w fun e w' => e = .returned (.bool true) ∧ Below w.heap.size w w' := law4 cs alive s hs w
theorem l8 (s : ByteArray) (hs : s.size ≤ 9223372036854775807) (w : World) : Calls Tryz.prog 8 #[.string s] w fun e w' => e = .returned (.bool true) ∧ Below w.heap.size w w' := law8 cs alive s hs w
theorem l5 {ok : Nat → Prop} {v : Value} {r : Rx} (w : World) (hv : RxV w ok v r) : Calls Tryz.prog 5 #[v] w fun e w' => e = .returned (.bool true) ∧ Below w.heap.size w w' := law5 cs alive w hv
theorem l7 {ok : Nat → Prop} {v : Value} {r : Rx} (w : World) (hv : RxV w ok v r) : Calls Tryz.prog 7 #[v] w fun e w' => e = .returned (.bool true) ∧ Below w.heap.size w w' := law7 cs alive w hv
end Go.Proofs.YtmiegjefmebpdaaGreatDoor
