/- Layer 10: walk of the reference: once. -/
import Derived.Test.YtlnbjdlooghpeaaGreatDoorQh
namespace Go.Proofs.YtlnbjdlooghpeaaGreatDoor
open Go.RowKit

end Go.Proofs.YtlnbjdlooghpeaaGreatDoor
