/- Layer 10: walks of the reference: Of, Simplify. -/
import Derived.Test.YtlnbjdlooghpeaaGreatDoorQl
namespace Go.Proofs.YtlnbjdlooghpeaaGreatDoor
open Go.RowKit

end Go.Proofs.YtlnbjdlooghpeaaGreatDoor
