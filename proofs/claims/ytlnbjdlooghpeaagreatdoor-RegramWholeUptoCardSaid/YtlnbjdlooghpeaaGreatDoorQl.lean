/- Layer 10: walks of the reference: raw, Of, Simplify. -/
import Derived.Test.YtlnbjdlooghpeaaGreatDoorQk
namespace Go.Proofs.YtlnbjdlooghpeaaGreatDoor
open Go.RowKit

end Go.Proofs.YtlnbjdlooghpeaaGreatDoor
