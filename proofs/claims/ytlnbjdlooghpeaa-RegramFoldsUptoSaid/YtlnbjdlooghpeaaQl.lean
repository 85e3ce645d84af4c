/- Layer 10: walks of the reference: raw, Of, Simplify. -/
import Derived.Test.YtlnbjdlooghpeaaQk
namespace Go.Proofs.Ytlnbjdlooghpeaa
open Go.RowKit

end Go.Proofs.Ytlnbjdlooghpeaa
