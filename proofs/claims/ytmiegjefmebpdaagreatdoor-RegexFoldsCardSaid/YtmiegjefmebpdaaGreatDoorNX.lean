/- Layer 8: the law over folding a set. -/
import Derived.Test.YtmiegjefmebpdaaGreatDoorNV
import Derived.Test.YtmiegjefmebpdaaGreatDoorAr
import Derived.Test.YtmiegjefmebpdaaGreatDoorKU
import Derived.Test.YtmiegjefmebpdaaGreatDoorF2
namespace Go.Proofs.YtmiegjefmebpdaaGreatDoor
open Go.RowKit
theorem foldC : FoldC := fun W ok v r h hn ht hs => (fold25 r W ok v h hn ht hs).mono fun _ _ ⟨v', h1, h2, h3⟩ => ⟨v', _, h1, h2, h3⟩
theorem l6 {ok : Nat → Prop} {v : Value} {r : Rx} (w : World) (z : Int) (hz : (Lit.int .u8 z).wf = true) (hv : RxV w ok v r) : Calls Tryz.prog 6 #[v, .int .u8 z] w fun e w' => e = .returned (.bool true) ∧ Below w.heap.size w w' := by
  have k0 := wf_u8 _ hz
  have h := law6 cs foldC alive (UInt8.ofNat z.toNat) w hv
  rw [show ((UInt8.ofNat z.toNat).toNat : Int) = z by rw [UInt8.toNat_ofNat']; omega] at h
  exact h
end Go.Proofs.YtmiegjefmebpdaaGreatDoor
