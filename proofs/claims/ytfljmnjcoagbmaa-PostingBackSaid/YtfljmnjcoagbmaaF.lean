/- The contracts of layer 5's program, together; each law without a premise but how its arguments lie. -/
import Derived.Test.YtfljmnjcoagbmaaRF
import Derived.Test.YtfljmnjcoagbmaaE3
import Derived.Test.YtfljmnjcoagbmaaS7
import Derived.Test.YtfljmnjcoagbmaaS8
namespace Go.Proofs.Ytfljmnjcoagbmaa
open Go.RowKit

theorem cs0 : Cs0 where
  valid A n c l w h _ := (valid11 A n c l w h).mono fun _ _ ⟨he, hw⟩ => ⟨he, hw ▸ Below.refl _ _⟩
  inter A A' n c n' c' a b w h h' hn hn' := inter14 A A' n c n' c' a b w h h' hn hn'
  union A A' n c n' c' a b w h h' hn hn' := union16 A A' n c n' c' a b w h h' hn hn'
  minus A A' n c n' c' a b w h h' hn hn' := minus18 A A' n c n' c' a b w h h' hn hn'
  least A n c ls k w h hn hl hw := least20 A n c ls k w h hn hl hw
  has A n c l m w h _ := (has25 A n c l m w h).mono fun _ _ ⟨he, hw⟩ => ⟨he, hw ▸ Below.refl _ _⟩
  pack A n c l w h _ := pack22 A n c l w h
  unpack A n c b w h hn := unpack27 A n c b w h hn
  seek A n c b m w h hn := seek29 A n c b m w h hn
  put A n c l i w h hi hn := rput42 A n c l i w h hi hn
  putL A A' n c n' c' b xs w h h' hn hn' hz := rputl43 A A' n c n' c' b xs w h h' (by omega) hn' hz
  get B A n c l w h hnc hc i x nx er hg := rget17' B A n c l w h hnc hc i x nx er hg
  getL A n c l w h hn i most := rgetl49 A n c l w h hn i most
theorem cs : Cs := { cs0 with alive := alive10 cs0 }

end Go.Proofs.Ytfljmnjcoagbmaa
