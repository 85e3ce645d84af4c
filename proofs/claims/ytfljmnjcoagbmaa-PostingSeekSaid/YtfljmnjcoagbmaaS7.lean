/- Walks of layer 5's program: And, Or, Minus. -/
import Derived.Test.YtfljmnjcoagbmaaS4
import Derived.Test.YtfljmnjcoagbmaaS5
import Derived.Test.YtfljmnjcoagbmaaS6
namespace Go.Proofs.Ytfljmnjcoagbmaa
open Go.RowKit

set_option maxRecDepth 20000 in
theorem inter14 (A A' : Option Addr) (n c n' c' : Nat) (a b : List Int) (w : World) (h : Sl w A n c (numCells a)) (h' : Sl w A' n' c' (numCells b)) (hn : n ≤ 100000) (hn' : n' ≤ 100000) :
    Calls Try.prog 14 #[.slice A n c, .slice A' n' c'] w (GrewI w (andS a b)) := by
  have hm := merge33 A A' n c n' c' a b w h h' hn hn'
  rw [merge_and] at hm
  clear h h'
  go_enter Try.func14, Try.ntmps14
  go_wp2_with fail
  with_reducible refine hm.mono ?_
  rintro e w1 ⟨v, rfl, ho, hb⟩
  have O := hide ho
  have B := hide hb
  clear ho hb hm
  go_wp2
  go_ret
  exact ⟨v, rfl, O.out, B.out⟩
set_option maxRecDepth 20000 in
theorem union16 (A A' : Option Addr) (n c n' c' : Nat) (a b : List Int) (w : World) (h : Sl w A n c (numCells a)) (h' : Sl w A' n' c' (numCells b)) (hn : n ≤ 100000) (hn' : n' ≤ 100000) :
    Calls Try.prog 16 #[.slice A n c, .slice A' n' c'] w (GrewI w (orS a b)) := by
  have hm := merge35 A A' n c n' c' a b w h h' hn hn'
  rw [merge_or] at hm
  clear h h'
  go_enter Try.func16, Try.ntmps16
  go_wp2_with fail
  with_reducible refine hm.mono ?_
  rintro e w1 ⟨v, rfl, ho, hb⟩
  have O := hide ho
  have B := hide hb
  clear ho hb hm
  go_wp2
  go_ret
  exact ⟨v, rfl, O.out, B.out⟩
set_option maxRecDepth 20000 in
theorem minus18 (A A' : Option Addr) (n c n' c' : Nat) (a b : List Int) (w : World) (h : Sl w A n c (numCells a)) (h' : Sl w A' n' c' (numCells b)) (hn : n ≤ 100000) (hn' : n' ≤ 100000) :
    Calls Try.prog 18 #[.slice A n c, .slice A' n' c'] w (GrewI w (minusS a b)) := by
  have hm := merge36 A A' n c n' c' a b w h h' hn hn'
  rw [merge_minus] at hm
  clear h h'
  go_enter Try.func18, Try.ntmps18
  go_wp2_with fail
  with_reducible refine hm.mono ?_
  rintro e w1 ⟨v, rfl, ho, hb⟩
  have O := hide ho
  have B := hide hb
  clear ho hb hm
  go_wp2
  go_ret
  exact ⟨v, rfl, O.out, B.out⟩

end Go.Proofs.Ytfljmnjcoagbmaa
