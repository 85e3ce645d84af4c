/- Layer 10: walks of the reference on lists of strings: both, product, Strings. -/
import Derived.Test.YtlnbjdlooghpeaaGreatDoorQc
import Derived.Laws.Concat
namespace Go.Proofs.YtlnbjdlooghpeaaGreatDoor
open Go.RowKit
open Go.Op (bytesLess)

/-- What a list of strings and whether it exists return as. -/
def GotO (W : World) (o : Option (List (List UInt8))) (e : Ending) (w' : World) : Prop := ∃ A n c, e = .returned (.tuple #[.slice A n c, .bool o.isSome]) ∧ (∀ p, o = some p → n = p.length ∧ Sl w' A n c (strCells p)) ∧ (o = none → n ≤ c ∧ c ≤ 9223372036854775807) ∧ Below W.heap.size W w'

set_option maxRecDepth 100000 in
set_option maxHeartbeats 6400000 in
theorem rStrings {W : World} {Aa Ab : Option Addr} {na ca nb cb : Nat} {a b : List (List UInt8)} (ha : Sl W Aa na ca (strCells a)) (hb : Sl W Ab nb cb (strCells b)) (q : Bool) (hq : decide (a = b) = q) (la : a.length ≤ 1000000) :
    Calls Tryz.prog 23 #[.slice Aa na ca, .slice Ab nb cb] W fun e w' => e = .returned (.bool q) ∧ Below W.heap.size W w' := by
  have hnca := ha.1
  have hcca := ha.2.1
  have hncb := hb.1
  have hccb := hb.2.1
  have hnla := ha.nstr
  have hnlb := hb.nstr
  have Hna := hide hnla
  have Hnb := hide hnlb
  have hna5 : na ≤ 1000000 := by omega
  have SA := hide ha
  have SB := hide hb
  have Hq := hide hq
  clear ha hb hq
  by_cases hm : na = nb
  case neg =>
    have hq := int_ne (show (na : Int) ≠ (nb : Int) by omega)
    have Hn := hide (show false = q by rw [← Hq.out, decide_eq_false fun e => hm (by rw [← hnla, ← hnlb, e])])
    clear hnla hnlb hm
    go_enter Tryz.func23, Tryz.ntmps23
    go_wp2
    go_ret
    exact ⟨ret_bool Hn.out, Below.refl _ _⟩
  subst hm
  have hq : ((na : Int) != (na : Int)) = false := by simp
  clear hnla hnlb
  go_enter Tryz.func23, Tryz.ntmps23
  go_wp2
  go_loopw [5] (fun x wr => ∃ i : Nat, i ≤ na ∧ x = .int .i64 (i : Int) ∧ a.take i = b.take i ∧ Below W.heap.size W wr) (fun x _ => na - (intOf x).toNat)
  case atStart => exact ⟨0, Nat.zero_le _, rfl, rfl, Below.refl _ _⟩
  case round =>
    obtain ⟨i, hi, rfl, hm, hbel⟩ := hrel
    obtain ⟨w3, hw3⟩ : ∃ w3, w3 = wr := ⟨wr, rfl⟩
    subst hw3
    have B3 := hide hbel
    have Hm := hide hm
    have hib : (i : Int) ≤ 1000000 := by omega
    clear hm
    by_cases hlt : i < na
    · have hlt' : (i : Int) < (na : Int) := by omega
      obtain ⟨ad, x, rfl, hx, hcx⟩ := str_cell (SA.out.below hbel).reads hlt
      obtain ⟨ae, y, rfl, hy, hcy⟩ := str_cell (SB.out.below hbel).reads hlt
      clear hbel
      by_cases he : x = y
      · have hse := str_eq he
        have Hn := hide (show a.take (i + 1) = b.take (i + 1) by rw [takeN hx, takeN hy, Hm.out, he])
        clear he hx hy
        go_wp2_with fail
        go_quiet (fail)
        go_wp2
        go_roundw
        case rel => exact ⟨i + 1, by omega, by go_num, Hn.out, bdr B3.out _⟩
        case measure => simp [intOf]; omega
      · have hse := str_ne he
        have Hn := hide (show false = q by
          rw [← Hq.out, decide_eq_false fun e => he (by rw [e, hy] at hx; exact (Option.some.inj hx).symm)])
        clear he hx hy
        go_wp2_with fail
        go_quiet (fail)
        go_wp2
        go_ret
        exact ⟨ret_bool Hn.out, bdr B3.out _⟩
    · have hlt' : ¬ (i : Int) < (na : Int) := by omega
      have hall := Hm.out
      rw [takeA a (by rw [Hna.out]; omega), takeA b (by rw [Hnb.out]; omega)] at hall
      have Hn := hide (show true = q by rw [← Hq.out, decide_eq_true hall])
      clear hall hbel
      go_wp2
      go_ret
      exact ⟨ret_bool Hn.out, B3.out⟩
end Go.Proofs.YtlnbjdlooghpeaaGreatDoor
