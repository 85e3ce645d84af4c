/- Walk of layer 5's reference: Seek. -/
import Derived.Test.YtfljmnjcoagbmaaR8
namespace Go.Proofs.Ytfljmnjcoagbmaa
open Go.RowKit
open Go.Lib (byteCells)

/-- What Seek returns. -/
def seekO (r : Option Int) : Int × Bool := match r with | some x => (x, true) | none => (0, false)
def seekV (r : Option (List Int)) (m : Int) : Int × Bool := match r with | none => (0, false) | some l => seekO (seekS l m)
theorem find_at (l : List Int) (m : Int) (k : Nat) (z : Int) (h : ∀ y ∈ l.take k, y < m) (hz : l[k]? = some z) (hm : m ≤ z) : seekS l m = some z := by
  have hk := (List.getElem?_eq_some_iff.1 hz).1
  have e : l = l.take k ++ (z :: l.drop (k + 1)) := by rw [← drop_cons l k z hz, List.take_append_drop]
  unfold seekS
  rw [e, List.find?_append]
  have hn : (l.take k).find? (fun x => decide (m ≤ x)) = none := by
    rw [List.find?_eq_none]
    intro y hy
    have := h y hy
    simp
    omega
  rw [hn, List.find?_cons, decide_eq_true hm]
  rfl
theorem find_none (l : List Int) (m : Int) (h : ∀ y ∈ l, y < m) : seekS l m = none := by
  unfold seekS
  rw [List.find?_eq_none]
  intro y hy
  have := h y hy
  simp
  omega
theorem less_next (l : List Int) (m : Int) (k : Nat) (z : Int) (h : ∀ y ∈ l.take k, y < m) (hz : l[k]? = some z) (hm : z < m) : ∀ y ∈ l.take (k + 1), y < m := by
  intro y hy
  rw [take_at l k z hz] at hy
  rcases List.mem_append.1 hy with hy | hy
  · exact h y hy
  · simp at hy; omega

section
variable (cPut : ∀ (A : Option Addr) (n c : Nat) (l : List UInt8) (i : Int) (w : World), Sl w A n c (byteCells l) → i ≤ 9223372036854775807 → n ≤ 1000000000 → Calls Try.prog 42 #[.slice A n c, .int .i64 i] w (Grew w w.heap.size (l ++ enc i.toNat)))
variable (cPutL : ∀ (A A' : Option Addr) (n c n' c' : Nat) (b : List UInt8) (xs : List Int) (w : World), Sl w A n c (byteCells b) → Sl w A' n' c' (numCells xs) → n ≤ 10000000 → n' ≤ 10000000 → (∀ z ∈ xs, z ≤ 9223372036854775807) → Calls Try.prog 43 #[.slice A n c, .slice A' n' c'] w (PutL w (putL b xs)))
variable (cGet : ∀ (B : Nat) (A : Option Addr) (n c : Nat) (l : List UInt8) (w : World), Reads w B A n (byteCells l) → n ≤ c → c ≤ 9223372036854775807 → ∀ (i : Int) (x nx er : Nat), getP l i = (x, nx, er) →
    Calls Try.prog 47 #[.slice A n c, .int .i64 i] w fun e w' => e = .returned (.tuple #[.int .i64 (x : Int), .int .i64 (nx : Int), .int .i64 (er : Int)]) ∧ w = w')
variable (cGetL : ∀ (A : Option Addr) (n c : Nat) (l : List UInt8) (w : World), Sl w A n c (byteCells l) → n ≤ 1000000000 → ∀ (i most : Int), Calls Try.prog 49 #[.slice A n c, .int .i64 i, .int .i64 most] w (GotL w (getL l i most)))

include cPut cPutL cGet cGetL in
set_option maxRecDepth 20000 in
set_option maxHeartbeats 1600000 in
theorem rseek30 (A : Option Addr) (n c : Nat) (b : List UInt8) (m : Int) (w : World) (h : Sl w A n c (byteCells b)) (hn : n ≤ 100000000) :
    Calls Try.prog 30 #[.slice A n c, .int .i64 m] w fun e w' => e = .returned (.tuple #[.int .i64 (seekV (unpackP b) m).1, .bool (seekV (unpackP b) m).2]) ∧ Below w.heap.size w w' := by
  have H := hide h
  have CPut := hide cPut
  have CPutL := hide cPutL
  have CGet := hide cGet
  have CGetL := hide cGetL
  clear h cPut cPutL cGet cGetL
  cases hu : unpackP b with
  | none =>
    have Hu := hide hu
    clear hu
    go_enter Try.func30, Try.ntmps30
    go_wp2_with fail
    refine (runpack28 CPut.out CPutL.out CGet.out CGetL.out A n c b _ H.out hn).mono ?_
    rw [Hu.out]
    rintro e w1 ⟨v, rfl, -, hb⟩
    have B1 := hide hb
    clear hb
    go_wp2
    go_ret2
    exact ⟨rfl, B1.out⟩
  | some l =>
    have Hu := hide hu
    obtain ⟨R, hR⟩ : ∃ R, seekS l m = R := ⟨_, rfl⟩
    have hv : seekV (some l) m = seekO R := by show seekO (seekS l m) = _; rw [hR]
    rw [hv]
    have HR := hide hR
    clear hu hR hv
    go_enter Try.func30, Try.ntmps30
    go_wp2_with fail
    refine (runpack28 CPut.out CPutL.out CGet.out CGetL.out A n c b _ H.out hn).mono ?_
    rw [Hu.out]
    rintro e w1 ⟨v, rfl, hown, hb⟩
    have hown' : Own w1 w.heap.size 3 v (numCells l) := hown
    obtain ⟨A2, m2, c2, rfl, hm2, hs2⟩ := hown'.slI
    have S2 := hide hs2
    have Hm2 := hide hm2
    have hc2 := hs2.2.1
    have hmc2 := hs2.1
    have B1 := hide hb
    clear hown hown' hm2 hs2 hb
    go_wp2
    go_loop [8] (fun x => ∃ k : Nat, k ≤ m2 ∧ x = .int .i64 k ∧ ∀ y ∈ l.take k, y < m) (fun x => m2 - (intOf x).toNat)
    case atStart => exact ⟨0, Nat.zero_le _, rfl, by simp⟩
    case round =>
      obtain ⟨k, hk, rfl, hl⟩ := hrel
      have Hl := hide hl
      clear hl
      by_cases hlt : k < m2
      · obtain ⟨ad, z, rfl, hz, hcell⟩ := num_cell S2.out.reads hlt
        by_cases hge : m ≤ z
        · have hf := find_at l m k z Hl.out hz hge
          rw [HR.out] at hf
          subst hf
          clear hz
          go_wp2
          go_ret2
          exact ⟨rfl, B1.out⟩
        · have Hn := hide (less_next l m k z Hl.out hz (by omega))
          have hge' : z < m := by omega
          clear hz
          go_wp2
          go_round
          case rel => exact ⟨k + 1, by omega, by go_num, Hn.out⟩
          case measure => simp [intOf]; omega
      · have hl2 := Hl.out
        rw [List.take_of_length_le (by rw [← Hm2.out]; omega)] at hl2
        have hf := find_none l m hl2
        rw [HR.out] at hf
        subst hf
        clear hl2
        go_wp2
        go_ret2
        exact ⟨rfl, B1.out⟩
end

end Go.Proofs.Ytfljmnjcoagbmaa
