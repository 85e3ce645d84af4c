/- Walks of layer 5's reference: Has, skip, Pack; the calls of layer 3's reference by their contracts (variables here: cPut, cPutL, cGet, cGetL). -/
import Derived.Test.YtfljmnjcoagbmaaR5
namespace Go.Proofs.Ytfljmnjcoagbmaa
open Go.RowKit
open Go.Lib (byteCells)

set_option maxRecDepth 20000 in
theorem rhas26 (A : Option Addr) (n c : Nat) (l : List Int) (m : Int) (w : World) (h : Sl w A n c (numCells l)) :
    Calls Try.prog 26 #[.slice A n c, .int .i64 m] w fun e w' => e = .returned (.bool (valP l && decide (m ∈ l))) ∧ Drawn w w' := by
  have hc := h.2.1
  have hnc := h.1
  have H := hide h
  clear h
  cases hv : valP l with
  | true =>
    have Hv := hide hv
    clear hv
    go_enter Try.func26, Try.ntmps26
    go_wp2_with fail
    refine (rvalid12 A n c l _ H.out).mono ?_
    rintro e w1 ⟨rfl, hd⟩
    have Hd := hide hd
    have K := hide (H.out.below (hd.below _))
    rw [Hv.out]
    clear hd
    go_wp2_with fail
    refine (rin31 _ A n c l m _ K.out.reads (by omega)).mono ?_
    rintro e w2 ⟨rfl, rfl⟩
    go_wp2
    go_ret
    exact ⟨ret_bool (by simp), Hd.out⟩
  | false =>
    have Hv := hide hv
    clear hv
    go_enter Try.func26, Try.ntmps26
    go_wp2_with fail
    refine (rvalid12 A n c l _ H.out).mono ?_
    rintro e w1 ⟨rfl, hd⟩
    have Hd := hide hd
    rw [Hv.out]
    clear hd
    go_wp2
    go_ret
    exact ⟨ret_bool (by simp), Hd.out⟩

def PutL (w : World) (r : List UInt8 × Nat) (e : Ending) (w' : World) : Prop := ∃ v, e = .returned (.tuple #[v, .int .i64 (r.2 : Int)]) ∧ Own w' w.heap.size 5 v (byteCells r.1) ∧ Below w.heap.size w w'
def GotL (w : World) (r : List Int × Nat × Nat) (e : Ending) (w' : World) : Prop :=
  ∃ v, e = .returned (.tuple #[v, .int .i64 (r.2.1 : Int), .int .i64 (r.2.2 : Int)]) ∧ Own w' w.heap.size 3 v (numCells r.1) ∧ Below w.heap.size w w'

section
variable (cPut : ∀ (A : Option Addr) (n c : Nat) (l : List UInt8) (i : Int) (w : World), Sl w A n c (byteCells l) → i ≤ 9223372036854775807 → n ≤ 1000000000 → Calls Try.prog 42 #[.slice A n c, .int .i64 i] w (Grew w w.heap.size (l ++ enc i.toNat)))
variable (cPutL : ∀ (A A' : Option Addr) (n c n' c' : Nat) (b : List UInt8) (xs : List Int) (w : World), Sl w A n c (byteCells b) → Sl w A' n' c' (numCells xs) → n ≤ 10000000 → n' ≤ 10000000 → (∀ z ∈ xs, z ≤ 9223372036854775807) → Calls Try.prog 43 #[.slice A n c, .slice A' n' c'] w (PutL w (putL b xs)))
variable (cGet : ∀ (B : Nat) (A : Option Addr) (n c : Nat) (l : List UInt8) (w : World), Reads w B A n (byteCells l) → n ≤ c → c ≤ 9223372036854775807 → ∀ (i : Int) (x nx er : Nat), getP l i = (x, nx, er) →
    Calls Try.prog 47 #[.slice A n c, .int .i64 i] w fun e w' => e = .returned (.tuple #[.int .i64 (x : Int), .int .i64 (nx : Int), .int .i64 (er : Int)]) ∧ w = w')
variable (cGetL : ∀ (A : Option Addr) (n c : Nat) (l : List UInt8) (w : World), Sl w A n c (byteCells l) → n ≤ 1000000000 → ∀ (i most : Int), Calls Try.prog 49 #[.slice A n c, .int .i64 i, .int .i64 most] w (GotL w (getL l i most)))

/-- What skip returns. -/
def skipV (r : Option Int) : Int := r.getD (-1)
theorem skip_bad (b : List UInt8) (n : Nat) (i : Int) (x nx er : Nat) (hg : getP b i = (x, nx, er)) (he : er ≠ 0) : skipP b (n + 1) i = none := by
  show (if _ then none else skipP b n _) = none
  rw [hg, if_pos he]
theorem skip_ok (b : List UInt8) (n : Nat) (i : Int) (x nx : Nat) (hg : getP b i = (x, nx, 0)) : skipP b (n + 1) i = skipP b n (nx : Int) := by
  show (if _ then none else skipP b n _) = _
  rw [hg, if_neg (by simp)]

include cGet in
set_option maxRecDepth 20000 in
set_option maxHeartbeats 800000 in
theorem rskip48 (B : Nat) (A : Option Addr) (n c : Nat) (l : List UInt8) (w : World) (h : Reads w B A n (byteCells l)) (hnc : n ≤ c) (hc : c ≤ 9223372036854775807) (i : Int) (m : Nat) (hm : m ≤ 1000000) :
    Calls Try.prog 48 #[.slice A n c, .int .i64 i, .int .i64 (m : Int)] w fun e w' => e = .returned (.int .i64 (skipV (skipP l m i))) ∧ w = w' := by
  have H := hide h
  obtain ⟨R, hR⟩ : ∃ R, skipP l m i = R := ⟨_, rfl⟩
  rw [hR]
  have HR := hide hR
  have CGet := hide cGet
  clear h hR cGet
  go_enter Try.func48, Try.ntmps48
  go_wp2
  go_loop [1, 7] (fun u v => ∃ (k : Nat) (x : Int), k ≤ m ∧ v = .int .i64 k ∧ u = .int .i64 x ∧ skipP l (m - k) x = R) (fun _ v => m - (intOf v).toNat)
  case atStart => exact ⟨0, i, Nat.zero_le _, rfl, rfl, HR.out⟩
  case round =>
    obtain ⟨k, x, hk, rfl, rfl, hs⟩ := hrel
    by_cases hlt : k < m
    · obtain ⟨⟨y, nx, er⟩, hg⟩ : ∃ g, getP l x = g := ⟨_, rfl⟩
      have Hg := hide hg
      rw [show m - k = (m - (k + 1)) + 1 by omega] at hs
      by_cases her : er = 0
      · subst her
        rw [skip_ok l _ x y nx hg] at hs
        have Hs := hide hs
        clear hg hs
        go_wp2_with fail
        refine (CGet.out B A n c l _ H.out hnc hc x y nx 0 Hg.out).mono ?_
        rintro e w' ⟨rfl, rfl⟩
        go_wp2
        go_round
        case rel => exact ⟨k + 1, nx, by omega, by go_num, rfl, Hs.out⟩
        case measure => simp [intOf]; omega
      · rw [skip_bad l _ x y nx er hg her] at hs
        have Hs := hide hs
        have hei : ((er : Int) == 0) = false := beq_eq_false_iff_ne.2 (by omega)
        have hen : ((er : Int) != 0) = true := by rw [bne, hei]; rfl
        clear hg hs her
        go_wp2_with fail
        refine (CGet.out B A n c l _ H.out hnc hc x y nx er Hg.out).mono ?_
        rintro e w' ⟨rfl, rfl⟩
        go_wp2
        go_ret
        exact ⟨by rw [← Hs.out]; rfl, rfl⟩
    · rw [show m - k = 0 by omega] at hs
      have Hs := hide (show some x = R from hs)
      clear hs
      go_wp2
      go_ret
      exact ⟨by rw [← Hs.out]; rfl, rfl⟩
end

end Go.Proofs.Ytfljmnjcoagbmaa
