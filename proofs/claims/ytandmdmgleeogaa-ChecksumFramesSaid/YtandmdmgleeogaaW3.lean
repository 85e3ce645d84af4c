/- Walks: Get. -/
import Derived.Test.YtandmdmgleeogaaW2
namespace Go.Proofs.Ytandmdmgleeogaa
open Go.RowKit
open Go.Lib (byteCells)

theorem getP_range (l : List UInt8) (i : Int) (h : i < 0 ∨ (l.length : Int) < i) : getP l i = (0, 0, 2) := by unfold getP; rw [if_pos h]
theorem getP_short (l : List UInt8) (k : Nat) (h : k ≤ l.length) (h0 : fnum (l.drop k) = 0) : getP l (k : Int) = (0, 0, 5) := by
  unfold getP; rw [if_neg (by omega), Int.toNat_natCast, if_pos h0]
theorem getP_ok (l : List UInt8) (k m : Nat) (h : k ≤ l.length) (hm : fnum (l.drop k) = m) (h0 : m ≠ 0) (he : (decP ((l.drop k).take m)).2 = 0) : getP l (k : Int) = ((decP ((l.drop k).take m)).1, k + m, 0) := by
  subst hm
  unfold getP; rw [if_neg (by omega), Int.toNat_natCast, if_neg h0, if_pos he]
theorem getP_bad (l : List UInt8) (k m : Nat) (h : k ≤ l.length) (hm : fnum (l.drop k) = m) (h0 : m ≠ 0) (he : (decP ((l.drop k).take m)).2 ≠ 0) : getP l (k : Int) = (0, 0, (decP ((l.drop k).take m)).2) := by
  subst hm
  unfold getP; rw [if_neg (by omega), Int.toNat_natCast, if_neg h0, if_neg he]

theorem bytes_drop (l : List UInt8) (k : Nat) : byteCells (l.drop k) = (byteCells l).drop k := by simp [byteCells, List.map_drop]
theorem bytes_take (l : List UInt8) (k : Nat) : byteCells (l.take k) = (byteCells l).take k := by simp [byteCells, List.map_take]
theorem first34' (B : Nat) (A : Option Addr) (n c : Nat) (l : List UInt8) (m : Nat) (hm : fnum l = m) (w : World) (h : Reads w B A n (byteCells l)) (hn : n ≤ 9223372036854775807) :
    Calls Try.prog 34 #[.slice A n c] w fun e w' => e = .returned (.int .i64 (m : Int)) ∧ w = w' := by subst hm; exact first34 B A n c l w h hn

theorem decode35' (B : Nat) (A : Option Addr) (n c : Nat) (d : List UInt8) (x y : Nat) (hx : (decP d).1 = x) (hy : (decP d).2 = y) (w : World) (h : Reads w B A n (byteCells d)) (hn : n ≤ 9223372036854775807) :
    Calls Try.prog 35 #[.slice A n c] w fun e w' => e = .returned (.tuple #[.int .i64 (x : Int), .int .i64 (y : Int)]) ∧ w = w' := by subst hx hy; exact decode35 B A n c d w h hn

/-- What Get returns. -/
def getV (g : Nat × Nat × Nat) : Value := .tuple #[.int .i64 (g.1 : Int), .int .i64 (g.2.1 : Int), .int .i64 (g.2.2 : Int)]

set_option maxRecDepth 20000 in
set_option maxHeartbeats 1600000 in
theorem get28 (B : Nat) (A : Option Addr) (n c : Nat) (l : List UInt8) (w : World) (h : Reads w B A n (byteCells l)) (hnc : n ≤ c) (hc : c ≤ 9223372036854775807) (i : Int) :
    Calls Try.prog 28 #[.slice A n c, .int .i64 i] w fun e w' => e = .returned (getV (getP l i)) ∧ w = w' := by
  have hlen : l.length = n := by rw [← bytes_size]; exact h.1
  have Hlen := hide hlen
  have H := hide h
  clear hlen h
  by_cases hr : i < 0 ∨ (n : Int) < i
  · have hg := getP_range l i (by rw [Hlen.out]; exact hr)
    have Hg := hide hg
    clear hg
    rcases hr with hr | hr
    · go_enter Try.func28, Try.ntmps28
      go_wp2
      go_ret3
      exact ⟨by rw [Hg.out]; rfl, rfl⟩
    · by_cases h0 : i < 0
      · omega
      · go_enter Try.func28, Try.ntmps28
        go_wp2
        go_ret3
        exact ⟨by rw [Hg.out]; rfl, rfl⟩
  obtain ⟨k, hik⟩ : ∃ k : Nat, i = (k : Int) := ⟨i.toNat, by omega⟩
  subst hik
  have hkn : k ≤ n := by omega
  clear hr
  have hcut := H.out.cut hkn hnc
  rw [← bytes_drop] at hcut
  obtain ⟨m, hm⟩ : ∃ m, fnum (l.drop k) = m := ⟨_, rfl⟩
  have hmle := fnum_le (l.drop k)
  rw [List.length_drop, Hlen.out, hm] at hmle
  have Hm := hide hm
  by_cases hck : c = k
  · rw [if_pos hck] at hcut
    have hm0 : m = 0 := by omega
    have hg := getP_short l k (by rw [Hlen.out]; exact hkn) (by rw [hm, hm0])
    have Hg := hide hg
    subst hm0
    clear hg hcut hm
    subst hck
    go_enter Try.func28, Try.ntmps28
    go_wp2_with fail
    with_reducible refine (first34' B A 0 0 [] 0 rfl _ Reads.nil (by omega)).mono ?_
    rintro e w' ⟨rfl, rfl⟩
    go_wp2
    go_ret3
    exact ⟨by rw [Hg.out]; rfl, rfl⟩
  · rw [if_neg hck] at hcut
    have hck' : k < c := by omega
    by_cases hm0 : m = 0
    · have hg := getP_short l k (by rw [Hlen.out]; exact hkn) (by rw [hm, hm0])
      have Hg := hide hg
      have Hcut := hide hcut
      subst hm0
      clear hg hcut hm hck
      go_enter Try.func28, Try.ntmps28
      go_wp2_with fail
      with_reducible refine (first34' B _ (n - k) (c - k) (l.drop k) 0 Hm.out _ Hcut.out (by omega)).mono ?_
      rintro e w' ⟨rfl, rfl⟩
      go_wp2
      go_ret3
      exact ⟨by rw [Hg.out]; rfl, rfl⟩
    · have htake := hcut.take (k := m) (by omega)
      rw [← bytes_take] at htake
      have hmi : ((m : Int) == 0) = false := beq_eq_false_iff_ne.2 (by omega)
      obtain ⟨x, hx⟩ : ∃ x, (decP ((l.drop k).take m)).1 = x := ⟨_, rfl⟩
      obtain ⟨y, hy⟩ : ∃ y, (decP ((l.drop k).take m)).2 = y := ⟨_, rfl⟩
      by_cases he : y = 0
      · subst he
        have hg := getP_ok l k m (by rw [Hlen.out]; exact hkn) hm hm0 hy
        rw [hx] at hg
        have Hg := hide hg
        have Hcut := hide hcut
        have Htake := hide htake
        have Hx := hide hx
        have Hy := hide hy
        clear hg hcut hm hck htake hx hy hm0
        go_enter Try.func28, Try.ntmps28
        go_wp2_with fail
        with_reducible refine (first34' B _ (n - k) (c - k) (l.drop k) m Hm.out _ Hcut.out (by omega)).mono ?_
        rintro e w' ⟨rfl, rfl⟩
        go_wp2_with fail
        with_reducible refine (decode35' B _ m (c - k) _ x 0 Hx.out Hy.out _ Htake.out (by omega)).mono ?_
        rintro e w' ⟨rfl, rfl⟩
        go_wp2
        go_ret3
        exact ⟨by rw [Hg.out]; simp [getV], rfl⟩
      · have hg := getP_bad l k m (by rw [Hlen.out]; exact hkn) hm hm0 (by rw [hy]; exact he)
        rw [hy] at hg
        have Hg := hide hg
        have Hcut := hide hcut
        have Htake := hide htake
        have Hx := hide hx
        have Hy := hide hy
        have hyi : ((y : Int) == 0) = false := beq_eq_false_iff_ne.2 (by omega)
        have hyn : ((y : Int) != 0) = true := by rw [bne, hyi]; rfl
        clear hg hcut hm hck htake hx hy hm0
        go_enter Try.func28, Try.ntmps28
        go_wp2_with fail
        with_reducible refine (first34' B _ (n - k) (c - k) (l.drop k) m Hm.out _ Hcut.out (by omega)).mono ?_
        rintro e w' ⟨rfl, rfl⟩
        go_wp2_with fail
        with_reducible refine (decode35' B _ m (c - k) _ x y Hx.out Hy.out _ Htake.out (by omega)).mono ?_
        rintro e w' ⟨rfl, rfl⟩
        go_wp2
        go_ret3
        exact ⟨by rw [Hg.out]; rfl, rfl⟩

end Go.Proofs.Ytandmdmgleeogaa
