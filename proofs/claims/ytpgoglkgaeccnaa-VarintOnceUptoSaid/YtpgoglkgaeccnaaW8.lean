/- Walks: GetString of the program and of the reference. -/
import Derived.Test.YtpgoglkgaeccnaaW7
namespace Go.Proofs.Ytpgoglkgaeccnaa
open Go.RowKit
open Go.Lib (byteCells strCells)

theorem Sl.reads {w : World} {A : Option Addr} {n c : Nat} {xs : List Value} (h : Sl w A n c xs) : Reads w w.heap.size A n xs := h.2.2.2

theorem decP_big_le (d : List UInt8) : (decP d).1 ≤ big := by
  unfold decP
  split
  · exact Nat.zero_le _
  · split
    · exact Nat.zero_le _
    · split
      · exact Nat.zero_le _
      · show dec d ≤ big
        omega

theorem getP_good (l : List UInt8) (i : Int) (x nx : Nat) (h : getP l i = (x, nx, 0)) : ∃ k m : Nat, i = (k : Int) ∧ k + m = nx ∧ nx ≤ l.length ∧ 0 < m ∧ fnum (l.drop k) = m ∧ decP ((l.drop k).take m) = (x, 0) ∧ x ≤ big := by
  unfold getP at h
  split at h
  · simp at h
  · rename_i h1
    split at h
    · simp at h
    · rename_i h2
      split at h
      · rename_i h3
        simp only [Prod.mk.injEq] at h
        have hle := fnum_le (l.drop i.toNat)
        rw [List.length_drop] at hle
        refine ⟨i.toNat, fnum (l.drop i.toNat), by omega, h.2.1, by omega, by omega, rfl, ?_, ?_⟩
        · rw [← h.1]; exact Prod.ext rfl h3
        · rw [← h.1]; exact decP_big_le _
      · rename_i h3
        simp only [Prod.mk.injEq] at h
        exact absurd h.2.2 h3
theorem getP_next (l : List UInt8) (i : Int) (x nx : Nat) (h : getP l i = (x, nx, 0)) : nx ≤ l.length ∧ i < (nx : Int) ∧ 0 ≤ i ∧ x ≤ 4611686018427387904 := by
  obtain ⟨k, m, rfl, h1, h2, h3, _, _, h4⟩ := getP_good l i x nx h
  unfold big at h4
  omega

theorem get16' (B : Nat) (A : Option Addr) (n c : Nat) (l : List UInt8) (w : World) (h : Reads w B A n (byteCells l)) (hnc : n ≤ c) (hc : c ≤ 9223372036854775807) (i : Int) (x nx er : Nat) (hg : getP l i = (x, nx, er)) :
    Calls Try.prog 16 #[.slice A n c, .int .i64 i] w fun e w' => e = .returned (.tuple #[.int .i64 (x : Int), .int .i64 (nx : Int), .int .i64 (er : Int)]) ∧ w = w' := by
  have := get16 B A n c l w h hnc hc i
  rw [hg] at this
  exact this
theorem rget17' (B : Nat) (A : Option Addr) (n c : Nat) (l : List UInt8) (w : World) (h : Reads w B A n (byteCells l)) (hnc : n ≤ c) (hc : c ≤ 9223372036854775807) (i : Int) (x nx er : Nat) (hg : getP l i = (x, nx, er)) :
    Calls Try.prog 17 #[.slice A n c, .int .i64 i] w fun e w' => e = .returned (.tuple #[.int .i64 (x : Int), .int .i64 (nx : Int), .int .i64 (er : Int)]) ∧ w = w' := by
  have := rget17 B A n c l w h hnc hc i
  rw [hg] at this
  exact this

def getSV (g : List UInt8 × Nat × Nat) : Value := .tuple #[.string ⟨g.1.toArray⟩, .int .i64 (g.2.1 : Int), .int .i64 (g.2.2 : Int)]

theorem getS_bad (l : List UInt8) (i most : Int) (x nx er : Nat) (hg : getP l i = (x, nx, er)) (h : er ≠ 0) : getS l i most = ([], 0, er) := by unfold getS; rw [hg, if_pos h]
theorem getS_long (l : List UInt8) (i most : Int) (x nx : Nat) (hg : getP l i = (x, nx, 0)) (h : most < (x : Int)) : getS l i most = ([], 0, 4) := by unfold getS; rw [hg, if_neg (by simp), if_pos h]
theorem getS_short (l : List UInt8) (i most : Int) (x nx : Nat) (hg : getP l i = (x, nx, 0)) (h : ¬ most < (x : Int)) (h2 : l.length < nx + x) : getS l i most = ([], 0, 5) := by unfold getS; rw [hg, if_neg (by simp), if_neg h, if_pos h2]
theorem getS_ok (l : List UInt8) (i most : Int) (x nx : Nat) (hg : getP l i = (x, nx, 0)) (h : ¬ most < (x : Int)) (h2 : ¬ l.length < nx + x) : getS l i most = ((l.drop nx).take x, nx + x, 0) := by unfold getS; rw [hg, if_neg (by simp), if_neg h, if_neg h2]

set_option maxRecDepth 20000 in
set_option maxHeartbeats 1600000 in
theorem gets18 (A : Option Addr) (n c : Nat) (l : List UInt8) (w : World) (h : Sl w A n c (byteCells l)) (i most : Int) :
    Calls Try.prog 18 #[.slice A n c, .int .i64 i, .int .i64 most] w fun e w' => e = .returned (getSV (getS l i most)) ∧ w = w' := by
  have hlen := h.len
  have Hlen := hide hlen
  have hnc := h.1
  have hc := h.2.1
  have H := hide h
  clear hlen h
  obtain ⟨⟨x, nx, er⟩, hg⟩ : ∃ g, getP l i = g := ⟨_, rfl⟩
  by_cases her : er = 0
  · subst her
    have hnx := getP_next l i x nx hg
    rw [Hlen.out] at hnx
    obtain ⟨hnx1, _, _, hx⟩ := hnx
    by_cases hm : most < (x : Int)
    · have hr := getS_long l i most x nx hg hm
      have Hr := hide hr
      have Hg := hide hg
      clear hr hg
      go_enter Try.func18, Try.ntmps18
      go_wp2_with fail
      with_reducible refine (get16' _ A n c l w (Sl.reads H.out) hnc hc i x nx 0 Hg.out).mono ?_
      rintro e w' ⟨rfl, rfl⟩
      go_wp2
      go_ret3
      exact ⟨by rw [Hr.out]; rfl, rfl⟩
    · by_cases hs : n < nx + x
      · have hr := getS_short l i most x nx hg hm (by rw [Hlen.out]; exact hs)
        have hs' : (n : Int) - (nx : Int) < (x : Int) := by omega
        have Hr := hide hr
        have Hg := hide hg
        clear hr hg
        go_enter Try.func18, Try.ntmps18
        go_wp2_with fail
        with_reducible refine (get16' _ A n c l w (Sl.reads H.out) hnc hc i x nx 0 Hg.out).mono ?_
        rintro e w' ⟨rfl, rfl⟩
        go_wp2
        go_ret3
        exact ⟨by rw [Hr.out]; rfl, rfl⟩
      · have hr := getS_ok l i most x nx hg hm (by rw [Hlen.out]; exact hs)
        have hs' : ¬ (n : Int) - (nx : Int) < (x : Int) := by omega
        have Hr := hide hr
        have Hg := hide hg
        clear hr hg
        by_cases hx0 : x = 0
        · subst hx0
          have hcv : ∀ (A' : Option Addr) (c' : Nat), (convert 22 9 (.slice A' 0 c')).run Try.prog w = .ok (.string ⟨#[]⟩) w := fun A' c' =>
            conv_run (B := 0) (l := []) Reads.nil 22 9 5 Try.underlying22 Try.underlying5 Try.underlying9 (fun _ => rfl)
          go_enter Try.func18, Try.ntmps18
          go_wp2_with fail
          with_reducible refine (get16' _ A n c l w (Sl.reads H.out) hnc hc i 0 nx 0 Hg.out).mono ?_
          rintro e w' ⟨rfl, rfl⟩
          go_wp2
          all_goals go_ret3
          all_goals exact ⟨by rw [Hr.out]; simp [getSV], rfl⟩
        · have hcut := (Sl.reads H.out).cut (k := nx) (cap := c) hnx1 hnc
          rw [if_neg (by omega), ← bytes_drop] at hcut
          have htake := hcut.take (k := x) (by omega)
          rw [← bytes_take] at htake
          have hcv := conv_run (P := Try.prog) (c := c - nx) htake 22 9 5 Try.underlying22 Try.underlying5 Try.underlying9 (fun e => by
            have := H.out.2.2.1
            cases A with
            | none => have := this rfl; omega
            | some a => cases e)
          have hlt : nx < c := by omega
          clear htake hcut
          go_enter Try.func18, Try.ntmps18
          go_wp2_with fail
          with_reducible refine (get16' _ A n c l w (Sl.reads H.out) hnc hc i x nx 0 Hg.out).mono ?_
          rintro e w' ⟨rfl, rfl⟩
          go_wp2
          all_goals go_ret3
          all_goals exact ⟨by rw [Hr.out]; simp [getSV], rfl⟩
  · have hr := getS_bad l i most x nx er hg her
    have Hr := hide hr
    have Hg := hide hg
    have hyi : ((er : Int) == 0) = false := beq_eq_false_iff_ne.2 (by omega)
    have hyn : ((er : Int) != 0) = true := by rw [bne, hyi]; rfl
    clear hr hg her
    go_enter Try.func18, Try.ntmps18
    go_wp2_with fail
    with_reducible refine (get16' _ A n c l w (Sl.reads H.out) hnc hc i x nx er Hg.out).mono ?_
    rintro e w' ⟨rfl, rfl⟩
    go_wp2
    go_ret3
    exact ⟨by rw [Hr.out]; rfl, rfl⟩

set_option maxRecDepth 20000 in
set_option maxHeartbeats 1600000 in
theorem rgets19 (A : Option Addr) (n c : Nat) (l : List UInt8) (w : World) (h : Sl w A n c (byteCells l)) (i most : Int) :
    Calls Try.prog 19 #[.slice A n c, .int .i64 i, .int .i64 most] w fun e w' => e = .returned (getSV (getS l i most)) ∧ w = w' := by
  have hlen := h.len
  have Hlen := hide hlen
  have hnc := h.1
  have hc := h.2.1
  have H := hide h
  clear hlen h
  obtain ⟨⟨x, nx, er⟩, hg⟩ : ∃ g, getP l i = g := ⟨_, rfl⟩
  by_cases her : er = 0
  · subst her
    have hnx := getP_next l i x nx hg
    rw [Hlen.out] at hnx
    obtain ⟨hnx1, _, _, hx⟩ := hnx
    by_cases hm : most < (x : Int)
    · have hr := getS_long l i most x nx hg hm
      have Hr := hide hr
      have Hg := hide hg
      clear hr hg
      go_enter Try.func19, Try.ntmps19
      go_wp2_with fail
      with_reducible refine (rget17' _ A n c l w (Sl.reads H.out) hnc hc i x nx 0 Hg.out).mono ?_
      rintro e w' ⟨rfl, rfl⟩
      go_wp2
      go_ret3
      exact ⟨by rw [Hr.out]; rfl, rfl⟩
    · by_cases hs : n < nx + x
      · have hr := getS_short l i most x nx hg hm (by rw [Hlen.out]; exact hs)
        have hs' : (n : Int) - (nx : Int) < (x : Int) := by omega
        have Hr := hide hr
        have Hg := hide hg
        clear hr hg
        go_enter Try.func19, Try.ntmps19
        go_wp2_with fail
        with_reducible refine (rget17' _ A n c l w (Sl.reads H.out) hnc hc i x nx 0 Hg.out).mono ?_
        rintro e w' ⟨rfl, rfl⟩
        go_wp2
        go_ret3
        exact ⟨by rw [Hr.out]; rfl, rfl⟩
      · have hr := getS_ok l i most x nx hg hm (by rw [Hlen.out]; exact hs)
        have hs' : ¬ (n : Int) - (nx : Int) < (x : Int) := by omega
        have Hr := hide hr
        have Hg := hide hg
        clear hr hg
        by_cases hx0 : x = 0
        · subst hx0
          have hcv : ∀ (A' : Option Addr) (c' : Nat), (convert 22 9 (.slice A' 0 c')).run Try.prog w = .ok (.string ⟨#[]⟩) w := fun A' c' =>
            conv_run (B := 0) (l := []) Reads.nil 22 9 5 Try.underlying22 Try.underlying5 Try.underlying9 (fun _ => rfl)
          go_enter Try.func19, Try.ntmps19
          go_wp2_with fail
          with_reducible refine (rget17' _ A n c l w (Sl.reads H.out) hnc hc i 0 nx 0 Hg.out).mono ?_
          rintro e w' ⟨rfl, rfl⟩
          go_wp2
          all_goals go_ret3
          all_goals exact ⟨by rw [Hr.out]; simp [getSV], rfl⟩
        · have hcut := (Sl.reads H.out).cut (k := nx) (cap := c) hnx1 hnc
          rw [if_neg (by omega), ← bytes_drop] at hcut
          have htake := hcut.take (k := x) (by omega)
          rw [← bytes_take] at htake
          have hcv := conv_run (P := Try.prog) (c := c - nx) htake 22 9 5 Try.underlying22 Try.underlying5 Try.underlying9 (fun e => by
            have := H.out.2.2.1
            cases A with
            | none => have := this rfl; omega
            | some a => cases e)
          have hlt : nx < c := by omega
          clear htake hcut
          go_enter Try.func19, Try.ntmps19
          go_wp2_with fail
          with_reducible refine (rget17' _ A n c l w (Sl.reads H.out) hnc hc i x nx 0 Hg.out).mono ?_
          rintro e w' ⟨rfl, rfl⟩
          go_wp2
          all_goals go_ret3
          all_goals exact ⟨by rw [Hr.out]; simp [getSV], rfl⟩
  · have hr := getS_bad l i most x nx er hg her
    have Hr := hide hr
    have Hg := hide hg
    have hyi : ((er : Int) == 0) = false := beq_eq_false_iff_ne.2 (by omega)
    have hyn : ((er : Int) != 0) = true := by rw [bne, hyi]; rfl
    clear hr hg her
    go_enter Try.func19, Try.ntmps19
    go_wp2_with fail
    with_reducible refine (rget17' _ A n c l w (Sl.reads H.out) hnc hc i x nx er Hg.out).mono ?_
    rintro e w' ⟨rfl, rfl⟩
    go_wp2
    go_ret3
    exact ⟨by rw [Hr.out]; rfl, rfl⟩

end Go.Proofs.Ytpgoglkgaeccnaa
