/- Walks: Open. -/
import Derived.Test.YtandmdmgleeogaaX5
namespace Go.Proofs.Ytandmdmgleeogaa
open Go.RowKit
open Go.Lib (byteCells)

theorem decP_big_le (d : List UInt8) : (decP d).1 ≤ big := by
  unfold decP
  split
  · exact Nat.zero_le _
  · split
    · exact Nat.zero_le _
    · split
      · exact Nat.zero_le _
      · show dec d ≤ big
        omega

theorem getP_good (l : List UInt8) (i : Int) (x nx : Nat) (h : getP l i = (x, nx, 0)) : ∃ k m : Nat, i = (k : Int) ∧ k + m = nx ∧ nx ≤ l.length ∧ 0 < m ∧ fnum (l.drop k) = m ∧ decP ((l.drop k).take m) = (x, 0) ∧ x ≤ big := by
  unfold getP at h
  split at h
  · simp at h
  · rename_i h1
    split at h
    · simp at h
    · rename_i h2
      split at h
      · rename_i h3
        simp only [Prod.mk.injEq] at h
        have hle := fnum_le (l.drop i.toNat)
        rw [List.length_drop] at hle
        refine ⟨i.toNat, fnum (l.drop i.toNat), by omega, h.2.1, by omega, by omega, rfl, ?_, ?_⟩
        · rw [← h.1]; exact Prod.ext rfl h3
        · rw [← h.1]; exact decP_big_le _
      · rename_i h3
        simp only [Prod.mk.injEq] at h
        exact absurd h.2.2 h3
theorem getP_next (l : List UInt8) (i : Int) (x nx : Nat) (h : getP l i = (x, nx, 0)) : nx ≤ l.length ∧ i < (nx : Int) ∧ 0 ≤ i ∧ x ≤ 4611686018427387904 := by
  obtain ⟨k, m, rfl, h1, h2, h3, _, _, h4⟩ := getP_good l i x nx h
  unfold big at h4
  omega

theorem get28' (B : Nat) (A : Option Addr) (n c : Nat) (l : List UInt8) (w : World) (h : Reads w B A n (byteCells l)) (hnc : n ≤ c) (hc : c ≤ 9223372036854775807) (i : Int) (x nx er : Nat) (hg : getP l i = (x, nx, er)) :
    Calls Try.prog 28 #[.slice A n c, .int .i64 i] w fun e w' => e = .returned (.tuple #[.int .i64 (x : Int), .int .i64 (nx : Int), .int .i64 (er : Int)]) ∧ w = w' := by
  have := get28 B A n c l w h hnc hc i
  rw [hg] at this
  exact this
theorem rget31' (B : Nat) (A : Option Addr) (n c : Nat) (l : List UInt8) (w : World) (h : Reads w B A n (byteCells l)) (hnc : n ≤ c) (hc : c ≤ 9223372036854775807) (i : Int) (x nx er : Nat) (hg : getP l i = (x, nx, er)) :
    Calls Try.prog 31 #[.slice A n c, .int .i64 i] w fun e w' => e = .returned (.tuple #[.int .i64 (x : Int), .int .i64 (nx : Int), .int .i64 (er : Int)]) ∧ w = w' := by
  have := rget31 B A n c l w h hnc hc i
  rw [hg] at this
  exact this

/-! ### Open's answers -/
theorem open_bad (l : List UInt8) (i most : Int) (x nx er : Nat) (hg : getP l i = (x, nx, er)) (h : er ≠ 0) : openP l i most = ([], 0, er) := by unfold openP; rw [hg, if_pos h]
theorem open_long (l : List UInt8) (i most : Int) (x nx : Nat) (hg : getP l i = (x, nx, 0)) (h : most < (x : Int)) : openP l i most = ([], 0, 4) := by unfold openP; rw [hg, if_neg (by simp), if_pos h]
theorem open_short (l : List UInt8) (i most : Int) (x nx : Nat) (hg : getP l i = (x, nx, 0)) (h : ¬ most < (x : Int)) (h2 : l.length < nx + x + 4) : openP l i most = ([], 0, 5) := by unfold openP; rw [hg, if_neg (by simp), if_neg h, if_pos h2]
theorem open_sum (l : List UInt8) (k : Nat) (most : Int) (x nx : Nat) (hg : getP l (k : Int) = (x, nx, 0)) (h : ¬ most < (x : Int)) (h2 : ¬ l.length < nx + x + 4) (s : Nat) (hs : sumP ((l.drop k).take (nx + x - k)) = s) :
    openP l (k : Int) most = if (l.drop (nx + x)).take 4 = four s then ((l.drop nx).take x, nx + x + 4, 0) else ([], 0, 6) := by
  subst hs
  unfold openP; rw [hg, if_neg (by simp), if_neg h, if_neg h2, Int.toNat_natCast]

/-- What Open returns: fresh bytes. -/
def Opened (w : World) (r : List UInt8 × Nat × Nat) (e : Ending) (w' : World) : Prop :=
  ∃ v, e = .returned (.tuple #[v, .int .i64 (r.2.1 : Int), .int .i64 (r.2.2 : Int)]) ∧ Own w' w.heap.size 5 v (byteCells r.1) ∧ Below w.heap.size w w'

set_option maxRecDepth 20000 in
set_option maxHeartbeats 3200000 in
theorem open18 (A : Option Addr) (n c : Nat) (l : List UInt8) (w : World) (h : Sl w A n c (byteCells l)) (hn : n ≤ 100000000) (i most : Int) :
    Calls Try.prog 18 #[.slice A n c, .int .i64 i, .int .i64 most] w (Opened w (openP l i most)) := by
  have hlen := h.len
  have Hlen := hide hlen
  have hnc := h.1
  have hc := h.2.1
  have H := hide h
  clear hlen h
  obtain ⟨⟨x, nx, er⟩, hg⟩ : ∃ g, getP l i = g := ⟨_, rfl⟩
  have Hg := hide hg
  by_cases her : er = 0
  · subst her
    obtain ⟨hnx1, hnx2, hnx3, hx⟩ := getP_next l i x nx hg
    rw [Hlen.out] at hnx1
    by_cases hm : most < (x : Int)
    · have Hr := hide (open_long l i most x nx hg hm)
      clear hg
      go_enter Try.func18, Try.ntmps18
      go_wp2_with fail
      with_reducible refine (get28' _ A n c l _ H.out.reads hnc hc i x nx 0 Hg.out).mono ?_
      rintro e w' ⟨rfl, rfl⟩
      go_wp2
      go_ret3
      exact ⟨_, by rw [Hr.out]; rfl, by rw [Hr.out]; exact World.ownsRow_nil _ _ _ _, Below.refl _ _⟩
    · by_cases hs : n < nx + x + 4
      · have Hr := hide (open_short l i most x nx hg hm (by rw [Hlen.out]; exact hs))
        clear hg
        go_enter Try.func18, Try.ntmps18
        go_wp2_with fail
        with_reducible refine (get28' _ A n c l _ H.out.reads hnc hc i x nx 0 Hg.out).mono ?_
        rintro e w' ⟨rfl, rfl⟩
        go_wp2
        go_ret3
        exact ⟨_, by rw [Hr.out]; rfl, by rw [Hr.out]; exact World.ownsRow_nil _ _ _ _, Below.refl _ _⟩
      · obtain ⟨k, rfl⟩ : ∃ k : Nat, i = (k : Int) := ⟨i.toNat, by omega⟩
        have hkn : k < nx := by omega
        obtain ⟨E, hE⟩ : ∃ E, nx + x = E := ⟨_, rfl⟩
        obtain ⟨N, hN⟩ : ∃ N, E + 4 = N := ⟨_, rfl⟩
        obtain ⟨s, hse⟩ : ∃ s, sumP ((l.drop k).take (E - k)) = s := ⟨_, rfl⟩
        have Hse := hide hse
        have hr := open_sum l k most x nx hg hm (by rw [Hlen.out]; exact hs) s (by rw [hE]; exact hse)
        rw [hE, hN] at hr
        have Hr := hide hr
        have hEi : (nx : Int) + (x : Int) = (E : Int) := by omega
        have hNi : (E : Int) + 4 = (N : Int) := by omega
        have hnE : nx ≤ E := by omega
        have hkE : k ≤ E := by omega
        have hEN : E ≤ N := by omega
        have hNn : N ≤ n := by omega
        have hEc : E < c := by omega
        have hNc : N ≤ c := by omega
        have hNc' : (N : Int) ≤ (c : Int) := by omega
        have hEN' : (E : Int) ≤ (N : Int) := by omega
        have hEc' : (E : Int) ≤ (c : Int) := by omega
        have hx4 : (x : Int) ≤ (n : Int) - (nx : Int) - 4 := by omega
        have hm' : (x : Int) ≤ most := by omega
        have hN4 : N - E = 4 := by omega
        have hEx : E - nx = x := by omega
        have hN0 := hide hN4
        have hEx0 := hide hEx
        have W1 := hide (H.out.win (k := k) (m := E) (by omega) (by omega) (by omega))
        have hck : ¬ c = E := by omega
        clear hg hse hr hm hs hE hN hN4 hEx
        go_enter Try.func18, Try.ntmps18
        go_wp2_with fail
        with_reducible refine (get28' _ A n c l _ H.out.reads hnc hc k x nx 0 Hg.out).mono ?_
        rintro e w' ⟨rfl, rfl⟩
        go_wp2_with fail
        refine (sumb26 _ _ _ _ _ W1.out).mono ?_
        rintro e w3 ⟨b0, b1, b2, b3, rfl, Hq, hb3⟩
        have hq := Hq.out
        rw [Hse.out] at hq
        have S4 := hide (lit_sl w3 #[.int .u8 (b0.toNat : Int), .int .u8 (b1.toNat : Int), .int .u8 (b2.toNat : Int), .int .u8 (b3.toNat : Int)] 47 (byteCells [b0, b1, b2, b3]) 4 rfl rfl (by decide))
        have hb4 := bnew hb3 (.cells #[.int .u8 (b0.toNat : Int), .int .u8 (b1.toNat : Int), .int .u8 (b2.toNat : Int), .int .u8 (b3.toNat : Int)] 47)
        have H4 := hide (H.out.below hb4)
        have B4 := hide hb4
        have W2 := hide (H4.out.win (k := E) (m := N) (by omega) (by omega) (by omega))
        have W3 := hide (H4.out.win (k := nx) (m := E) (by omega) (by omega) (by omega))
        clear hb3 hb4 W1 Hq
        by_cases heq : (l.drop E).take 4 = four s
        · have hr := Hr.out
          rw [if_pos heq] at hr
          have hbe : ([b0, b1, b2, b3] == (l.drop E).take (N - E)) = true := by rw [hN0.out, heq, hq]; simp
          have Hbe := hide hbe
          have Hr2 := hide hr
          clear hr heq hq hbe Hr
          go_wp2_with fail
          go_quiet ((go_at_call 29; exact quiet_left (equal29' _ _ 4 4 _ _ _ _ true Hbe.out _ (S4.out.drewN _) (W2.out.drewN _))))
          go_wp2_with fail
          refine (clone30 _ _ _ _ _ (W3.out.drewN _) (by omega)).mono ?_
          rintro e w5 ⟨v, rfl, ho, hb5⟩
          have B5 := bgo (bdr B4.out nq) hb5
          rw [hEx0.out] at ho
          have Ho := hide (Own.mono ho (bdr B4.out nq).size)
          have HB5 := hide B5
          clear ho hb5 B5 B4 S4 W2 W3 H4
          go_wp2
          go_ret3
          exact ⟨v, by rw [Hr2.out]; rfl, by rw [Hr2.out]; exact Ho.out, HB5.out⟩
        · have hr := Hr.out
          rw [if_neg heq] at hr
          have hbe : ([b0, b1, b2, b3] == (l.drop E).take (N - E)) = false := by
            rw [hN0.out, ← hq]
            exact beq_eq_false_iff_ne.2 fun e => heq e.symm
          have Hbe := hide hbe
          have Hr2 := hide hr
          clear hr heq hq hbe Hr
          go_wp2_with fail
          go_quiet ((go_at_call 29; exact quiet_left (equal29' _ _ 4 4 _ _ _ _ false Hbe.out _ (S4.out.drewN _) (W2.out.drewN _))))
          go_wp2
          go_ret3
          exact ⟨_, by rw [Hr2.out]; rfl, by rw [Hr2.out]; exact World.ownsRow_nil _ _ _ _, bdr B4.out nq⟩
  · have Hr := hide (open_bad l i most x nx er hg her)
    have hei : ((er : Int) == 0) = false := beq_eq_false_iff_ne.2 (by omega)
    have hen : ((er : Int) != 0) = true := by rw [bne, hei]; rfl
    clear hg her
    go_enter Try.func18, Try.ntmps18
    go_wp2_with fail
    with_reducible refine (get28' _ A n c l _ H.out.reads hnc hc i x nx er Hg.out).mono ?_
    rintro e w' ⟨rfl, rfl⟩
    go_wp2
    go_ret3
    exact ⟨_, by rw [Hr.out]; rfl, by rw [Hr.out]; exact World.ownsRow_nil _ _ _ _, Below.refl _ _⟩

end Go.Proofs.Ytandmdmgleeogaa
