/- Walks of layer 3's functions: V3. -/
import Derived.Test.YtfljmnjcoagbmaaV2
namespace Go.Proofs.Ytfljmnjcoagbmaa
open Go.RowKit
open Go.Lib (byteCells strCells)

theorem decP_big_le (d : List UInt8) : (decP d).1 ≤ big := by
  unfold decP
  split
  · exact Nat.zero_le _
  · split
    · exact Nat.zero_le _
    · split
      · exact Nat.zero_le _
      · show dec d ≤ big
        omega

theorem getP_good (l : List UInt8) (i : Int) (x nx : Nat) (h : getP l i = (x, nx, 0)) : ∃ k m : Nat, i = (k : Int) ∧ k + m = nx ∧ nx ≤ l.length ∧ 0 < m ∧ fnum (l.drop k) = m ∧ decP ((l.drop k).take m) = (x, 0) ∧ x ≤ big := by
  unfold getP at h
  split at h
  · simp at h
  · rename_i h1
    split at h
    · simp at h
    · rename_i h2
      split at h
      · rename_i h3
        simp only [Prod.mk.injEq] at h
        have hle := fnum_le (l.drop i.toNat)
        rw [List.length_drop] at hle
        refine ⟨i.toNat, fnum (l.drop i.toNat), by omega, h.2.1, by omega, by omega, rfl, ?_, ?_⟩
        · rw [← h.1]; exact Prod.ext rfl h3
        · rw [← h.1]; exact decP_big_le _
      · rename_i h3
        simp only [Prod.mk.injEq] at h
        exact absurd h.2.2 h3
theorem getP_next (l : List UInt8) (i : Int) (x nx : Nat) (h : getP l i = (x, nx, 0)) : nx ≤ l.length ∧ i < (nx : Int) ∧ 0 ≤ i ∧ x ≤ 4611686018427387904 := by
  obtain ⟨k, m, rfl, h1, h2, h3, _, _, h4⟩ := getP_good l i x nx h
  unfold big at h4
  omega

theorem get16' (B : Nat) (A : Option Addr) (n c : Nat) (l : List UInt8) (w : World) (h : Reads w B A n (byteCells l)) (hnc : n ≤ c) (hc : c ≤ 9223372036854775807) (i : Int) (x nx er : Nat) (hg : getP l i = (x, nx, er)) :
    Calls Try.prog 61 #[.slice A n c, .int .i64 i] w fun e w' => e = .returned (.tuple #[.int .i64 (x : Int), .int .i64 (nx : Int), .int .i64 (er : Int)]) ∧ w = w' := by
  have := get61 B A n c l w h hnc hc i
  rw [hg] at this
  exact this
theorem rget17' (B : Nat) (A : Option Addr) (n c : Nat) (l : List UInt8) (w : World) (h : Reads w B A n (byteCells l)) (hnc : n ≤ c) (hc : c ≤ 9223372036854775807) (i : Int) (x nx er : Nat) (hg : getP l i = (x, nx, er)) :
    Calls Try.prog 47 #[.slice A n c, .int .i64 i] w fun e w' => e = .returned (.tuple #[.int .i64 (x : Int), .int .i64 (nx : Int), .int .i64 (er : Int)]) ∧ w = w' := by
  have := rget47 B A n c l w h hnc hc i
  rw [hg] at this
  exact this

open Go.RowKit
open Go.Lib (byteCells strCells)

theorem gl_bad (l : List UInt8) (k : Nat) (xs : List Int) (nxt d a er : Nat) (hg : getP l (nxt : Int) = (d, a, er)) (h : er ≠ 0) : gl l (k + 1) xs nxt = ([], 0, er) := by unfold gl; rw [hg, if_pos h]
theorem gl_form (l : List UInt8) (k : Nat) (xs : List Int) (nxt d a : Nat) (hg : getP l (nxt : Int) = (d, a, 0)) (h : xs ≠ []) (hd : d = 0) : gl l (k + 1) xs nxt = ([], 0, 3) := by unfold gl; rw [hg, if_neg (by simp), if_pos ⟨h, hd⟩]
theorem gl_long (l : List UInt8) (k : Nat) (xs : List Int) (nxt d a : Nat) (hg : getP l (nxt : Int) = (d, a, 0)) (h : ¬ (xs ≠ [] ∧ d = 0)) (hd : (4611686018427387904 : Int) < xs.getLastD 0 + (d : Int)) : gl l (k + 1) xs nxt = ([], 0, 4) := by
  unfold gl; rw [hg, if_neg (by simp), if_neg h, if_pos (by unfold big; exact hd)]
theorem gl_ok (l : List UInt8) (k : Nat) (xs : List Int) (nxt d a : Nat) (hg : getP l (nxt : Int) = (d, a, 0)) (h : ¬ (xs ≠ [] ∧ d = 0)) (hd : ¬ (4611686018427387904 : Int) < xs.getLastD 0 + (d : Int)) : gl l (k + 1) xs nxt = gl l k (xs ++ [xs.getLastD 0 + (d : Int)]) a := by
  conv => lhs; unfold gl
  rw [hg, if_neg (by simp), if_neg h, if_neg (by unfold big; exact hd)]
theorem last_snoc (xs : List Int) (z : Int) : (xs ++ [z]).getLastD 0 = z := by simp
theorem ne_nil_of (xs : List Int) (k : Nat) (h : xs.length = k) (hk : 0 < k) : xs ≠ [] := by intro e; rw [e] at h; simp at h; omega
theorem nil_of (xs : List Int) (h : xs.length = 0) : xs = [] := List.eq_nil_of_length_eq_zero h

theorem getL_bad (l : List UInt8) (i most : Int) (x nx er : Nat) (hg : getP l i = (x, nx, er)) (h : er ≠ 0) : getL l i most = ([], 0, er) := by unfold getL; rw [hg, if_pos h]
theorem getL_long (l : List UInt8) (i most : Int) (x nx : Nat) (hg : getP l i = (x, nx, 0)) (h : most < (x : Int)) : getL l i most = ([], 0, 4) := by unfold getL; rw [hg, if_neg (by simp), if_pos h]
theorem getL_go (l : List UInt8) (i most : Int) (x nx : Nat) (hg : getP l i = (x, nx, 0)) (h : ¬ most < (x : Int)) : getL l i most = gl l x [] nx := by unfold getL; rw [hg, if_neg (by simp), if_neg h]

theorem GotL.err {w w' : World} (er : Nat) (hb : Below w.heap.size w w') : GotL w ([], 0, er) (.returned (.tuple #[.slice none 0 0, .int .i64 0, .int .i64 (er : Int)])) w' :=
  ⟨_, rfl, World.ownsRow_nil _ _ _ _, hb⟩

/-- The loop of GetList. -/
def LInv (w : World) (l : List UInt8) (R : List Int × Nat × Nat) (x : Nat) (k : Nat) (xs : List Int) (nxt : Nat) (v : Value) (wr : World) : Prop :=
  gl l (x - k) xs nxt = R ∧ xs.length = k ∧ Own wr w.heap.size 3 v (numCells xs) ∧ Below w.heap.size w wr

set_option maxRecDepth 20000 in
set_option maxHeartbeats 3200000 in
theorem getl62 (A : Option Addr) (n c : Nat) (l : List UInt8) (w : World) (h : Sl w A n c (byteCells l)) (hn : n ≤ 1000000000) (i most : Int) :
    Calls Try.prog 62 #[.slice A n c, .int .i64 i, .int .i64 most] w (GotL w (getL l i most)) := by
  obtain ⟨i0, hi0, hz0, hz1, hz2⟩ := info_parts info3
  have hlen := h.len
  have Hlen := hide hlen
  have hnc := h.1
  have hc := h.2.1
  have H := hide h
  clear hlen h
  obtain ⟨⟨x, nx, er⟩, hg⟩ : ∃ g, getP l i = g := ⟨_, rfl⟩
  by_cases her : er = 0
  · subst her
    have hnx := getP_next l i x nx hg
    rw [Hlen.out] at hnx
    obtain ⟨hnx1, _, _, hx⟩ := hnx
    by_cases hm : most < (x : Int)
    · have hr := getL_long l i most x nx hg hm
      have Hr := hide hr
      have Hg := hide hg
      clear hr hg
      go_enter Try.func62, Try.ntmps62
      go_wp2_with fail
      with_reducible refine (get16' _ A n c l w (Sl.reads H.out) hnc hc i x nx 0 Hg.out).mono ?_
      rintro e w' ⟨rfl, rfl⟩
      go_wp2
      go_ret3
      rw [Hr.out]
      exact GotL.err 4 (Below.refl _ _)
    · have hr := getL_go l i most x nx hg hm
      obtain ⟨R, hR⟩ : ∃ R, getL l i most = R := ⟨_, rfl⟩
      rw [hR] at hr ⊢
      have Hr := hide hr.symm
      have Hg := hide hg
      clear hr hg hR
      go_enter Try.func62, Try.ntmps62
      go_wp2_with fail
      with_reducible refine (get16' _ A n c l w (Sl.reads H.out) hnc hc i x nx 0 Hg.out).mono ?_
      rintro e w' ⟨rfl, rfl⟩
      go_wp2
      go_loopw [10, 12, 13, 32] (fun u v y z wr => ∃ (k : Nat) (xs : List Int) (nxt : Nat), k ≤ x ∧ z = .int .i64 k ∧ u = .int .i64 nxt ∧ y = .int .i64 (xs.getLastD 0) ∧ k ≤ nxt ∧ nxt ≤ n ∧ 0 ≤ xs.getLastD 0 ∧ xs.getLastD 0 ≤ 4611686018427387904 ∧ LInv w l R x k xs nxt v wr) (fun _ _ _ z _ => x - (intOf z).toNat)
      case atStart => exact ⟨0, [], nx, by omega, rfl, rfl, rfl, by omega, hnx1, by simp, by simp, Hr.out, rfl, World.ownsRow_nil _ _ _ _, Below.refl _ _⟩
      case round =>
        obtain ⟨k, xs, nxt, hk, rfl, rfl, rfl, hkn, hnn, hl0, hl1, hinv⟩ := hrel
        obtain ⟨hgl, hxl, hown, hbel⟩ := hinv
        have hsz := hbel.size
        have Hown := hide hown
        have Hb := hide hbel
        have Hxl := hide hxl
        clear hown hbel hxl
        by_cases hlt : k < x
        · rw [show x - k = (x - (k + 1)) + 1 by omega] at hgl
          have Hgl := hide hgl
          obtain ⟨⟨d, a, er⟩, hg⟩ : ∃ g, getP l (nxt : Int) = g := ⟨_, rfl⟩
          have Hsl := hide (H.out.below Hb.out)
          obtain ⟨last, hlast⟩ : ∃ z, xs.getLastD 0 = z := ⟨_, rfl⟩
          rw [hlast] at hl0 hl1 ⊢
          have Hlast := hide hlast
          clear hgl hlast
          by_cases her : er = 0
          · subst her
            have hnx2 := getP_next l _ d a hg
            rw [Hlen.out] at hnx2
            obtain ⟨ha1, ha2, _, hd⟩ := hnx2
            by_cases hform : 0 < k ∧ d = 0
            · obtain ⟨hk0, rfl⟩ := hform
              have hr := gl_form l (x - (k + 1)) xs nxt 0 a hg (ne_nil_of xs k Hxl.out hk0) rfl
              rw [Hgl.out] at hr
              have Hr := hide hr
              have Hg := hide hg
              clear hr hg
              go_wp2_with fail
              with_reducible refine (get16' _ A n c l _ (Sl.reads Hsl.out) hnc hc _ 0 a 0 Hg.out).mono ?_
              rintro e w' ⟨rfl, rfl⟩
              go_wp2
              go_ret3
              rw [Hr.out]
              exact GotL.err 3 Hb.out
            · have hnf : ¬ (xs ≠ [] ∧ d = 0) := fun ⟨h1, h2⟩ => hform ⟨by
                rcases Nat.eq_zero_or_pos k with e | e
                · exact absurd (nil_of xs (by rw [Hxl.out]; exact e)) h1
                · exact e, h2⟩
              by_cases hlong : (4611686018427387904 : Int) - last < (d : Int)
              · have hr := gl_long l (x - (k + 1)) xs nxt d a hg hnf (by rw [Hlast.out]; omega)
                rw [Hgl.out] at hr
                have Hr := hide hr
                have Hg := hide hg
                clear hr hg
                rcases (show k = 0 ∨ (0 < k ∧ 0 < d) by omega) with hk0 | ⟨hk0, hd0⟩
                · subst hk0
                  clear hform hnf
                  go_wp2_with fail
                  with_reducible refine (get16' _ A n c l _ (Sl.reads Hsl.out) hnc hc _ d a 0 Hg.out).mono ?_
                  rintro e w' ⟨rfl, rfl⟩
                  go_wp2
                  go_ret3
                  rw [Hr.out]
                  exact GotL.err 4 Hb.out
                · have hdi : ((d : Int) == 0) = false := beq_eq_false_iff_ne.2 (by omega)
                  clear hform hnf
                  go_wp2_with fail
                  with_reducible refine (get16' _ A n c l _ (Sl.reads Hsl.out) hnc hc _ d a 0 Hg.out).mono ?_
                  rintro e w' ⟨rfl, rfl⟩
                  go_wp2
                  go_ret3
                  rw [Hr.out]
                  exact GotL.err 4 Hb.out
              · have hr := gl_ok l (x - (k + 1)) xs nxt d a hg hnf (by rw [Hlast.out]; omega)
                rw [Hgl.out, Hlast.out] at hr
                have Hr := hide hr
                have Hg := hide hg
                have hbl : (numCells xs).length ≤ 1000000000 := by rw [num_len, Hxl.out]; omega
                have hlong' : (d : Int) ≤ 4611686018427387904 - last := by omega
                clear hr hg hlong
                rcases (show k = 0 ∨ (0 < k ∧ 0 < d) by omega) with hk0 | ⟨hk0, hd0⟩
                · subst hk0
                  clear hform hnf
                  go_wp2_with fail
                  with_reducible refine (get16' _ A n c l _ (Sl.reads Hsl.out) hnc hc _ d a 0 Hg.out).mono ?_
                  rintro e w' ⟨rfl, rfl⟩
                  go_wp2_with (at_builtin; refine wp_push rfl (.tmp 58) (.tmp 60) 22 rfl 3 i0 (.int .i64 0) 8 Try.underlying22 hi0 hz0 hz1 hz2 rfl w.heap.size _ (numCells xs) rfl _ _ rfl Hown.out.src hsz _ rfl rfl (by omega) (by unfold maxLen; omega) ?_)
                  intro v' w' hown' hb'
                  have Hown' := hide hown'
                  have Hb' := hide hb'
                  clear hown' hb'
                  go_wp2
                  go_roundw
                  case rel =>
                    refine ⟨0 + 1, xs ++ [last + (d : Int)], a, by omega, by first | rfl | go_num, rfl, by rw [last_snoc], by omega, ha1, by rw [last_snoc]; omega, by rw [last_snoc]; omega, Hr.out.symm, by rw [List.length_append, Hxl.out]; rfl, ?_, Hb.out.trans Hb'.out⟩
                    rw [num_app]
                    exact Hown'.out
                  case measure => simp [intOf]; omega
                · have hdi : ((d : Int) == 0) = false := beq_eq_false_iff_ne.2 (by omega)
                  clear hform hnf
                  go_wp2_with fail
                  with_reducible refine (get16' _ A n c l _ (Sl.reads Hsl.out) hnc hc _ d a 0 Hg.out).mono ?_
                  rintro e w' ⟨rfl, rfl⟩
                  go_wp2_with (at_builtin; refine wp_push rfl (.tmp 58) (.tmp 60) 22 rfl 3 i0 (.int .i64 0) 8 Try.underlying22 hi0 hz0 hz1 hz2 rfl w.heap.size _ (numCells xs) rfl _ _ rfl Hown.out.src hsz _ rfl rfl (by omega) (by unfold maxLen; omega) ?_)
                  intro v' w' hown' hb'
                  have Hown' := hide hown'
                  have Hb' := hide hb'
                  clear hown' hb'
                  go_wp2
                  go_roundw
                  case rel =>
                    refine ⟨k + 1, xs ++ [last + (d : Int)], a, by omega, by go_num, rfl, by rw [last_snoc], by omega, ha1, by rw [last_snoc]; omega, by rw [last_snoc]; omega, Hr.out.symm, by rw [List.length_append, Hxl.out]; rfl, ?_, Hb.out.trans Hb'.out⟩
                    rw [num_app]
                    exact Hown'.out
                  case measure => simp [intOf]; omega
          · have hr := gl_bad l (x - (k + 1)) xs nxt d a er hg her
            rw [Hgl.out] at hr
            have Hr := hide hr
            have Hg := hide hg
            have hyi : ((er : Int) == 0) = false := beq_eq_false_iff_ne.2 (by omega)
            have hyn : ((er : Int) != 0) = true := by rw [bne, hyi]; rfl
            clear hr hg her
            go_wp2_with fail
            with_reducible refine (get16' _ A n c l _ (Sl.reads Hsl.out) hnc hc _ d a er Hg.out).mono ?_
            rintro e w' ⟨rfl, rfl⟩
            go_wp2
            go_ret3
            rw [Hr.out]
            exact GotL.err er Hb.out
        · rw [show x - k = 0 by omega] at hgl
          have Hgl := hide hgl
          clear hgl
          go_wp2
          go_ret3
          rw [← Hgl.out]
          exact ⟨_, rfl, Hown.out, Hb.out⟩
  · have hr := getL_bad l i most x nx er hg her
    have Hr := hide hr
    have Hg := hide hg
    have hyi : ((er : Int) == 0) = false := beq_eq_false_iff_ne.2 (by omega)
    have hyn : ((er : Int) != 0) = true := by rw [bne, hyi]; rfl
    clear hr hg her
    go_enter Try.func62, Try.ntmps62
    go_wp2_with fail
    with_reducible refine (get16' _ A n c l w (Sl.reads H.out) hnc hc i x nx er Hg.out).mono ?_
    rintro e w' ⟨rfl, rfl⟩
    go_wp2
    go_ret3
    rw [Hr.out]
    exact GotL.err er (Below.refl _ _)

end Go.Proofs.Ytfljmnjcoagbmaa
