/- Walks: GetList of the program and of the reference. -/
import Derived.Test.YtpgoglkgaeccnaaW8
namespace Go.Proofs.Ytpgoglkgaeccnaa
open Go.RowKit
open Go.Lib (byteCells strCells)

def numCells (l : List Int) : List Value := l.map fun n => .int .i64 n
theorem num_len (l : List Int) : (numCells l).length = l.length := by simp [numCells]
theorem num_app (l m : List Int) : numCells (l ++ m) = numCells l ++ numCells m := by simp [numCells]
theorem num_get (l : List Int) (k : Nat) (z : Int) (h : l[k]? = some z) : (numCells l)[k]? = some (.int .i64 z) := by simp [numCells, h]

theorem gl_bad (l : List UInt8) (k : Nat) (xs : List Int) (nxt d a er : Nat) (hg : getP l (nxt : Int) = (d, a, er)) (h : er ≠ 0) : gl l (k + 1) xs nxt = ([], 0, er) := by unfold gl; rw [hg, if_pos h]
theorem gl_form (l : List UInt8) (k : Nat) (xs : List Int) (nxt d a : Nat) (hg : getP l (nxt : Int) = (d, a, 0)) (h : xs ≠ []) (hd : d = 0) : gl l (k + 1) xs nxt = ([], 0, 3) := by unfold gl; rw [hg, if_neg (by simp), if_pos ⟨h, hd⟩]
theorem gl_long (l : List UInt8) (k : Nat) (xs : List Int) (nxt d a : Nat) (hg : getP l (nxt : Int) = (d, a, 0)) (h : ¬ (xs ≠ [] ∧ d = 0)) (hd : (4611686018427387904 : Int) < xs.getLastD 0 + (d : Int)) : gl l (k + 1) xs nxt = ([], 0, 4) := by
  unfold gl; rw [hg, if_neg (by simp), if_neg h, if_pos (by unfold big; exact hd)]
theorem gl_ok (l : List UInt8) (k : Nat) (xs : List Int) (nxt d a : Nat) (hg : getP l (nxt : Int) = (d, a, 0)) (h : ¬ (xs ≠ [] ∧ d = 0)) (hd : ¬ (4611686018427387904 : Int) < xs.getLastD 0 + (d : Int)) : gl l (k + 1) xs nxt = gl l k (xs ++ [xs.getLastD 0 + (d : Int)]) a := by
  conv => lhs; unfold gl
  rw [hg, if_neg (by simp), if_neg h, if_neg (by unfold big; exact hd)]
theorem last_snoc (xs : List Int) (z : Int) : (xs ++ [z]).getLastD 0 = z := by simp
theorem ne_nil_of (xs : List Int) (k : Nat) (h : xs.length = k) (hk : 0 < k) : xs ≠ [] := by intro e; rw [e] at h; simp at h; omega
theorem nil_of (xs : List Int) (h : xs.length = 0) : xs = [] := List.eq_nil_of_length_eq_zero h

theorem getL_bad (l : List UInt8) (i most : Int) (x nx er : Nat) (hg : getP l i = (x, nx, er)) (h : er ≠ 0) : getL l i most = ([], 0, er) := by unfold getL; rw [hg, if_pos h]
theorem getL_long (l : List UInt8) (i most : Int) (x nx : Nat) (hg : getP l i = (x, nx, 0)) (h : most < (x : Int)) : getL l i most = ([], 0, 4) := by unfold getL; rw [hg, if_neg (by simp), if_pos h]
theorem getL_go (l : List UInt8) (i most : Int) (x nx : Nat) (hg : getP l i = (x, nx, 0)) (h : ¬ most < (x : Int)) : getL l i most = gl l x [] nx := by unfold getL; rw [hg, if_neg (by simp), if_neg h]

/-- What GetList returns. -/
def GotL (w : World) (r : List Int × Nat × Nat) (e : Ending) (w' : World) : Prop :=
  ∃ v, e = .returned (.tuple #[v, .int .i64 (r.2.1 : Int), .int .i64 (r.2.2 : Int)]) ∧ Own w' w.heap.size 3 v (numCells r.1) ∧ Below w.heap.size w w'

theorem GotL.err {w w' : World} (er : Nat) (hb : Below w.heap.size w w') : GotL w ([], 0, er) (.returned (.tuple #[.slice none 0 0, .int .i64 0, .int .i64 (er : Int)])) w' :=
  ⟨_, rfl, World.ownsRow_nil _ _ _ _, hb⟩

/-- The loop of GetList. -/
def LInv (w : World) (l : List UInt8) (R : List Int × Nat × Nat) (x : Nat) (k : Nat) (xs : List Int) (nxt : Nat) (v : Value) (wr : World) : Prop :=
  gl l (x - k) xs nxt = R ∧ xs.length = k ∧ Own wr w.heap.size 3 v (numCells xs) ∧ Below w.heap.size w wr

set_option maxRecDepth 20000 in
set_option maxHeartbeats 3200000 in
theorem getl20 (A : Option Addr) (n c : Nat) (l : List UInt8) (w : World) (h : Sl w A n c (byteCells l)) (hn : n ≤ 1000000000) (i most : Int) :
    Calls Try.prog 20 #[.slice A n c, .int .i64 i, .int .i64 most] w (GotL w (getL l i most)) := by
  obtain ⟨i0, hi0, hz0, hz1, hz2⟩ := info_parts info3
  have hlen := h.len
  have Hlen := hide hlen
  have hnc := h.1
  have hc := h.2.1
  have H := hide h
  clear hlen h
  obtain ⟨⟨x, nx, er⟩, hg⟩ : ∃ g, getP l i = g := ⟨_, rfl⟩
  by_cases her : er = 0
  · subst her
    have hnx := getP_next l i x nx hg
    rw [Hlen.out] at hnx
    obtain ⟨hnx1, _, _, hx⟩ := hnx
    by_cases hm : most < (x : Int)
    · have hr := getL_long l i most x nx hg hm
      have Hr := hide hr
      have Hg := hide hg
      clear hr hg
      go_enter Try.func20, Try.ntmps20
      go_wp2_with fail
      with_reducible refine (get16' _ A n c l w (Sl.reads H.out) hnc hc i x nx 0 Hg.out).mono ?_
      rintro e w' ⟨rfl, rfl⟩
      go_wp2
      go_ret3
      rw [Hr.out]
      exact GotL.err 4 (Below.refl _ _)
    · have hr := getL_go l i most x nx hg hm
      obtain ⟨R, hR⟩ : ∃ R, getL l i most = R := ⟨_, rfl⟩
      rw [hR] at hr ⊢
      have Hr := hide hr.symm
      have Hg := hide hg
      clear hr hg hR
      go_enter Try.func20, Try.ntmps20
      go_wp2_with fail
      with_reducible refine (get16' _ A n c l w (Sl.reads H.out) hnc hc i x nx 0 Hg.out).mono ?_
      rintro e w' ⟨rfl, rfl⟩
      go_wp2
      go_loopw [10, 12, 13, 32] (fun u v y z wr => ∃ (k : Nat) (xs : List Int) (nxt : Nat), k ≤ x ∧ z = .int .i64 k ∧ u = .int .i64 nxt ∧ y = .int .i64 (xs.getLastD 0) ∧ k ≤ nxt ∧ nxt ≤ n ∧ 0 ≤ xs.getLastD 0 ∧ xs.getLastD 0 ≤ 4611686018427387904 ∧ LInv w l R x k xs nxt v wr) (fun _ _ _ z _ => x - (intOf z).toNat)
      case atStart => exact ⟨0, [], nx, by omega, rfl, rfl, rfl, by omega, hnx1, by simp, by simp, Hr.out, rfl, World.ownsRow_nil _ _ _ _, Below.refl _ _⟩
      case round =>
        obtain ⟨k, xs, nxt, hk, rfl, rfl, rfl, hkn, hnn, hl0, hl1, hinv⟩ := hrel
        obtain ⟨hgl, hxl, hown, hbel⟩ := hinv
        have hsz := hbel.size
        have Hown := hide hown
        have Hb := hide hbel
        have Hxl := hide hxl
        clear hown hbel hxl
        by_cases hlt : k < x
        · rw [show x - k = (x - (k + 1)) + 1 by omega] at hgl
          have Hgl := hide hgl
          obtain ⟨⟨d, a, er⟩, hg⟩ : ∃ g, getP l (nxt : Int) = g := ⟨_, rfl⟩
          have Hsl := hide (H.out.below Hb.out)
          obtain ⟨last, hlast⟩ : ∃ z, xs.getLastD 0 = z := ⟨_, rfl⟩
          rw [hlast] at hl0 hl1 ⊢
          have Hlast := hide hlast
          clear hgl hlast
          by_cases her : er = 0
          · subst her
            have hnx2 := getP_next l _ d a hg
            rw [Hlen.out] at hnx2
            obtain ⟨ha1, ha2, _, hd⟩ := hnx2
            by_cases hform : 0 < k ∧ d = 0
            · obtain ⟨hk0, rfl⟩ := hform
              have hr := gl_form l (x - (k + 1)) xs nxt 0 a hg (ne_nil_of xs k Hxl.out hk0) rfl
              rw [Hgl.out] at hr
              have Hr := hide hr
              have Hg := hide hg
              clear hr hg
              go_wp2_with fail
              with_reducible refine (get16' _ A n c l _ (Sl.reads Hsl.out) hnc hc _ 0 a 0 Hg.out).mono ?_
              rintro e w' ⟨rfl, rfl⟩
              go_wp2
              go_ret3
              rw [Hr.out]
              exact GotL.err 3 Hb.out
            · have hnf : ¬ (xs ≠ [] ∧ d = 0) := fun ⟨h1, h2⟩ => hform ⟨by
                rcases Nat.eq_zero_or_pos k with e | e
                · exact absurd (nil_of xs (by rw [Hxl.out]; exact e)) h1
                · exact e, h2⟩
              by_cases hlong : (4611686018427387904 : Int) - last < (d : Int)
              · have hr := gl_long l (x - (k + 1)) xs nxt d a hg hnf (by rw [Hlast.out]; omega)
                rw [Hgl.out] at hr
                have Hr := hide hr
                have Hg := hide hg
                clear hr hg
                rcases (show k = 0 ∨ (0 < k ∧ 0 < d) by omega) with hk0 | ⟨hk0, hd0⟩
                · subst hk0
                  clear hform hnf
                  go_wp2_with fail
                  with_reducible refine (get16' _ A n c l _ (Sl.reads Hsl.out) hnc hc _ d a 0 Hg.out).mono ?_
                  rintro e w' ⟨rfl, rfl⟩
                  go_wp2
                  go_ret3
                  rw [Hr.out]
                  exact GotL.err 4 Hb.out
                · have hdi : ((d : Int) == 0) = false := beq_eq_false_iff_ne.2 (by omega)
                  clear hform hnf
                  go_wp2_with fail
                  with_reducible refine (get16' _ A n c l _ (Sl.reads Hsl.out) hnc hc _ d a 0 Hg.out).mono ?_
                  rintro e w' ⟨rfl, rfl⟩
                  go_wp2
                  go_ret3
                  rw [Hr.out]
                  exact GotL.err 4 Hb.out
              · have hr := gl_ok l (x - (k + 1)) xs nxt d a hg hnf (by rw [Hlast.out]; omega)
                rw [Hgl.out, Hlast.out] at hr
                have Hr := hide hr
                have Hg := hide hg
                have hbl : (numCells xs).length ≤ 1000000000 := by rw [num_len, Hxl.out]; omega
                have hlong' : (d : Int) ≤ 4611686018427387904 - last := by omega
                clear hr hg hlong
                rcases (show k = 0 ∨ (0 < k ∧ 0 < d) by omega) with hk0 | ⟨hk0, hd0⟩
                · subst hk0
                  clear hform hnf
                  go_wp2_with fail
                  with_reducible refine (get16' _ A n c l _ (Sl.reads Hsl.out) hnc hc _ d a 0 Hg.out).mono ?_
                  rintro e w' ⟨rfl, rfl⟩
                  go_wp2_with (at_builtin; refine wp_push rfl (.tmp 58) (.tmp 60) 34 rfl 3 i0 (.int .i64 0) 8 Try.underlying34 hi0 hz0 hz1 hz2 rfl w.heap.size _ (numCells xs) rfl _ _ rfl Hown.out.src hsz _ rfl rfl (by omega) (by unfold maxLen; omega) ?_)
                  intro v' w' hown' hb'
                  have Hown' := hide hown'
                  have Hb' := hide hb'
                  clear hown' hb'
                  go_wp2
                  go_roundw
                  case rel =>
                    refine ⟨0 + 1, xs ++ [last + (d : Int)], a, by omega, by first | rfl | go_num, rfl, by rw [last_snoc], by omega, ha1, by rw [last_snoc]; omega, by rw [last_snoc]; omega, Hr.out.symm, by rw [List.length_append, Hxl.out]; rfl, ?_, Hb.out.trans Hb'.out⟩
                    rw [num_app]
                    exact Hown'.out
                  case measure => simp [intOf]; omega
                · have hdi : ((d : Int) == 0) = false := beq_eq_false_iff_ne.2 (by omega)
                  clear hform hnf
                  go_wp2_with fail
                  with_reducible refine (get16' _ A n c l _ (Sl.reads Hsl.out) hnc hc _ d a 0 Hg.out).mono ?_
                  rintro e w' ⟨rfl, rfl⟩
                  go_wp2_with (at_builtin; refine wp_push rfl (.tmp 58) (.tmp 60) 34 rfl 3 i0 (.int .i64 0) 8 Try.underlying34 hi0 hz0 hz1 hz2 rfl w.heap.size _ (numCells xs) rfl _ _ rfl Hown.out.src hsz _ rfl rfl (by omega) (by unfold maxLen; omega) ?_)
                  intro v' w' hown' hb'
                  have Hown' := hide hown'
                  have Hb' := hide hb'
                  clear hown' hb'
                  go_wp2
                  go_roundw
                  case rel =>
                    refine ⟨k + 1, xs ++ [last + (d : Int)], a, by omega, by go_num, rfl, by rw [last_snoc], by omega, ha1, by rw [last_snoc]; omega, by rw [last_snoc]; omega, Hr.out.symm, by rw [List.length_append, Hxl.out]; rfl, ?_, Hb.out.trans Hb'.out⟩
                    rw [num_app]
                    exact Hown'.out
                  case measure => simp [intOf]; omega
          · have hr := gl_bad l (x - (k + 1)) xs nxt d a er hg her
            rw [Hgl.out] at hr
            have Hr := hide hr
            have Hg := hide hg
            have hyi : ((er : Int) == 0) = false := beq_eq_false_iff_ne.2 (by omega)
            have hyn : ((er : Int) != 0) = true := by rw [bne, hyi]; rfl
            clear hr hg her
            go_wp2_with fail
            with_reducible refine (get16' _ A n c l _ (Sl.reads Hsl.out) hnc hc _ d a er Hg.out).mono ?_
            rintro e w' ⟨rfl, rfl⟩
            go_wp2
            go_ret3
            rw [Hr.out]
            exact GotL.err er Hb.out
        · rw [show x - k = 0 by omega] at hgl
          have Hgl := hide hgl
          clear hgl
          go_wp2
          go_ret3
          rw [← Hgl.out]
          exact ⟨_, rfl, Hown.out, Hb.out⟩
  · have hr := getL_bad l i most x nx er hg her
    have Hr := hide hr
    have Hg := hide hg
    have hyi : ((er : Int) == 0) = false := beq_eq_false_iff_ne.2 (by omega)
    have hyn : ((er : Int) != 0) = true := by rw [bne, hyi]; rfl
    clear hr hg her
    go_enter Try.func20, Try.ntmps20
    go_wp2_with fail
    with_reducible refine (get16' _ A n c l w (Sl.reads H.out) hnc hc i x nx er Hg.out).mono ?_
    rintro e w' ⟨rfl, rfl⟩
    go_wp2
    go_ret3
    rw [Hr.out]
    exact GotL.err er (Below.refl _ _)

end Go.Proofs.Ytpgoglkgaeccnaa
