/- Walks of layer 3's functions: V4. -/
import Derived.Test.YtfljmnjcoagbmaaV3
namespace Go.Proofs.Ytfljmnjcoagbmaa
open Go.RowKit
open Go.Lib (byteCells strCells)

theorem last_get (xs : List Int) (k : Nat) (h : xs.length = k) (hk : 0 < k) : (numCells xs)[k - 1]? = some (.int .i64 (xs.getLastD 0)) := by
  apply num_get
  rw [List.getLastD_eq_getLast?, List.getLast?_eq_getElem?, h, List.getElem?_eq_getElem (by omega)]
  rfl
theorem own_last {w : World} {B : Nat} {A : Option Addr} {k c : Nat} {xs : List Int} (h : Own w B 3 (.slice A k c) (numCells xs)) (hl : xs.length = k) (hk : 0 < k) :
    ∃ ad, A = some ad ∧ w.cell? (ad.add (k - 1)) = some (.int .i64 (xs.getLastD 0)) := by
  obtain ⟨A', c', e, hs⟩ := h.sl
  rw [num_len, hl] at e hs
  cases e
  obtain ⟨ad, u, rfl, _, hu, hc⟩ := hs.reads.at_ (k := k - 1) (by omega)
  rw [last_get xs k hl hk] at hu
  cases hu
  exact ⟨ad, rfl, hc⟩

set_option maxRecDepth 20000 in
set_option maxHeartbeats 3200000 in
theorem rgetl49 (A : Option Addr) (n c : Nat) (l : List UInt8) (w : World) (h : Sl w A n c (byteCells l)) (hn : n ≤ 1000000000) (i most : Int) :
    Calls Try.prog 49 #[.slice A n c, .int .i64 i, .int .i64 most] w (GotL w (getL l i most)) := by
  obtain ⟨i0, hi0, hz0, hz1, hz2⟩ := info_parts info3
  have hlen := h.len
  have Hlen := hide hlen
  have hnc := h.1
  have hc := h.2.1
  have H := hide h
  clear hlen h
  obtain ⟨⟨x, nx, er⟩, hg⟩ : ∃ g, getP l i = g := ⟨_, rfl⟩
  by_cases her : er = 0
  · subst her
    have hnx := getP_next l i x nx hg
    rw [Hlen.out] at hnx
    obtain ⟨hnx1, _, _, hx⟩ := hnx
    by_cases hm : most < (x : Int)
    · have hr := getL_long l i most x nx hg hm
      have Hr := hide hr
      have Hg := hide hg
      clear hr hg
      go_enter Try.func49, Try.ntmps49
      go_wp2_with fail
      with_reducible refine (rget17' _ A n c l w (Sl.reads H.out) hnc hc i x nx 0 Hg.out).mono ?_
      rintro e w' ⟨rfl, rfl⟩
      go_wp2
      go_ret3
      rw [Hr.out]
      exact GotL.err 4 (Below.refl _ _)
    · have hr := getL_go l i most x nx hg hm
      obtain ⟨R, hR⟩ : ∃ R, getL l i most = R := ⟨_, rfl⟩
      rw [hR] at hr ⊢
      have Hr := hide hr.symm
      have Hg := hide hg
      clear hr hg hR
      go_enter Try.func49, Try.ntmps49
      go_wp2_with fail
      with_reducible refine (rget17' _ A n c l w (Sl.reads H.out) hnc hc i x nx 0 Hg.out).mono ?_
      rintro e w' ⟨rfl, rfl⟩
      go_wp2
      go_loopw [10, 12, 13] (fun u v z wr => ∃ (k : Nat) (xs : List Int) (nxt : Nat) (A' : Option Addr) (c' : Nat), k ≤ x ∧ z = .int .i64 k ∧ u = .int .i64 nxt ∧ v = .slice A' k c' ∧ k ≤ nxt ∧ nxt ≤ n ∧ 0 ≤ xs.getLastD 0 ∧ xs.getLastD 0 ≤ 4611686018427387904 ∧ LInv w l R x k xs nxt v wr) (fun _ _ z _ => x - (intOf z).toNat)
      case atStart => exact ⟨0, [], nx, none, 0, by omega, rfl, rfl, rfl, by omega, hnx1, by simp, by simp, Hr.out, rfl, World.ownsRow_nil _ _ _ _, Below.refl _ _⟩
      case round =>
        obtain ⟨k, xs, nxt, A', c', hk, rfl, rfl, rfl, hkn, hnn, hl0, hl1, hinv⟩ := hrel
        obtain ⟨hgl, hxl, hown, hbel⟩ := hinv
        have hsz := hbel.size
        have Hown := hide hown
        have Hb := hide hbel
        have Hxl := hide hxl
        clear hown hbel hxl
        by_cases hlt : k < x
        · rw [show x - k = (x - (k + 1)) + 1 by omega] at hgl
          have Hgl := hide hgl
          obtain ⟨⟨d, a, er⟩, hg⟩ : ∃ g, getP l (nxt : Int) = g := ⟨_, rfl⟩
          have Hsl := hide (H.out.below Hb.out)
          obtain ⟨last, hlast⟩ : ∃ z, xs.getLastD 0 = z := ⟨_, rfl⟩
          rw [hlast] at hl0 hl1
          have Hlast := hide hlast
          clear hgl hlast
          by_cases her : er = 0
          · subst her
            have hnx2 := getP_next l _ d a hg
            rw [Hlen.out] at hnx2
            obtain ⟨ha1, ha2, _, hd⟩ := hnx2
            by_cases hform : 0 < k ∧ d = 0
            · obtain ⟨hk0, rfl⟩ := hform
              have hr := gl_form l (x - (k + 1)) xs nxt 0 a hg (ne_nil_of xs k Hxl.out hk0) rfl
              rw [Hgl.out] at hr
              have Hr := hide hr
              have Hg := hide hg
              clear hr hg
              go_wp2_with fail
              with_reducible refine (rget17' _ A n c l _ (Sl.reads Hsl.out) hnc hc _ 0 a 0 Hg.out).mono ?_
              rintro e w' ⟨rfl, rfl⟩
              go_wp2
              go_ret3
              rw [Hr.out]
              exact GotL.err 3 Hb.out
            · have hnf : ¬ (xs ≠ [] ∧ d = 0) := fun ⟨h1, h2⟩ => hform ⟨by
                rcases Nat.eq_zero_or_pos k with e | e
                · exact absurd (nil_of xs (by rw [Hxl.out]; exact e)) h1
                · exact e, h2⟩
              by_cases hlong : (4611686018427387904 : Int) - last < (d : Int)
              · have hr := gl_long l (x - (k + 1)) xs nxt d a hg hnf (by rw [Hlast.out]; omega)
                rw [Hgl.out] at hr
                have Hr := hide hr
                have Hg := hide hg
                clear hr hg
                rcases (show k = 0 ∨ (0 < k ∧ 0 < d) by omega) with hk0 | ⟨hk0, hd0⟩
                · subst hk0
                  clear hform hnf
                  obtain rfl := nil_of xs Hxl.out
                  have hl00 : last = 0 := Hlast.out.symm
                  subst hl00
                  exfalso
                  omega
                · have hdi : ((d : Int) == 0) = false := beq_eq_false_iff_ne.2 (by omega)
                  clear hform hnf
                  obtain ⟨ad', hA', hcell⟩ := own_last Hown.out Hxl.out hk0
                  rw [Hlast.out] at hcell
                  subst hA'
                  have hidx : (k : Int) - 1 = ((k - 1 : Nat) : Int) := by omega
                  have hk1 : 1 ≤ k := by omega
                  have hkk : k - 1 < k := by omega
                  go_wp2_with fail
                  with_reducible refine (rget17' _ A n c l _ (Sl.reads Hsl.out) hnc hc _ d a 0 Hg.out).mono ?_
                  rintro e w' ⟨rfl, rfl⟩
                  go_wp2
                  go_ret3
                  rw [Hr.out]
                  exact GotL.err 4 Hb.out
              · have hr := gl_ok l (x - (k + 1)) xs nxt d a hg hnf (by rw [Hlast.out]; omega)
                rw [Hgl.out, Hlast.out] at hr
                have Hr := hide hr
                have Hg := hide hg
                have hbl : (numCells xs).length ≤ 1000000000 := by rw [num_len, Hxl.out]; omega
                have hlong' : (d : Int) ≤ 4611686018427387904 - last := by omega
                clear hr hg hlong
                rcases (show k = 0 ∨ (0 < k ∧ 0 < d) by omega) with hk0 | ⟨hk0, hd0⟩
                · subst hk0
                  clear hform hnf
                  obtain rfl := nil_of xs Hxl.out
                  have hl00 : last = 0 := Hlast.out.symm
                  subst hl00
                  go_wp2_with fail
                  with_reducible refine (rget17' _ A n c l _ (Sl.reads Hsl.out) hnc hc _ d a 0 Hg.out).mono ?_
                  rintro e w' ⟨rfl, rfl⟩
                  have hlen1 : ∀ u, (numCells [] ++ [u]).length = 0 + 1 := fun u => rfl
                  have Hlen1 := hide hlen1
                  clear hlen1
                  go_wp2_with (at_builtin; refine wp_push rfl (.tmp 72) (.tmp 74) 22 rfl 3 i0 (.int .i64 0) 8 Try.underlying22 hi0 hz0 hz1 hz2 rfl w.heap.size _ (numCells []) rfl _ _ rfl Hown.out.src hsz _ rfl rfl (by omega) (by unfold maxLen; omega) ?_)
                  intro v' w' hown' hb'
                  obtain ⟨A2, c2, rfl, _⟩ := hown'.sl
                  rw [Hlen1.out] at hown' ⊢
                  have Hown' := hide hown'
                  have Hb' := hide hb'
                  clear hown' hb'
                  go_wp2
                  go_roundw
                  case rel =>
                    refine ⟨0 + 1, [] ++ [0 + (d : Int)], a, A2, c2, by omega, by first | rfl | go_num, rfl, rfl, by omega, ha1, by rw [last_snoc]; omega, by rw [last_snoc]; omega, Hr.out.symm, rfl, ?_, Hb.out.trans Hb'.out⟩
                    rw [Int.zero_add]
                    exact Hown'.out
                  case measure => simp [intOf]; omega
                · have hdi : ((d : Int) == 0) = false := beq_eq_false_iff_ne.2 (by omega)
                  clear hform hnf
                  obtain ⟨ad', hA', hcell⟩ := own_last Hown.out Hxl.out hk0
                  rw [Hlast.out] at hcell
                  subst hA'
                  have hidx : (k : Int) - 1 = ((k - 1 : Nat) : Int) := by omega
                  have hk1 : 1 ≤ k := by omega
                  have hkk : k - 1 < k := by omega
                  go_wp2_with fail
                  with_reducible refine (rget17' _ A n c l _ (Sl.reads Hsl.out) hnc hc _ d a 0 Hg.out).mono ?_
                  rintro e w' ⟨rfl, rfl⟩
                  have hlen1 : ∀ u, (numCells xs ++ [u]).length = k + 1 := fun u => by rw [List.length_append, num_len, Hxl.out]; rfl
                  have Hlen1 := hide hlen1
                  clear hlen1
                  go_wp2_with (at_builtin; refine wp_push rfl (.tmp 72) (.tmp 74) 22 rfl 3 i0 (.int .i64 0) 8 Try.underlying22 hi0 hz0 hz1 hz2 rfl w.heap.size _ (numCells xs) rfl _ _ rfl Hown.out.src hsz _ rfl rfl (by omega) (by unfold maxLen; omega) ?_)
                  intro v' w' hown' hb'
                  obtain ⟨A2, c2, rfl, _⟩ := hown'.sl
                  rw [Hlen1.out] at hown' ⊢
                  have Hown' := hide hown'
                  have Hb' := hide hb'
                  clear hown' hb'
                  go_wp2
                  go_roundw
                  case rel =>
                    refine ⟨k + 1, xs ++ [last + (d : Int)], a, A2, c2, by omega, by go_num, rfl, rfl, by omega, ha1, by rw [last_snoc]; omega, by rw [last_snoc]; omega, Hr.out.symm, by rw [List.length_append, Hxl.out]; rfl, ?_, Hb.out.trans Hb'.out⟩
                    rw [num_app, Int.add_comm]
                    exact Hown'.out
                  case measure => simp [intOf]; omega
          · have hr := gl_bad l (x - (k + 1)) xs nxt d a er hg her
            rw [Hgl.out] at hr
            have Hr := hide hr
            have Hg := hide hg
            have hyi : ((er : Int) == 0) = false := beq_eq_false_iff_ne.2 (by omega)
            have hyn : ((er : Int) != 0) = true := by rw [bne, hyi]; rfl
            clear hr hg her
            go_wp2_with fail
            with_reducible refine (rget17' _ A n c l _ (Sl.reads Hsl.out) hnc hc _ d a er Hg.out).mono ?_
            rintro e w' ⟨rfl, rfl⟩
            go_wp2
            go_ret3
            rw [Hr.out]
            exact GotL.err er Hb.out
        · rw [show x - k = 0 by omega] at hgl
          have Hgl := hide hgl
          clear hgl
          go_wp2
          go_ret3
          rw [← Hgl.out]
          exact ⟨_, rfl, Hown.out, Hb.out⟩
  · have hr := getL_bad l i most x nx er hg her
    have Hr := hide hr
    have Hg := hide hg
    have hyi : ((er : Int) == 0) = false := beq_eq_false_iff_ne.2 (by omega)
    have hyn : ((er : Int) != 0) = true := by rw [bne, hyi]; rfl
    clear hr hg her
    go_enter Try.func49, Try.ntmps49
    go_wp2_with fail
    with_reducible refine (rget17' _ A n c l w (Sl.reads H.out) hnc hc i x nx er Hg.out).mono ?_
    rintro e w' ⟨rfl, rfl⟩
    go_wp2
    go_ret3
    rw [Hr.out]
    exact GotL.err er (Below.refl _ _)

end Go.Proofs.Ytfljmnjcoagbmaa
