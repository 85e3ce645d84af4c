/- Walk of layer 5's program: elements. -/
import Derived.Test.YtfljmnjcoagbmaaE1
namespace Go.Proofs.Ytfljmnjcoagbmaa
open Go.RowKit
open Go.Lib (byteCells)

theorem GrewI.none {w w' : World} {r : List Int} (hr : r = []) (hb : Below w.heap.size w w') : GrewI w r (.returned (.slice .none 0 0)) w' := by
  subst hr
  exact ⟨_, rfl, World.ownsRow_nil _ _ _ _, hb⟩

set_option maxRecDepth 100000 in
set_option maxHeartbeats 6400000 in
theorem elements45 (A : Option Addr) (n c : Nat) (b : List UInt8) (w : World) (h : Sl w A n c (byteCells b)) (hn : n ≤ 1000000) :
    Calls Try.prog 45 #[.slice A n c] w (GrewI w (eltP b)) := by
  obtain ⟨i0, hi, hz0, hz1, hz2⟩ := info_parts info3
  have hnc := h.1
  have hcc := h.2.1
  have Hlen := hide h.len
  have H := hide h
  clear h
  obtain ⟨⟨x, nx, er⟩, hg⟩ : ∃ g, getP b 0 = g := ⟨_, rfl⟩
  have Hg := hide hg
  by_cases her : er = 0
  · subst her
    have hx := getP_next b 0 x nx hg
    obtain ⟨K, hK⟩ : ∃ K, (x + 15) / 16 = K := ⟨_, rfl⟩
    have He := hide (elt_go b x nx K hg hK)
    have hK1 : ((x : Int) + 16 - 1) / 16 = (K : Int) := by omega
    have hK2 : ((x : Int) + 15) / 16 = (K : Int) := by omega
    have hKb : K ≤ 288230376151711745 := by omega
    have hxb : x ≤ 4611686018427387904 := hx.2.2.2
    obtain ⟨D, hD⟩ : ∃ D, 2 * K = D := ⟨_, rfl⟩
    have hDi : (2 : Int) * (K : Int) = (D : Int) := by omega
    rw [hD] at He
    have hDb : D ≤ 576460752303423490 := by omega
    obtain ⟨R, hR⟩ : ∃ R, skipP b D (nx : Int) = R := ⟨_, rfl⟩
    rw [hR] at He
    have HR := hide hR
    clear hg hK hD hR hx
    go_enter Try.func45, Try.ntmps45
    go_wp2_with fail
    with_reducible refine (get16' _ A n c b _ H.out.reads hnc hcc 0 x nx 0 Hg.out).mono ?_
    rintro e w' ⟨rfl, rfl⟩
    go_wp2
    simp only [hK1]
    clear hK1 hK2 hDi
    go_loop [4, 5, 25] (fun u _ v => ∃ (t : Nat) (y : Int), t ≤ D ∧ v = .int .i64 (t : Int) ∧ u = .int .i64 y ∧ skipP b (D - t) y = R ∧ 0 ≤ y) (fun _ _ v => D - (intOf v).toNat)
    case atStart => exact ⟨0, nx, Nat.zero_le _, rfl, rfl, HR.out, by omega⟩
    case round =>
      obtain ⟨t, y, htD, rfl, rfl, hs, hy0⟩ := hrel
      by_cases hlt : t < D
      · obtain ⟨⟨x1, n1, e1⟩, hg1⟩ : ∃ g, getP b y = g := ⟨_, rfl⟩
        rw [show D - t = (D - (t + 1)) + 1 by omega] at hs
        have Hg1 := hide hg1
        have htD' : (t : Int) < (D : Int) := by omega
        by_cases he1 : e1 = 0
        · subst he1
          rw [skip_ok b _ y x1 n1 hg1] at hs
          have Hs := hide hs
          clear hs hg1
          go_wp2_with fail
          with_reducible refine (get16' _ A n c b _ H.out.reads hnc hcc y x1 n1 0 Hg1.out).mono ?_
          rintro e w' ⟨rfl, rfl⟩
          go_wp2
          go_round
          case rel => exact ⟨t + 1, n1, by omega, by go_num, rfl, Hs.out, by omega⟩
          case measure => simp [intOf]; omega
        · rw [skip_bad b _ y x1 n1 e1 hg1 he1] at hs
          have hr : eltP b = [] := by rw [He.out, ← hs]; rfl
          have Hr := hide hr
          have hei : ((e1 : Int) == 0) = false := beq_eq_false_iff_ne.2 (by omega)
          have hen : ((e1 : Int) != 0) = true := by rw [bne, hei]; rfl
          clear hs hg1 hr he1
          go_wp2_with fail
          with_reducible refine (get16' _ A n c b _ H.out.reads hnc hcc y x1 n1 e1 Hg1.out).mono ?_
          rintro e w' ⟨rfl, rfl⟩
          go_wp2
          go_ret
          exact GrewI.none Hr.out (Below.refl _ _)
      · have htD2 : D - t = 0 := by omega
        rw [htD2] at hs
        have hs' : some y = R := hs
        have he2 : eltP b = (partsP b K y []).getD [] := by rw [He.out, ← hs']; rfl
        obtain ⟨R2, hR2⟩ : ∃ R2, partsP b K y [] = R2 := ⟨_, rfl⟩
        rw [hR2] at he2
        have He2 := hide he2
        have HR2 := hide hR2
        have htD' : ¬ (t : Int) < (D : Int) := by omega
        clear hs hs' he2 hR2 htD2 HR He
        go_wp2
        go_loopw [4, 7, 38] (fun u v z wr => ∃ (t : Nat) (y : Int) (xs : List Int), t ≤ K ∧ z = .int .i64 t ∧ u = .int .i64 y ∧ 0 ≤ y ∧ (xs.length : Int) ≤ 16 * y ∧ partsP b (K - t) y xs = R2 ∧ Own wr w.heap.size 3 v (numCells xs) ∧ Below w.heap.size w wr) (fun _ _ z _ => K - (intOf z).toNat)
        case atStart => exact ⟨0, y, [], Nat.zero_le _, rfl, rfl, by omega, by simp; omega, HR2.out, World.ownsRow_nil _ _ _ _, Below.refl _ _⟩
        case round =>
          obtain ⟨t, y, xs, htK, rfl, rfl, hy0, hxl, hp, hown, hbel⟩ := hrel
          have hsz := hbel.size
          have Hb := hide hbel
          have Hown := hide hown
          have K1 := hide (H.out.below hbel)
          by_cases hlt : t < K
          · obtain ⟨⟨ys, ny, er⟩, hgl⟩ : ∃ g, getL b y 16 = g := ⟨_, rfl⟩
            have Hgl := hide hgl
            rw [show K - t = (K - (t + 1)) + 1 by omega] at hp
            have htK' : (t : Int) < (K : Int) := by omega
            by_cases her : er = 0
            · subst her
              have hyl := getL_len b y 16 ys ny hgl
              have hyn := getL_next b y 16 ys ny hgl
              rw [Hlen.out] at hyn
              rw [parts_ok b _ y xs ys ny hgl] at hp
              have Hp := hide hp
              clear hp hgl hbel hown
              go_wp2_with fail
              refine (getl62 A n c b _ K1.out (by omega) y 16).mono ?_
              rw [Hgl.out]
              rintro e w2 ⟨v2, rfl, hown2, hb2⟩
              have hown2' : Own w2 wr.heap.size 3 v2 (numCells ys) := hown2
              obtain ⟨A2, m2, c2, rfl, hm2, hs2⟩ := hown2'.slI
              have hm2b : m2 ≤ 16 := by omega
              have S2 := hide hs2
              have Hown2 := hide (Hown.out.below hb2)
              have B2 := hide (Hb.out.trans (hb2.mono hsz))
              have hsz2 := B2.out.size
              have hnl : (numCells xs).length ≤ 20000000 := by rw [num_len]; omega
              have Hxl2 := hide (show ((xs ++ ys).length : Int) ≤ 16 * (ny : Int) by rw [List.length_append]; omega)
              clear hown2 hown2' hm2 hs2 hb2 Hown Hb
              go_wp2_with (at_builtin; refine wp_join_far rfl (.tmp 49) (.tmp 50) 22 rfl 3 i0 (.int .i64 0) 8 Try.underlying22 hi hz0 hz1 hz2 rfl w.heap.size _ (numCells xs) rfl _ Hown2.out hsz2 A2 m2 c2 (numCells ys) rfl S2.out (nums_one _) (by omega) (by unfold maxLen; omega) ?_)
              intro v3 w3 hown3 hb3 _
              rw [← num_app] at hown3
              have Hown3 := hide hown3
              have B3 := hide (B2.out.trans hb3)
              clear hown3 hb3 Hown2 S2 B2
              go_wp2
              go_roundw
              case rel => exact ⟨t + 1, ny, xs ++ ys, by omega, by go_num, rfl, by omega, Hxl2.out, Hp.out, Hown3.out, B3.out⟩
              case measure => simp [intOf]; omega
            · rw [parts_bad b _ y xs ys ny er hgl her] at hp
              have hr : eltP b = [] := by rw [He2.out, ← hp]; rfl
              have Hr := hide hr
              have hei : ((er : Int) == 0) = false := beq_eq_false_iff_ne.2 (by omega)
              have hen : ((er : Int) != 0) = true := by rw [bne, hei]; rfl
              clear hp hgl hbel hown her hr
              go_wp2_with fail
              refine (getl62 A n c b _ K1.out (by omega) y 16).mono ?_
              rw [Hgl.out]
              rintro e w2 ⟨v2, rfl, -, hb2⟩
              have B2 := hide (Hb.out.trans (hb2.mono hsz))
              clear hb2
              go_wp2
              go_ret
              exact GrewI.none Hr.out B2.out
          · have htK2 : t = K := by omega
            rw [show K - t = 0 by omega] at hp
            have hr : eltP b = xs := by rw [He2.out, ← hp]; rfl
            have Hr := hide hr
            have htK' : ¬ (t : Int) < (K : Int) := by omega
            clear hp hr hbel hown htK2
            go_wp2
            go_ret
            exact ⟨_, rfl, by rw [Hr.out]; exact Hown.out, Hb.out⟩
  · have hr := elt_bad b x nx er hg her
    have Hr := hide hr
    have hei : ((er : Int) == 0) = false := beq_eq_false_iff_ne.2 (by omega)
    have hen : ((er : Int) != 0) = true := by rw [bne, hei]; rfl
    clear hg hr her
    go_enter Try.func45, Try.ntmps45
    go_wp2_with fail
    with_reducible refine (get16' _ A n c b _ H.out.reads hnc hcc 0 x nx er Hg.out).mono ?_
    rintro e w' ⟨rfl, rfl⟩
    go_wp2
    go_ret
    exact GrewI.none Hr.out (Below.refl _ _)

end Go.Proofs.Ytfljmnjcoagbmaa
