/- Walk of layer 8's reference: ofSet. -/
import Derived.Test.YtmiegjefmebpdaaGreatDoorK9
namespace Go.Proofs.YtmiegjefmebpdaaGreatDoor
open Go.RowKit

/-- What canonical returns. -/
def osA (o : Option (List UInt8)) : ByteArray := match o with | some s => bs s | none => bs []
def osB (o : Option (List UInt8)) : Bool := o.isSome

theorem GotR.s {w w' : World} {l : List (UInt8 × UInt8)} {e : Ending} (h : GotR w l e w') : ∃ A n c, e = .returned (.slice A n c) ∧ n = l.length ∧ RgS w' (fun g => w.heap.size ≤ g) A n c l ∧ Below w.heap.size w w' := by
  obtain ⟨v, rfl, ho, hb⟩ := h
  obtain ⟨A, n, c, rfl, hn, hs⟩ := ho.s
  exact ⟨A, n, c, rfl, hn, hs, hb⟩
theorem ranges_len (set : List (UInt8 × UInt8)) (o : Bool) : (rangesS set o).length ≤ 256 := rgN_len _ 256
theorem os_bad {l : List (UInt8 × UInt8)} (h : ¬ l = rangesS l false) : ofSet l = none := by unfold ofSet; rw [if_neg h]
theorem os_one {l : List (UInt8 × UInt8)} {a : UInt8} (h : l = rangesS l false) (h1 : oneByte l = some a) : ofSet l = some (quoted a special) := by unfold ofSet; rw [if_pos h, h1]
theorem os_dot {l : List (UInt8 × UInt8)} (h : l = rangesS l false) (h1 : oneByte l = none) (h2 : rangesS l true = [(10, 10)]) : ofSet l = some [46] := by unfold ofSet; rw [if_pos h, h1]; simp only; rw [if_pos h2]
theorem os_set {l : List (UInt8 × UInt8)} (h : l = rangesS l false) (h1 : oneByte l = none) (h2 : ¬ rangesS l true = [(10, 10)]) (h3 : rpB l = true) : osA (ofSet l) = (⟨#[91]⟩ : ByteArray) ++ rpA l ++ (⟨#[93]⟩ : ByteArray) ∧ osB (ofSet l) = true := by
  unfold rpB at h3
  obtain ⟨s, hs⟩ := Option.isSome_iff_exists.1 h3
  have e : ofSet l = some (91 :: s ++ [93]) := by unfold ofSet; rw [if_pos h, h1]; simp only; rw [if_neg h2, hs]
  rw [e]
  unfold osA rpA
  rw [hs]
  refine ⟨?_, rfl⟩
  show bs (91 :: s ++ [93]) = bs [91] ++ bs s ++ bs [93]
  rw [bs_app, bs_app]
  rfl
theorem os_not {l : List (UInt8 × UInt8)} (h : l = rangesS l false) (h1 : oneByte l = none) (h2 : ¬ rangesS l true = [(10, 10)]) (h3 : rpB l = false) :
    (rpB (rangesS l true) = true → ¬ rangesS l true = [] → osA (ofSet l) = (⟨#[91, 94]⟩ : ByteArray) ++ rpA (rangesS l true) ++ (⟨#[93]⟩ : ByteArray) ∧ osB (ofSet l) = true) ∧
    ((rpB (rangesS l true) = false ∨ rangesS l true = []) → ofSet l = none) := by
  unfold rpB at h3
  have hn : rangesP l = none := by
    cases hp : rangesP l with
    | none => rfl
    | some s => rw [hp] at h3; cases h3
  refine ⟨fun hb hne => ?_, fun hor => ?_⟩
  · unfold rpB at hb
    obtain ⟨s, hs⟩ := Option.isSome_iff_exists.1 hb
    have e : ofSet l = some (91 :: 94 :: s ++ [93]) := by unfold ofSet; rw [if_pos h, h1]; simp only; rw [if_neg h2, hn]; simp only; rw [hs]; simp only; rw [if_neg hne]
    rw [e]
    unfold osA rpA
    rw [hs]
    refine ⟨?_, rfl⟩
    show bs (91 :: 94 :: s ++ [93]) = bs [91, 94] ++ bs s ++ bs [93]
    rw [bs_app, bs_app]
    rfl
  · unfold ofSet
    rw [if_pos h, h1]
    simp only
    rw [if_neg h2, hn]
    simp only
    cases hp : rangesP (rangesS l true) with
    | none => rfl
    | some s =>
      rcases hor with hor | hor
      · unfold rpB at hor; rw [hp] at hor; cases hor
      · simp only; rw [if_pos hor]
theorem one_none {l : List (UInt8 × UInt8)} (h : oneByte l = none) : l.length ≠ 1 ∨ (∃ x y, l = [(x, y)] ∧ x ≠ y) ∨ (∃ x, l = [(x, x)] ∧ writable x = false) := by
  match l, h with
  | [], _ => exact Or.inl (by simp)
  | [(x, y)], h =>
    by_cases hxy : x = y
    · subst hxy
      cases hw : writable x with
      | false => exact Or.inr (Or.inr ⟨x, rfl, hw⟩)
      | true => simp [oneByte, hw] at h
    · exact Or.inr (Or.inl ⟨x, y, rfl, hxy⟩)
  | _ :: _ :: _, _ => exact Or.inl (by simp)
theorem dot_no {D : List (UInt8 × UInt8)} (h : ¬ D = [(10, 10)]) : D.length ≠ 1 ∨ (∃ x y, D = [(x, y)] ∧ x ≠ 10) ∨ (∃ y, D = [(10, y)] ∧ y ≠ 10) := by
  match D, h with
  | [], _ => exact Or.inl (by simp)
  | [(x, y)], h =>
    by_cases hx : x = 10
    · subst hx
      by_cases hy : y = 10
      · subst hy; exact absurd rfl h
      · exact Or.inr (Or.inr ⟨y, rfl, hy⟩)
    · exact Or.inr (Or.inl ⟨x, y, rfl, hx⟩)
  | _ :: _ :: _, _ => exact Or.inl (by simp)
theorem ten_ne {x : UInt8} (h : x ≠ 10) : ((x.toNat : Int) == 10) = false := by rw [show ((10 : Int)) = ((10 : Nat) : Int) from rfl, byte_eq x 10 (by decide)]; exact decide_eq_false h
theorem rpA_size (l : List (UInt8 × UInt8)) : (rpA l).size ≤ 5 * l.length := by
  unfold rpA rangesP
  split
  · rename_i s hs
    split at hs
    · cases hs; rw [bs_size]; exact flat_le l
    · cases hs
  · rw [bs_size]; simp

set_option maxRecDepth 100000 in
set_option maxHeartbeats 12800000 in
theorem ofset60 {W : World} {ok : Nat → Prop} {A : Option Addr} {n c : Nat} {l : List (UInt8 × UInt8)} (h : RgS W ok A n c l) (hn : n ≤ 1000) :
    Calls Tryz.prog 60 #[.slice A n c] W fun e w' => e = .returned (.tuple #[.string (osA (ofSet l)), .bool (osB (ofSet l))]) ∧ Below W.heap.size W w' := by
  have hnc := h.1
  have hcc := h.2.1
  have hll := h.2.2.1
  have H := hide h
  have HC1 := hide (ranges50 h false)
  clear h
  cases hcan : decide (l = rangesS l false) with
  | false =>
    have Hd := hide hcan
    have e := os_bad (of_decide_eq_false hcan)
    have H1 := hide (show osA (ofSet l) = bs [] by rw [e]; rfl)
    have H2 := hide (show osB (ofSet l) = false by rw [e]; rfl)
    clear e hcan hll
    go_enter Tryz.func60, Tryz.ntmps60
    go_wp2_with fail
    with_reducible refine HC1.out.mono ?_
    intro e w2 hg
    obtain ⟨A1, n1, c1, rfl, -, hs1, hb2⟩ := hg.s
    have B2 := hide hb2
    have S2 := hide (H.out.below hb2)
    have T2 := hide hs1
    clear hg hs1 hb2
    go_wp2_with fail
    with_reducible refine (sameset38 S2.out T2.out false Hd.out).mono ?_
    rintro e w3 ⟨rfl, hd⟩
    have B3 := hide (bgo B2.out (DrawnBel hd))
    clear hd
    go_wp2
    go_ret2
    exact ⟨by rw [H1.out, H2.out]; rfl, B3.out⟩
  | true =>
    have Hd := hide hcan
    have hc := of_decide_eq_true hcan
    have Hc := hide hc
    clear hcan
    obtain ⟨R, hR⟩ : ∃ R, osA (ofSet l) = R := ⟨_, rfl⟩
    obtain ⟨T, hT⟩ : ∃ T, osB (ofSet l) = T := ⟨_, rfl⟩
    rw [hR, hT]
    cases hone : oneByte l with
    | some a =>
      have e := os_one hc hone
      have hla : l = [(a, a)] ∧ writable a = true := by
        unfold oneByte at hone
        split at hone
        · split at hone
          · rename_i hab
            cases hone
            exact ⟨by rw [hab.1], hab.1 ▸ hab.2⟩
          · cases hone
        · cases hone
      obtain ⟨hla, hwa⟩ := hla
      have n1 : n = 1 := by rw [← hll, hla]; rfl
      subst n1
      have Hr := hide (show bs (quoted a special) = R ∧ true = T by rw [← hR, ← hT, e]; exact ⟨rfl, rfl⟩)
      have Hw := hide hwa
      have Q := hide (quoted83 a ⟨#[92, 46, 42, 43, 63, 40, 41, 91, 93, 123, 125, 124, 94, 36]⟩)
      have hget : l[0]? = some (a, a) := by rw [hla]; rfl
      have Hget := hide hget
      clear hc hone e hla hR hT hwa hget hll
      go_enter Tryz.func60, Tryz.ntmps60
      go_wp2_with fail
      with_reducible refine HC1.out.mono ?_
      intro e w2 hg
      obtain ⟨A1, n1, c1, rfl, -, hs1, hb2⟩ := hg.s
      have B2 := hide hb2
      have S2 := hide (H.out.below hb2)
      have T2 := hide hs1
      clear hg hs1 hb2
      go_wp2_with fail
      with_reducible refine (sameset38 S2.out T2.out true Hd.out).mono ?_
      rintro e w3 ⟨rfl, hd⟩
      have B3 := hide (bgo B2.out (DrawnBel hd))
      obtain ⟨g, o, r, rfl, hr, x0, x1⟩ := (S2.out.below (DrawnBel hd)).at_ (show 0 < 1 by decide)
      rw [Hget.out] at hr
      cases hr
      clear hd
      have hb256 : a.toNat < 256 := a.toNat_lt
      simp only [Nat.zero_mul, Nat.add_zero] at x0 x1
      go_wp2
      go_quiet ((go_at_call 82; exact quiet_left (writ82 a true Hw.out _)))
      go_wp2_with fail
      with_reducible refine (Q.out _ (by decide)).mono ?_
      rintro e w4 ⟨rfl, hb4⟩
      have B4 := hide (bgo (bgo B3.out (Drawn.below ⟨_, rfl⟩ _)) hb4)
      clear hb4
      go_wp2
      go_ret2
      exact ⟨by rw [← Hr.out.1, ← Hr.out.2]; rfl, B4.out⟩
    | none =>
      obtain ⟨D, hD⟩ : ∃ D, rangesS l true = D := ⟨_, rfl⟩
      have hreason := one_none hone
      have Hdot := hide (show D = [(10, 10)] → bs [46] = R ∧ true = T from fun h => by
        rw [← hR, ← hT, os_dot hc hone (hD.trans h)]
        exact ⟨rfl, rfl⟩)
      have Hset := hide (show ¬ D = [(10, 10)] → rpB l = true → (⟨#[91]⟩ : ByteArray) ++ rpA l ++ (⟨#[93]⟩ : ByteArray) = R ∧ true = T from fun h h3 => by
        obtain ⟨a, b⟩ := os_set hc hone (by rw [hD]; exact h) h3
        exact ⟨by rw [← a, hR], by rw [← b, hT]⟩)
      have Hnot := hide (show ¬ D = [(10, 10)] → rpB l = false → rpB D = true → ¬ D = [] → (⟨#[91, 94]⟩ : ByteArray) ++ rpA D ++ (⟨#[93]⟩ : ByteArray) = R ∧ true = T from fun h h3 h4 h5 => by
        obtain ⟨a, b⟩ := (os_not hc hone (by rw [hD]; exact h) h3).1 (by rw [hD]; exact h4) (by rw [hD]; exact h5)
        rw [hD] at a
        exact ⟨by rw [← a, hR], by rw [← b, hT]⟩)
      have Hnone := hide (show ¬ D = [(10, 10)] → rpB l = false → (rpB D = false ∨ D = []) → bs [] = R ∧ false = T from fun h h3 h4 => by
        have e := (os_not hc hone (by rw [hD]; exact h) h3).2 (by rw [hD]; exact h4)
        rw [← hR, ← hT, e]
        exact ⟨rfl, rfl⟩)
      have hDl := ranges_len l true
      rw [hD] at hDl
      have HD := hide hD
      have Hll := hide hll
      have hsl := rpA_size l
      have hsD := rpA_size D
      have hrl : (rpA l).size ≤ 5000 := by omega
      have hrD : (rpA D).size ≤ 5000 := by omega
      obtain ⟨X, hX⟩ : ∃ X, rpA l = X := ⟨_, rfl⟩
      obtain ⟨Y, hY⟩ : ∃ Y, rpA D = Y := ⟨_, rfl⟩
      obtain ⟨p, hp⟩ : ∃ p, rpB l = p := ⟨_, rfl⟩
      obtain ⟨q, hq⟩ : ∃ q, rpB D = q := ⟨_, rfl⟩
      rw [hX] at hrl Hset
      rw [hY] at hrD Hnot
      rw [hp] at Hset Hnot Hnone
      rw [hq] at Hnot Hnone
      have HXX := hide hX
      have HYY := hide hY
      have HP := hide hp
      have HQ := hide hq
      have hX1 : ((⟨#[91]⟩ : ByteArray) ++ X).size ≤ 5001 := by simp only [ByteArray.size_append]; have : (⟨#[91]⟩ : ByteArray).size = 1 := rfl; omega
      have hY1 : ((⟨#[91, 94]⟩ : ByteArray) ++ Y).size ≤ 5002 := by simp only [ByteArray.size_append]; have : (⟨#[91, 94]⟩ : ByteArray).size = 2 := rfl; omega
      clear hR hT hone hc hD hX hY hp hq hsl hsD
      go_enter Tryz.func60, Tryz.ntmps60
      go_wp2_with fail
      with_reducible refine HC1.out.mono ?_
      intro e w2 hg
      obtain ⟨A1, n1, c1, rfl, -, hs1, hb2⟩ := hg.s
      have B2 := hide hb2
      have S2 := hide (H.out.below hb2)
      have T2 := hide hs1
      clear hg hs1 hb2
      go_wp2_with fail
      with_reducible refine (sameset38 S2.out T2.out true Hd.out).mono ?_
      rintro e w3 ⟨rfl, hd⟩
      have B3 := hide (bgo B2.out (DrawnBel hd))
      have S3 := hide (S2.out.below (DrawnBel hd))
      clear hd T2 S2
      rcases hreason with hr | ⟨x, y, hr, hne⟩ | ⟨x, hr, hw⟩
      · have hn1 : ((n : Int) == 1) = false := beq_eq_false_iff_ne.2 (by omega)
        clear hr hll
        go_wp2
        go_quiet (fail)
        obtain ⟨w4, hw4⟩ : ∃ w4, w4 = w3.drewN nq := ⟨_, rfl⟩
        have hd4 : Below w3.heap.size w3 w4 := by rw [hw4]; exact Drawn.below ⟨nq, rfl⟩ _
        rw [← hw4]
        have B4 := hide (bgo B3.out hd4)
        have S4 := hide (S3.out.below hd4)
        clear hw4 hd4 S3 B3
        go_wp2_with fail
        with_reducible refine (ranges50 S4.out true).mono ?_
        rw [HD.out]
        intro e w5 hg
        obtain ⟨A5, m, c5, rfl, hm, hs5, hb5⟩ := hg.s
        have B5 := hide (bgo B4.out hb5)
        have S5 := hide (S4.out.below hb5)
        have D5 := hide hs5
        have Hm := hide hm
        have hmc := hs5.1
        have hmc2 := hs5.2.1
        have hm1 : m ≤ 256 := by omega
        by_cases hdot : D = [(10, 10)]
        · obtain ⟨hR, rfl⟩ := Hdot.out hdot
          have m1 : m = 1 := by rw [hm, hdot]; rfl
          subst m1
          obtain ⟨g5, o5, r5, rfl, hr5, y0, y1⟩ := hs5.at_ (show 0 < 1 by decide)
          rw [hdot] at hr5
          cases hr5
          simp only [Nat.zero_mul, Nat.add_zero] at y0 y1
          have HR := hide hR
          clear hg hs5 hb5 hm hdot hR hDl
          go_wp2
          go_ret2
          exact ⟨by rw [← HR.out]; rfl, B5.out⟩
        · have hwhy : (((m : Int) == 1) = false) ∨ (∃ g5 o5, m = 1 ∧ A5 = some ⟨g5, o5, none⟩ ∧ ((∃ z, w5.cell? ⟨g5, o5, none⟩ = some (.int .u8 z) ∧ (z == 10) = false) ∨ (∃ z, w5.cell? ⟨g5, o5, none⟩ = some (.int .u8 10) ∧ w5.cell? ⟨g5, o5 + 1, none⟩ = some (.int .u8 z) ∧ (z == 10) = false))) := by
            rcases dot_no hdot with h | ⟨x', y', h, h2⟩ | ⟨y', h, h2⟩
            · exact Or.inl (beq_eq_false_iff_ne.2 (by omega))
            · have m1 : m = 1 := by rw [hm, h]; rfl
              obtain ⟨g5, o5, r5, hA, hr5, y0, y1⟩ := hs5.at_ (show 0 < m by omega)
              rw [h] at hr5
              cases hr5
              simp only [Nat.zero_mul, Nat.add_zero] at y0 y1
              exact Or.inr ⟨g5, o5, m1, hA, Or.inl ⟨_, y0, ten_ne h2⟩⟩
            · have m1 : m = 1 := by rw [hm, h]; rfl
              obtain ⟨g5, o5, r5, hA, hr5, y0, y1⟩ := hs5.at_ (show 0 < m by omega)
              rw [h] at hr5
              cases hr5
              simp only [Nat.zero_mul, Nat.add_zero] at y0 y1
              exact Or.inr ⟨g5, o5, m1, hA, Or.inr ⟨_, y0, y1, ten_ne h2⟩⟩
          have Hdd := hide hdot
          clear hg hs5 hb5 hm hdot hDl
          rcases hwhy with hm0 | ⟨g5, o5, rfl, rfl, ⟨z, y0, hz⟩ | ⟨z, y0, y1, hz⟩⟩
          all_goals
            go_wp2_with fail
            with_reducible refine (ranges84 S5.out (by omega)).mono ?_
            rw [HXX.out, HP.out]
            rintro e w6 ⟨rfl, hb6⟩
            have B6 := hide (bgo B5.out hb6)
            have D6 := hide (D5.out.below hb6)
            clear hb6
            cases p with
            | true =>
              obtain ⟨hR, rfl⟩ := Hset.out Hdd.out rfl
              have HR := hide hR
              clear hR
              go_wp2
              go_ret2
              exact ⟨by rw [← HR.out]; rfl, B6.out⟩
            | false =>
              go_wp2_with fail
              with_reducible refine (ranges84 D6.out (by omega)).mono ?_
              rw [HYY.out, HQ.out]
              rintro e w7 ⟨rfl, hb7⟩
              have B7 := hide (bgo B6.out hb7)
              clear hb7
              cases q with
              | false =>
                obtain ⟨hR, rfl⟩ := Hnone.out Hdd.out (by simp) (Or.inl (by simp))
                have HR := hide hR
                clear hR
                go_wp2
                go_ret2
                exact ⟨by rw [← HR.out]; rfl, B7.out⟩
              | true =>
                first
                  | (by_cases hm0' : 0 < m
                     · obtain ⟨hR, rfl⟩ := Hnot.out Hdd.out (by simp) (by simp) (fun h => by rw [Hm.out, h] at hm0'; simp at hm0')
                       have HR := hide hR
                       clear hR
                       go_wp2
                       go_ret2
                       exact ⟨by rw [← HR.out]; rfl, B7.out⟩
                     · obtain ⟨hR, rfl⟩ := Hnone.out Hdd.out (by simp) (Or.inr (List.eq_nil_of_length_eq_zero (by rw [← Hm.out]; omega)))
                       have HR := hide hR
                       clear hR
                       go_wp2
                       go_ret2
                       exact ⟨by rw [← HR.out]; rfl, B7.out⟩)
                  | (obtain ⟨hR, rfl⟩ := Hnot.out Hdd.out (by simp) (by simp) (fun h => by have := Hm.out; rw [h] at this; cases this)
                     have HR := hide hR
                     clear hR
                     go_wp2
                     go_ret2
                     exact ⟨by rw [← HR.out]; rfl, B7.out⟩)
      · have n1 : n = 1 := by rw [← hll, hr]; rfl
        subst n1
        obtain ⟨g, o, r, rfl, hr2, x0, x1⟩ := S3.out.at_ (show 0 < 1 by decide)
        rw [hr] at hr2
        cases hr2
        simp only [Nat.zero_mul, Nat.add_zero] at x0 x1
        have hq0 : ((x.toNat : Int) == (y.toNat : Int)) = false := by
          rw [beq_eq_false_iff_ne]
          intro e
          exact hne (UInt8.toNat_inj.1 (by omega))
        clear hll hne
        subst hr
        go_wp2
        go_quiet (fail)
        clear x0 x1
        obtain ⟨w4, hw4⟩ : ∃ w4, w4 = w3.drewN nq := ⟨_, rfl⟩
        have hd4 : Below w3.heap.size w3 w4 := by rw [hw4]; exact Drawn.below ⟨nq, rfl⟩ _
        rw [← hw4]
        have B4 := hide (bgo B3.out hd4)
        have S4 := hide (S3.out.below hd4)
        clear hw4 hd4 S3 B3
        go_wp2_with fail
        with_reducible refine (ranges50 S4.out true).mono ?_
        rw [HD.out]
        intro e w5 hg
        obtain ⟨A5, m, c5, rfl, hm, hs5, hb5⟩ := hg.s
        have B5 := hide (bgo B4.out hb5)
        have S5 := hide (S4.out.below hb5)
        have D5 := hide hs5
        have Hm := hide hm
        have hmc := hs5.1
        have hmc2 := hs5.2.1
        have hm1 : m ≤ 256 := by omega
        by_cases hdot : D = [(10, 10)]
        · obtain ⟨hR, rfl⟩ := Hdot.out hdot
          have m1 : m = 1 := by rw [hm, hdot]; rfl
          subst m1
          obtain ⟨g5, o5, r5, rfl, hr5, y0, y1⟩ := hs5.at_ (show 0 < 1 by decide)
          rw [hdot] at hr5
          cases hr5
          simp only [Nat.zero_mul, Nat.add_zero] at y0 y1
          have HR := hide hR
          clear hg hs5 hb5 hm hdot hR hDl
          go_wp2
          go_ret2
          exact ⟨by rw [← HR.out]; rfl, B5.out⟩
        · have hwhy : (((m : Int) == 1) = false) ∨ (∃ g5 o5, m = 1 ∧ A5 = some ⟨g5, o5, none⟩ ∧ ((∃ z, w5.cell? ⟨g5, o5, none⟩ = some (.int .u8 z) ∧ (z == 10) = false) ∨ (∃ z, w5.cell? ⟨g5, o5, none⟩ = some (.int .u8 10) ∧ w5.cell? ⟨g5, o5 + 1, none⟩ = some (.int .u8 z) ∧ (z == 10) = false))) := by
            rcases dot_no hdot with h | ⟨x', y', h, h2⟩ | ⟨y', h, h2⟩
            · exact Or.inl (beq_eq_false_iff_ne.2 (by omega))
            · have m1 : m = 1 := by rw [hm, h]; rfl
              obtain ⟨g5, o5, r5, hA, hr5, y0, y1⟩ := hs5.at_ (show 0 < m by omega)
              rw [h] at hr5
              cases hr5
              simp only [Nat.zero_mul, Nat.add_zero] at y0 y1
              exact Or.inr ⟨g5, o5, m1, hA, Or.inl ⟨_, y0, ten_ne h2⟩⟩
            · have m1 : m = 1 := by rw [hm, h]; rfl
              obtain ⟨g5, o5, r5, hA, hr5, y0, y1⟩ := hs5.at_ (show 0 < m by omega)
              rw [h] at hr5
              cases hr5
              simp only [Nat.zero_mul, Nat.add_zero] at y0 y1
              exact Or.inr ⟨g5, o5, m1, hA, Or.inr ⟨_, y0, y1, ten_ne h2⟩⟩
          have Hdd := hide hdot
          clear hg hs5 hb5 hm hdot hDl
          rcases hwhy with hm0 | ⟨g5, o5, rfl, rfl, ⟨z, y0, hz⟩ | ⟨z, y0, y1, hz⟩⟩
          all_goals
            go_wp2_with fail
            with_reducible refine (ranges84 S5.out (by omega)).mono ?_
            rw [HXX.out, HP.out]
            rintro e w6 ⟨rfl, hb6⟩
            have B6 := hide (bgo B5.out hb6)
            have D6 := hide (D5.out.below hb6)
            clear hb6
            cases p with
            | true =>
              obtain ⟨hR, rfl⟩ := Hset.out Hdd.out rfl
              have HR := hide hR
              clear hR
              go_wp2
              go_ret2
              exact ⟨by rw [← HR.out]; rfl, B6.out⟩
            | false =>
              go_wp2_with fail
              with_reducible refine (ranges84 D6.out (by omega)).mono ?_
              rw [HYY.out, HQ.out]
              rintro e w7 ⟨rfl, hb7⟩
              have B7 := hide (bgo B6.out hb7)
              clear hb7
              cases q with
              | false =>
                obtain ⟨hR, rfl⟩ := Hnone.out Hdd.out (by simp) (Or.inl (by simp))
                have HR := hide hR
                clear hR
                go_wp2
                go_ret2
                exact ⟨by rw [← HR.out]; rfl, B7.out⟩
              | true =>
                first
                  | (by_cases hm0' : 0 < m
                     · obtain ⟨hR, rfl⟩ := Hnot.out Hdd.out (by simp) (by simp) (fun h => by rw [Hm.out, h] at hm0'; simp at hm0')
                       have HR := hide hR
                       clear hR
                       go_wp2
                       go_ret2
                       exact ⟨by rw [← HR.out]; rfl, B7.out⟩
                     · obtain ⟨hR, rfl⟩ := Hnone.out Hdd.out (by simp) (Or.inr (List.eq_nil_of_length_eq_zero (by rw [← Hm.out]; omega)))
                       have HR := hide hR
                       clear hR
                       go_wp2
                       go_ret2
                       exact ⟨by rw [← HR.out]; rfl, B7.out⟩)
                  | (obtain ⟨hR, rfl⟩ := Hnot.out Hdd.out (by simp) (by simp) (fun h => by have := Hm.out; rw [h] at this; cases this)
                     have HR := hide hR
                     clear hR
                     go_wp2
                     go_ret2
                     exact ⟨by rw [← HR.out]; rfl, B7.out⟩)
      · have n1 : n = 1 := by rw [← hll, hr]; rfl
        subst n1
        obtain ⟨g, o, r, rfl, hr2, x0, x1⟩ := S3.out.at_ (show 0 < 1 by decide)
        rw [hr] at hr2
        cases hr2
        simp only [Nat.zero_mul, Nat.add_zero] at x0 x1
        have Hw := hide hw
        clear hll hw
        subst hr
        go_wp2
        go_quiet ((go_at_call 82; exact quiet_left (writ82 x false Hw.out _)))
        clear x0 x1
        obtain ⟨w4, hw4⟩ : ∃ w4, w4 = w3.drewN nq := ⟨_, rfl⟩
        have hd4 : Below w3.heap.size w3 w4 := by rw [hw4]; exact Drawn.below ⟨nq, rfl⟩ _
        rw [← hw4]
        have B4 := hide (bgo B3.out hd4)
        have S4 := hide (S3.out.below hd4)
        clear hw4 hd4 S3 B3
        go_wp2_with fail
        with_reducible refine (ranges50 S4.out true).mono ?_
        rw [HD.out]
        intro e w5 hg
        obtain ⟨A5, m, c5, rfl, hm, hs5, hb5⟩ := hg.s
        have B5 := hide (bgo B4.out hb5)
        have S5 := hide (S4.out.below hb5)
        have D5 := hide hs5
        have Hm := hide hm
        have hmc := hs5.1
        have hmc2 := hs5.2.1
        have hm1 : m ≤ 256 := by omega
        by_cases hdot : D = [(10, 10)]
        · obtain ⟨hR, rfl⟩ := Hdot.out hdot
          have m1 : m = 1 := by rw [hm, hdot]; rfl
          subst m1
          obtain ⟨g5, o5, r5, rfl, hr5, y0, y1⟩ := hs5.at_ (show 0 < 1 by decide)
          rw [hdot] at hr5
          cases hr5
          simp only [Nat.zero_mul, Nat.add_zero] at y0 y1
          have HR := hide hR
          clear hg hs5 hb5 hm hdot hR hDl
          go_wp2
          go_ret2
          exact ⟨by rw [← HR.out]; rfl, B5.out⟩
        · have hwhy : (((m : Int) == 1) = false) ∨ (∃ g5 o5, m = 1 ∧ A5 = some ⟨g5, o5, none⟩ ∧ ((∃ z, w5.cell? ⟨g5, o5, none⟩ = some (.int .u8 z) ∧ (z == 10) = false) ∨ (∃ z, w5.cell? ⟨g5, o5, none⟩ = some (.int .u8 10) ∧ w5.cell? ⟨g5, o5 + 1, none⟩ = some (.int .u8 z) ∧ (z == 10) = false))) := by
            rcases dot_no hdot with h | ⟨x', y', h, h2⟩ | ⟨y', h, h2⟩
            · exact Or.inl (beq_eq_false_iff_ne.2 (by omega))
            · have m1 : m = 1 := by rw [hm, h]; rfl
              obtain ⟨g5, o5, r5, hA, hr5, y0, y1⟩ := hs5.at_ (show 0 < m by omega)
              rw [h] at hr5
              cases hr5
              simp only [Nat.zero_mul, Nat.add_zero] at y0 y1
              exact Or.inr ⟨g5, o5, m1, hA, Or.inl ⟨_, y0, ten_ne h2⟩⟩
            · have m1 : m = 1 := by rw [hm, h]; rfl
              obtain ⟨g5, o5, r5, hA, hr5, y0, y1⟩ := hs5.at_ (show 0 < m by omega)
              rw [h] at hr5
              cases hr5
              simp only [Nat.zero_mul, Nat.add_zero] at y0 y1
              exact Or.inr ⟨g5, o5, m1, hA, Or.inr ⟨_, y0, y1, ten_ne h2⟩⟩
          have Hdd := hide hdot
          clear hg hs5 hb5 hm hdot hDl
          rcases hwhy with hm0 | ⟨g5, o5, rfl, rfl, ⟨z, y0, hz⟩ | ⟨z, y0, y1, hz⟩⟩
          all_goals
            go_wp2_with fail
            with_reducible refine (ranges84 S5.out (by omega)).mono ?_
            rw [HXX.out, HP.out]
            rintro e w6 ⟨rfl, hb6⟩
            have B6 := hide (bgo B5.out hb6)
            have D6 := hide (D5.out.below hb6)
            clear hb6
            cases p with
            | true =>
              obtain ⟨hR, rfl⟩ := Hset.out Hdd.out rfl
              have HR := hide hR
              clear hR
              go_wp2
              go_ret2
              exact ⟨by rw [← HR.out]; rfl, B6.out⟩
            | false =>
              go_wp2_with fail
              with_reducible refine (ranges84 D6.out (by omega)).mono ?_
              rw [HYY.out, HQ.out]
              rintro e w7 ⟨rfl, hb7⟩
              have B7 := hide (bgo B6.out hb7)
              clear hb7
              cases q with
              | false =>
                obtain ⟨hR, rfl⟩ := Hnone.out Hdd.out (by simp) (Or.inl (by simp))
                have HR := hide hR
                clear hR
                go_wp2
                go_ret2
                exact ⟨by rw [← HR.out]; rfl, B7.out⟩
              | true =>
                first
                  | (by_cases hm0' : 0 < m
                     · obtain ⟨hR, rfl⟩ := Hnot.out Hdd.out (by simp) (by simp) (fun h => by rw [Hm.out, h] at hm0'; simp at hm0')
                       have HR := hide hR
                       clear hR
                       go_wp2
                       go_ret2
                       exact ⟨by rw [← HR.out]; rfl, B7.out⟩
                     · obtain ⟨hR, rfl⟩ := Hnone.out Hdd.out (by simp) (Or.inr (List.eq_nil_of_length_eq_zero (by rw [← Hm.out]; omega)))
                       have HR := hide hR
                       clear hR
                       go_wp2
                       go_ret2
                       exact ⟨by rw [← HR.out]; rfl, B7.out⟩)
                  | (obtain ⟨hR, rfl⟩ := Hnot.out Hdd.out (by simp) (by simp) (fun h => by have := Hm.out; rw [h] at this; cases this)
                     have HR := hide hR
                     clear hR
                     go_wp2
                     go_ret2
                     exact ⟨by rw [← HR.out]; rfl, B7.out⟩)

end Go.Proofs.YtmiegjefmebpdaaGreatDoor
