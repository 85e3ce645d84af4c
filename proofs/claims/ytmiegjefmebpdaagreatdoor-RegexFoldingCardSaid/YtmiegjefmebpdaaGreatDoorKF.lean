/- Walk of layer 8's reference: Lengths. -/
import Derived.Test.YtmiegjefmebpdaaGreatDoorKE
namespace Go.Proofs.YtmiegjefmebpdaaGreatDoor
open Go.RowKit

theorem drop_next {l : List Rx} {i : Nat} {x : Rx} (h : l[i]? = some x) : l.drop i = x :: l.drop (i + 1) := by
  obtain ⟨h1, e1⟩ := List.getElem?_eq_some_iff.1 h
  rw [List.drop_eq_getElem_cons h1, e1]

theorem bel_drewN (w : World) (n : Nat) : Below w.heap.size w (w.drewN n) := ⟨rfl, rfl, rfl, Nat.le_refl _, fun _ _ => rfl⟩
theorem ret_two {p q R S : Int} (h1 : p = R) (h2 : q = S) : Ending.returned (.tuple #[.int .i64 p, .int .i64 q]) = Ending.returned (.tuple #[.int .i64 R, .int .i64 S]) := by rw [h1, h2]

set_option maxRecDepth 100000 in
set_option maxHeartbeats 12800000 in
theorem len23 : ∀ (r : Rx), nodeR r = 0 → sizeR r ≤ 1000 → depthR r ≤ 12 → ∀ (W : World) (ok : Nat → Prop) (v : Value), RxV W ok v r →
    Calls Tryz.prog 23 #[v] W fun e w' => e = .returned (.tuple #[.int .i64 (lenR r).1, .int .i64 (lenR r).2]) ∧ Below W.heap.size W w' := by
  intro r
  induction r using Rx.ind with
  | h k s a b l ih =>
    intro hnode hsz hdp W ok v hv
    cases hv with
    | mk _ _ _ A B n c m d _ vs _ hset hvs hlen hk ha hb hr =>
    obtain ⟨hf, hbd, hsub⟩ := node_ok hnode
    obtain ⟨hk7, hkset, hle, hab, h4, h3, hl0⟩ := fields_of hf
    have hmd := hvs.1
    have hdd := hvs.2.1
    have Hvs := hide hvs
    have Hlen := hide hlen
    have Hr := hide hr
    have hB := bnew (Below.refl _ W) (.cells #[.int .i64 k, .slice A n c, .int .i64 a, .int .i64 b, .slice B m d] 25)
    have BB := hide hB
    have F := hide (five_new W (.int .i64 k) (.slice A n c) (.int .i64 a) (.int .i64 b) (.slice B m d) 25)
    have hm1000 : m ≤ 1000 := by
      have : ∀ l : List Rx, l.length ≤ sizeL l := by
        intro l
        induction l with
        | nil => simp
        | cons x l ih => simp only [sizeL, List.length_cons]; have : 1 ≤ sizeR x := (by cases x; unfold sizeR; omega); omega
      have := this l
      unfold sizeR at hsz
      omega
    have IH := hide (show ∀ x ∈ l, InB (lenR x) 68719476736000 ∧ ∀ (W : World) (ok : Nat → Prop) (v : Value), RxV W ok v x → Calls Tryz.prog 23 #[v] W fun e w' => e = .returned (.tuple #[.int .i64 (lenR x).1, .int .i64 (lenR x).2]) ∧ Below W.heap.size W w' from fun x hx => by
      have h1 := sizeL_mem hx
      have h2 := depthL_mem hx
      unfold sizeR at hsz
      unfold depthR at hdp
      exact ⟨len_U (hsub x hx) (by omega) (by omega), ih x hx (hsub x hx) (by omega) (by omega)⟩)
    obtain ⟨⟨R1, R2⟩, hR⟩ : ∃ R, lenR (.mk k s a b l) = R := ⟨_, rfl⟩
    rw [hR]
    have hR' := hR
    rw [lenR] at hR'
    dsimp only
    by_cases hk1 : k = 1
    · rw [if_pos hk1] at hR'
      cases hR'
      subst hk1
      clear hset hvs hlen hr hB ih hnode hf hbd hsub hkset hle hab h4 h3 hl0 hR hsz hdp hk ha hb IH
      go_enter Tryz.func23, Tryz.ntmps23
      go_wp2_with fail
      go_ret2
      exact ⟨rfl, BB.out⟩
    rw [if_neg hk1] at hR'
    have q1 : (k == 1) = false := by rw [beq_eq_false_iff_ne]; exact hk1
    have HR := hide hR'
    by_cases hk4 : k = 4
    · subst hk4
      have hl1 := h4 rfl
      have hm1 : m = 1 := by rw [← hlen, hl1]
      subst hm1
      obtain ⟨x, hxl⟩ : ∃ x, l = [x] := List.length_eq_one_iff.1 hl1
      subst hxl
      obtain ⟨⟨le, mo⟩, hu⟩ : ∃ q, lenR x = q := ⟨_, rfl⟩
      have hrep := HR.out
      rw [lenL, if_pos rfl, hu] at hrep
      unfold repStep at hrep
      obtain ⟨hxb, hxc⟩ := IH.out x (by simp)
      rw [hu] at hxb hxc
      obtain ⟨g1, g2, g3, g4⟩ := hxb
      dsimp only at hxc g1 g2 g3 g4 hrep
      have HXC := hide hxc
      have hbnd := hbd rfl
      unfold boundsR at hbnd
      rw [decide_eq_true_eq] at hbnd
      obtain ⟨a0, a8, hbb⟩ := hbnd
      have z0 : 0 ≤ a * le := Int.mul_nonneg a0 g1
      have z1 : a * le ≤ 8 * 68719476736000 := Int.mul_le_mul a8 g2 g1 (by omega)
      have zb : 0 ≤ b → 0 ≤ mo → 0 ≤ b * mo ∧ b * mo ≤ 8 * 68719476736000 := fun h1 h2 => ⟨Int.mul_nonneg h1 h2, Int.mul_le_mul (by omega) g4 h2 (by omega)⟩
      obtain ⟨Z, hZ⟩ : ∃ Z, a * le = Z := ⟨_, rfl⟩
      obtain ⟨V, hV⟩ : ∃ V, b * mo = V := ⟨_, rfl⟩
      rw [hZ] at z0 z1
      rw [hV] at zb
      rw [hZ, hV] at hrep
      have ZB := hide zb
      have REP := hide hrep
      clear hset hvs hlen hr hB ih hnode hf hbd hsub hkset hle hab h4 h3 hl0 hR hR' hsz hdp hk hbb hxc zb hrep hu IH hl1
      go_enter Tryz.func23, Tryz.ntmps23
      go_wp2_with fail
      go_loopw [4, 5, 6] (fun x y z wr => x = .int .i64 0 ∧ y = .int .i64 0 ∧ z = .int .i64 0 ∧ wr = (W.alloc (.cells #[.int .i64 4, .slice A n c, .int .i64 a, .int .i64 b, .slice B 1 d] 25))) (fun _ _ x _ => 1 - (intOf x).toNat)
      case atStart => exact ⟨rfl, rfl, rfl, rfl⟩
      case round =>
        obtain ⟨rfl, rfl, rfl, hw0⟩ := hrel
        obtain ⟨w3, hw3⟩ : ∃ w3, w3 = wr := ⟨wr, rfl⟩
        subst hw3
        have hbel : Below (W.alloc (.cells #[.int .i64 4, .slice A n c, .int .i64 a, .int .i64 b, .slice B 1 d] 25)).heap.size (W.alloc (.cells #[.int .i64 4, .slice A n c, .int .i64 a, .int .i64 b, .slice B 1 d] 25)) w3 := by rw [hw0]; exact Below.refl _ _
        clear hw0
        obtain ⟨_, t0, t1, t2, t3, t4⟩ := F.out.keep hbel
        have B3 := hide hbel
        have B4 := hide (bgo BB.out hbel)
        obtain ⟨g, o, c0, c1, c2, c3, c4, rfl, hx, x0, x1, x2, x3, x4⟩ := (Hvs.out.below B4.out).at_ (show 0 < 1 by decide)
        have rx := Hr.out 0 _ _ hx rfl
        have HI := hide (HXC.out _ _ _ (rx.kept B4.out))
        simp only [Nat.zero_mul, Nat.add_zero] at x0 x1 x2 x3 x4
        clear hbel hx rx
        by_cases hu0 : mo = 0
        · have f0 : (mo == 0) = true := by rw [hu0]; rfl
          obtain ⟨e1, e2⟩ : R1 = Z ∧ R2 = 0 := by
            have h := REP.out
            rw [if_pos hu0] at h
            exact ⟨(congrArg Prod.fst h).symm, (congrArg Prod.snd h).symm⟩
          have E1 := hide e1
          have E2 := hide e2
          clear e1 e2
          go_wp2_with fail
          with_reducible refine HI.out.mono ?_
          rintro e w4 ⟨rfl, hb4⟩
          have B6 := hide (B3.out.trans (hb4.mono B3.out.size))
          have B7 := hide (bgo BB.out B6.out)
          obtain ⟨_, y0, y1, y2, y3, y4⟩ := F.out.keep B6.out
          clear hb4
          go_wp2
          go_ret2
          exact ⟨ret_two E1.out.symm E2.out.symm, B7.out⟩
        · have f0 : (mo == 0) = false := by rw [beq_eq_false_iff_ne]; exact hu0
          by_cases hun : mo < 0
          · have hu1 : mo < 0 ∨ b < 0 := Or.inl hun
            obtain ⟨e1, e2⟩ : R1 = Z ∧ R2 = -1 := by
              have h := REP.out
              rw [if_neg hu0, if_pos hu1] at h
              exact ⟨(congrArg Prod.fst h).symm, (congrArg Prod.snd h).symm⟩
            have E1 := hide e1
            have E2 := hide e2
            clear e1 e2
            go_wp2_with fail
            with_reducible refine HI.out.mono ?_
            rintro e w4 ⟨rfl, hb4⟩
            have B6 := hide (B3.out.trans (hb4.mono B3.out.size))
            have B7 := hide (bgo BB.out B6.out)
            obtain ⟨_, y0, y1, y2, y3, y4⟩ := F.out.keep B6.out
            clear hb4
            clear hu1
            go_wp2
            go_ret2
            exact ⟨ret_two E1.out.symm E2.out.symm, B7.out⟩
          · by_cases hbn : b < 0
            · have hu1 : mo < 0 ∨ b < 0 := Or.inr hbn
              obtain ⟨e1, e2⟩ : R1 = Z ∧ R2 = -1 := by
                have h := REP.out
                rw [if_neg hu0, if_pos hu1] at h
                exact ⟨(congrArg Prod.fst h).symm, (congrArg Prod.snd h).symm⟩
              have E1 := hide e1
              have E2 := hide e2
              clear e1 e2
              go_wp2_with fail
              with_reducible refine HI.out.mono ?_
              rintro e w4 ⟨rfl, hb4⟩
              have B6 := hide (B3.out.trans (hb4.mono B3.out.size))
              have B7 := hide (bgo BB.out B6.out)
              obtain ⟨_, y0, y1, y2, y3, y4⟩ := F.out.keep B6.out
              clear hb4
              clear hu1
              go_wp2
              go_ret2
              exact ⟨ret_two E1.out.symm E2.out.symm, B7.out⟩
            · have hu1 : ¬ (mo < 0 ∨ b < 0) := by omega
              obtain ⟨v0, v1⟩ := ZB.out (by omega) (by omega)
              obtain ⟨e1, e2⟩ : R1 = Z ∧ R2 = V := by
                have h := REP.out
                rw [if_neg hu0, if_neg hu1] at h
                exact ⟨(congrArg Prod.fst h).symm, (congrArg Prod.snd h).symm⟩
              have E1 := hide e1
              have E2 := hide e2
              clear e1 e2
              go_wp2_with fail
              with_reducible refine HI.out.mono ?_
              rintro e w4 ⟨rfl, hb4⟩
              have B6 := hide (B3.out.trans (hb4.mono B3.out.size))
              have B7 := hide (bgo BB.out B6.out)
              obtain ⟨_, y0, y1, y2, y3, y4⟩ := F.out.keep B6.out
              clear hb4
              clear hu1
              go_wp2
              go_quiet (fail)
              go_wp2
              go_ret2
              exact ⟨ret_two E1.out.symm E2.out.symm, bgo B7.out (bel_drewN _ _)⟩
    · have q4 : (k == 4) = false := by rw [beq_eq_false_iff_ne]; exact hk4
      by_cases hk2 : k = 2
      · subst hk2
        clear hset hvs hlen hr hB ih hnode hf hbd hsub hkset hle hab h4 h3 hl0 hR hR' hsz hdp hk hk1 hk4
        go_enter Tryz.func23, Tryz.ntmps23
        go_wp2_with fail
        go_loopw [4, 5, 6] (fun x y z wr => ∃ (i : Nat) (p1 p2 : Int), i ≤ m ∧ z = .int .i64 (i : Int) ∧ x = .int .i64 p1 ∧ y = .int .i64 p2 ∧ lenL 2 a b i (p1, p2) (l.drop i) = (R1, R2) ∧ InB (p1, p2) ((i : Int) * 68719476736000) ∧ Below (W.alloc (.cells #[.int .i64 2, .slice A n c, .int .i64 a, .int .i64 b, .slice B m d] 25)).heap.size (W.alloc (.cells #[.int .i64 2, .slice A n c, .int .i64 a, .int .i64 b, .slice B m d] 25)) wr) (fun _ _ x _ => m - (intOf x).toNat)
        case atStart => exact ⟨0, 0, 0, Nat.zero_le _, rfl, rfl, rfl, HR.out, ⟨by decide, by decide, by decide, by decide⟩, Below.refl _ _⟩
        case round =>
          obtain ⟨i, p1, p2, hi, rfl, rfl, rfl, hL, hP, hbel⟩ := hrel
          obtain ⟨w3, hw3⟩ : ∃ w3, w3 = wr := ⟨wr, rfl⟩
          subst hw3
          obtain ⟨_, t0, t1, t2, t3, t4⟩ := F.out.keep hbel
          have B3 := hide hbel
          have B4 := hide (bgo BB.out hbel)
          have HL := hide hL
          have HP := hide hP
          obtain ⟨r1, r2, r3, r4⟩ := hP
          dsimp only at r1 r2 r3 r4
          have r5 : p1 ≤ 68719476736000000 := by omega
          have r6 : p2 ≤ 68719476736000000 := by omega
          clear hL r2 r4
          by_cases hlt : i < m
          · obtain ⟨g, o, c0, c1, c2, c3, c4, rfl, hx, x0, x1, x2, x3, x4⟩ := (Hvs.out.below B4.out).at_ hlt
            have hil : i < l.length := by rw [Hlen.out]; exact hlt
            have hxl := List.getElem?_eq_getElem hil
            have rx := Hr.out i _ _ hx hxl
            obtain ⟨x, hxe⟩ : ∃ x, l[i] = x := ⟨_, rfl⟩
            rw [hxe] at hxl rx
            have hmem : x ∈ l := List.mem_of_getElem? hxl
            obtain ⟨hxb, hxc⟩ := IH.out x hmem
            obtain ⟨⟨le, mo⟩, hu⟩ : ∃ q, lenR x = q := ⟨_, rfl⟩
            rw [hu] at hxb hxc
            have HSt := hide (stepN_in (k := 2) (i := i) HP.out hxb)
            obtain ⟨g1, g2, g3, g4⟩ := hxb
            dsimp only at hxc g1 g2 g3 g4
            have HI := hide (hxc _ _ _ (rx.kept B4.out))
            have him : (i : Int) < (m : Int) := by omega
            have HN := hide (show lenL 2 a b (i + 1) (stepN 2 i (p1, p2) (le, mo)) (l.drop (i + 1)) = (R1, R2) by
              have h := HL.out
              rw [drop_next hxl, lenL_step 2 a b i _ x _ (by decide), hu] at h
              exact h)
            clear hx hxl rx hxe hmem hxc hu hbel
            have HUB := hide (show ((i : Int) * 68719476736000 + 68719476736000) = ((i + 1 : Nat) : Int) * 68719476736000 by omega)
            by_cases hc1 : p2 < 0
            · have hst : stepN 2 i (p1, p2) (le, mo) = (p1 + le, -1) := by
                unfold stepN catStep; rw [if_pos rfl]; dsimp only; rw [if_pos (Or.inl hc1)]
              rw [hst] at HN HSt
              clear hst
              go_wp2_with fail
              with_reducible refine HI.out.mono ?_
              rintro e w4 ⟨rfl, hb4⟩
              have B6 := hide (B3.out.trans (hb4.mono B3.out.size))
              have B7 := hide (bgo BB.out B6.out)
              obtain ⟨_, y0, y1, y2, y3, y4⟩ := F.out.keep B6.out
              clear hb4
              go_wp2
              go_roundw
              case rel => exact ⟨i + 1, p1 + le, -1, by omega, by go_num, by first | rfl | go_num, by first | rfl | go_num, HN.out, by rw [← HUB.out]; exact HSt.out, B6.out⟩
              case measure => simp [intOf]; omega
            · by_cases hc2 : mo < 0
              · have hst : stepN 2 i (p1, p2) (le, mo) = (p1 + le, -1) := by
                  unfold stepN catStep; rw [if_pos rfl]; dsimp only; rw [if_pos (Or.inr hc2)]
                rw [hst] at HN HSt
                clear hst
                go_wp2_with fail
                with_reducible refine HI.out.mono ?_
                rintro e w4 ⟨rfl, hb4⟩
                have B6 := hide (B3.out.trans (hb4.mono B3.out.size))
                have B7 := hide (bgo BB.out B6.out)
                obtain ⟨_, y0, y1, y2, y3, y4⟩ := F.out.keep B6.out
                clear hb4
                go_wp2
                go_roundw
                case rel => exact ⟨i + 1, p1 + le, -1, by omega, by go_num, by first | rfl | go_num, by first | rfl | go_num, HN.out, by rw [← HUB.out]; exact HSt.out, B6.out⟩
                case measure => simp [intOf]; omega
              · have hst : stepN 2 i (p1, p2) (le, mo) = (p1 + le, p2 + mo) := by
                  unfold stepN catStep; rw [if_pos rfl]; dsimp only; rw [if_neg (by omega)]
                rw [hst] at HN HSt
                clear hst
                go_wp2_with fail
                with_reducible refine HI.out.mono ?_
                rintro e w4 ⟨rfl, hb4⟩
                have B6 := hide (B3.out.trans (hb4.mono B3.out.size))
                have B7 := hide (bgo BB.out B6.out)
                obtain ⟨_, y0, y1, y2, y3, y4⟩ := F.out.keep B6.out
                clear hb4
                go_wp2
                go_roundw
                case rel => exact ⟨i + 1, p1 + le, p2 + mo, by omega, by go_num, by first | rfl | go_num, by first | rfl | go_num, HN.out, by rw [← HUB.out]; exact HSt.out, B6.out⟩
                case measure => simp [intOf]; omega
          · have hm := HL.out
            rw [List.drop_eq_nil_of_le (by rw [Hlen.out]; omega), lenL] at hm
            obtain ⟨e1, e2⟩ : p1 = R1 ∧ p2 = R2 := ⟨congrArg Prod.fst hm, congrArg Prod.snd hm⟩
            have E1 := hide e1
            have E2 := hide e2
            clear hbel hm e1 e2
            go_wp2
            go_ret2
            exact ⟨ret_two E1.out E2.out, B4.out⟩
      · have q2 : (k == 2) = false := by rw [beq_eq_false_iff_ne]; exact hk2
        clear hset hvs hlen hr hB ih hnode hf hbd hsub hkset hle hab h4 h3 hl0 hR hR' hsz hdp hk hk1 hk4 hk2
        go_enter Tryz.func23, Tryz.ntmps23
        go_wp2_with fail
        go_loopw [4, 5, 6] (fun x y z wr => ∃ (i : Nat) (p1 p2 : Int), i ≤ m ∧ z = .int .i64 (i : Int) ∧ x = .int .i64 p1 ∧ y = .int .i64 p2 ∧ lenL k a b i (p1, p2) (l.drop i) = (R1, R2) ∧ InB (p1, p2) ((i : Int) * 68719476736000) ∧ Below (W.alloc (.cells #[.int .i64 k, .slice A n c, .int .i64 a, .int .i64 b, .slice B m d] 25)).heap.size (W.alloc (.cells #[.int .i64 k, .slice A n c, .int .i64 a, .int .i64 b, .slice B m d] 25)) wr) (fun _ _ x _ => m - (intOf x).toNat)
        case atStart => exact ⟨0, 0, 0, Nat.zero_le _, rfl, rfl, rfl, HR.out, ⟨by decide, by decide, by decide, by decide⟩, Below.refl _ _⟩
        case round =>
          obtain ⟨i, p1, p2, hi, rfl, rfl, rfl, hL, hP, hbel⟩ := hrel
          obtain ⟨w3, hw3⟩ : ∃ w3, w3 = wr := ⟨wr, rfl⟩
          subst hw3
          obtain ⟨_, t0, t1, t2, t3, t4⟩ := F.out.keep hbel
          have B3 := hide hbel
          have B4 := hide (bgo BB.out hbel)
          have HL := hide hL
          have HP := hide hP
          obtain ⟨r1, r2, r3, r4⟩ := hP
          dsimp only at r1 r2 r3 r4
          have r5 : p1 ≤ 68719476736000000 := by omega
          have r6 : p2 ≤ 68719476736000000 := by omega
          clear hL r2 r4
          by_cases hlt : i < m
          · obtain ⟨g, o, c0, c1, c2, c3, c4, rfl, hx, x0, x1, x2, x3, x4⟩ := (Hvs.out.below B4.out).at_ hlt
            have hil : i < l.length := by rw [Hlen.out]; exact hlt
            have hxl := List.getElem?_eq_getElem hil
            have rx := Hr.out i _ _ hx hxl
            obtain ⟨x, hxe⟩ : ∃ x, l[i] = x := ⟨_, rfl⟩
            rw [hxe] at hxl rx
            have hmem : x ∈ l := List.mem_of_getElem? hxl
            obtain ⟨hxb, hxc⟩ := IH.out x hmem
            obtain ⟨⟨le, mo⟩, hu⟩ : ∃ q, lenR x = q := ⟨_, rfl⟩
            rw [hu] at hxb hxc
            have HSt := hide (stepN_in (k := k) (i := i) HP.out hxb)
            obtain ⟨g1, g2, g3, g4⟩ := hxb
            dsimp only at hxc g1 g2 g3 g4
            have HI := hide (hxc _ _ _ (rx.kept B4.out))
            have him : (i : Int) < (m : Int) := by omega
            have HN := hide (show lenL k a b (i + 1) (stepN k i (p1, p2) (le, mo)) (l.drop (i + 1)) = (R1, R2) by
              have h := HL.out
              rw [drop_next hxl, lenL_step k a b i _ x _ (by intro h; rw [h] at q4; cases q4), hu] at h
              exact h)
            clear hx hxl rx hxe hmem hxc hu hbel
            have HUB := hide (show ((i : Int) * 68719476736000 + 68719476736000) = ((i + 1 : Nat) : Int) * 68719476736000 by omega)
            by_cases hi0 : i = 0
            · subst hi0
              simp only [Nat.zero_mul, Nat.add_zero] at x0 x1 x2 x3 x4
              by_cases hc1 : p2 < 0
              · have hst : stepN k 0 (p1, p2) (le, mo) = (le, -1) := by
                  unfold stepN altStep; rw [if_neg (by intro h; rw [h] at q2; cases q2), if_pos rfl]; dsimp only; rw [if_pos (Or.inl hc1)]
                rw [hst] at HN HSt
                clear hst
                go_wp2_with fail
                with_reducible refine HI.out.mono ?_
                rintro e w4 ⟨rfl, hb4⟩
                have B6 := hide (B3.out.trans (hb4.mono B3.out.size))
                have B7 := hide (bgo BB.out B6.out)
                obtain ⟨_, y0, y1, y2, y3, y4⟩ := F.out.keep B6.out
                clear hb4
                go_wp2
                go_roundw
                case rel => exact ⟨0 + 1, le, -1, by omega, by go_num, by first | rfl | go_num, by first | rfl | go_num, HN.out, by rw [← HUB.out]; exact HSt.out, B6.out⟩
                case measure => simp [intOf]; omega
              · by_cases hc2 : mo < 0
                · have hst : stepN k 0 (p1, p2) (le, mo) = (le, -1) := by
                    unfold stepN altStep; rw [if_neg (by intro h; rw [h] at q2; cases q2), if_pos rfl]; dsimp only; rw [if_pos (Or.inr hc2)]
                  rw [hst] at HN HSt
                  clear hst
                  go_wp2_with fail
                  with_reducible refine HI.out.mono ?_
                  rintro e w4 ⟨rfl, hb4⟩
                  have B6 := hide (B3.out.trans (hb4.mono B3.out.size))
                  have B7 := hide (bgo BB.out B6.out)
                  obtain ⟨_, y0, y1, y2, y3, y4⟩ := F.out.keep B6.out
                  clear hb4
                  go_wp2
                  go_roundw
                  case rel => exact ⟨0 + 1, le, -1, by omega, by go_num, by first | rfl | go_num, by first | rfl | go_num, HN.out, by rw [← HUB.out]; exact HSt.out, B6.out⟩
                  case measure => simp [intOf]; omega
                · by_cases hc3 : p2 < mo
                  · have hst : stepN k 0 (p1, p2) (le, mo) = (le, mo) := by
                      unfold stepN altStep; rw [if_neg (by intro h; rw [h] at q2; cases q2), if_pos rfl]; dsimp only; rw [if_neg (by omega), if_pos hc3]
                    rw [hst] at HN HSt
                    clear hst
                    go_wp2_with fail
                    with_reducible refine HI.out.mono ?_
                    rintro e w4 ⟨rfl, hb4⟩
                    have B6 := hide (B3.out.trans (hb4.mono B3.out.size))
                    have B7 := hide (bgo BB.out B6.out)
                    obtain ⟨_, y0, y1, y2, y3, y4⟩ := F.out.keep B6.out
                    clear hb4
                    go_wp2
                    go_roundw
                    case rel => exact ⟨0 + 1, le, mo, by omega, by go_num, by first | rfl | go_num, by first | rfl | go_num, HN.out, by rw [← HUB.out]; exact HSt.out, B6.out⟩
                    case measure => simp [intOf]; omega
                  · have hst : stepN k 0 (p1, p2) (le, mo) = (le, p2) := by
                      unfold stepN altStep; rw [if_neg (by intro h; rw [h] at q2; cases q2), if_pos rfl]; dsimp only; rw [if_neg (by omega), if_neg hc3]
                    rw [hst] at HN HSt
                    clear hst
                    go_wp2_with fail
                    with_reducible refine HI.out.mono ?_
                    rintro e w4 ⟨rfl, hb4⟩
                    have B6 := hide (B3.out.trans (hb4.mono B3.out.size))
                    have B7 := hide (bgo BB.out B6.out)
                    obtain ⟨_, y0, y1, y2, y3, y4⟩ := F.out.keep B6.out
                    clear hb4
                    go_wp2
                    go_roundw
                    case rel => exact ⟨0 + 1, le, p2, by omega, by go_num, by first | rfl | go_num, by first | rfl | go_num, HN.out, by rw [← HUB.out]; exact HSt.out, B6.out⟩
                    case measure => simp [intOf]; omega
            · have qi : ((i : Int) == 0) = false := by rw [beq_eq_false_iff_ne]; omega
              by_cases hlt1 : le < p1
              · by_cases hc1 : p2 < 0
                · have hst : stepN k i (p1, p2) (le, mo) = (le, -1) := by
                    unfold stepN altStep; rw [if_neg (by intro h; rw [h] at q2; cases q2), if_neg hi0]; dsimp only; rw [if_pos hlt1, if_pos (Or.inl hc1)]
                  rw [hst] at HN HSt
                  clear hst
                  go_wp2_with fail
                  with_reducible refine HI.out.mono ?_
                  rintro e w4 ⟨rfl, hb4⟩
                  have B6 := hide (B3.out.trans (hb4.mono B3.out.size))
                  have B7 := hide (bgo BB.out B6.out)
                  obtain ⟨_, y0, y1, y2, y3, y4⟩ := F.out.keep B6.out
                  clear hb4
                  go_wp2
                  go_roundw
                  case rel => exact ⟨i + 1, le, -1, by omega, by go_num, by first | rfl | go_num, by first | rfl | go_num, HN.out, by rw [← HUB.out]; exact HSt.out, B6.out⟩
                  case measure => simp [intOf]; omega
                · by_cases hc2 : mo < 0
                  · have hst : stepN k i (p1, p2) (le, mo) = (le, -1) := by
                      unfold stepN altStep; rw [if_neg (by intro h; rw [h] at q2; cases q2), if_neg hi0]; dsimp only; rw [if_pos hlt1, if_pos (Or.inr hc2)]
                    rw [hst] at HN HSt
                    clear hst
                    go_wp2_with fail
                    with_reducible refine HI.out.mono ?_
                    rintro e w4 ⟨rfl, hb4⟩
                    have B6 := hide (B3.out.trans (hb4.mono B3.out.size))
                    have B7 := hide (bgo BB.out B6.out)
                    obtain ⟨_, y0, y1, y2, y3, y4⟩ := F.out.keep B6.out
                    clear hb4
                    go_wp2
                    go_roundw
                    case rel => exact ⟨i + 1, le, -1, by omega, by go_num, by first | rfl | go_num, by first | rfl | go_num, HN.out, by rw [← HUB.out]; exact HSt.out, B6.out⟩
                    case measure => simp [intOf]; omega
                  · by_cases hc3 : p2 < mo
                    · have hst : stepN k i (p1, p2) (le, mo) = (le, mo) := by
                        unfold stepN altStep; rw [if_neg (by intro h; rw [h] at q2; cases q2), if_neg hi0]; dsimp only; rw [if_pos hlt1, if_neg (by omega), if_pos hc3]
                      rw [hst] at HN HSt
                      clear hst
                      go_wp2_with fail
                      with_reducible refine HI.out.mono ?_
                      rintro e w4 ⟨rfl, hb4⟩
                      have B6 := hide (B3.out.trans (hb4.mono B3.out.size))
                      have B7 := hide (bgo BB.out B6.out)
                      obtain ⟨_, y0, y1, y2, y3, y4⟩ := F.out.keep B6.out
                      clear hb4
                      go_wp2
                      go_roundw
                      case rel => exact ⟨i + 1, le, mo, by omega, by go_num, by first | rfl | go_num, by first | rfl | go_num, HN.out, by rw [← HUB.out]; exact HSt.out, B6.out⟩
                      case measure => simp [intOf]; omega
                    · have hst : stepN k i (p1, p2) (le, mo) = (le, p2) := by
                        unfold stepN altStep; rw [if_neg (by intro h; rw [h] at q2; cases q2), if_neg hi0]; dsimp only; rw [if_pos hlt1, if_neg (by omega), if_neg hc3]
                      rw [hst] at HN HSt
                      clear hst
                      go_wp2_with fail
                      with_reducible refine HI.out.mono ?_
                      rintro e w4 ⟨rfl, hb4⟩
                      have B6 := hide (B3.out.trans (hb4.mono B3.out.size))
                      have B7 := hide (bgo BB.out B6.out)
                      obtain ⟨_, y0, y1, y2, y3, y4⟩ := F.out.keep B6.out
                      clear hb4
                      go_wp2
                      go_roundw
                      case rel => exact ⟨i + 1, le, p2, by omega, by go_num, by first | rfl | go_num, by first | rfl | go_num, HN.out, by rw [← HUB.out]; exact HSt.out, B6.out⟩
                      case measure => simp [intOf]; omega
              · by_cases hc1 : p2 < 0
                · have hst : stepN k i (p1, p2) (le, mo) = (p1, -1) := by
                    unfold stepN altStep; rw [if_neg (by intro h; rw [h] at q2; cases q2), if_neg hi0]; dsimp only; rw [if_neg hlt1, if_pos (Or.inl hc1)]
                  rw [hst] at HN HSt
                  clear hst
                  go_wp2_with fail
                  with_reducible refine HI.out.mono ?_
                  rintro e w4 ⟨rfl, hb4⟩
                  have B6 := hide (B3.out.trans (hb4.mono B3.out.size))
                  have B7 := hide (bgo BB.out B6.out)
                  obtain ⟨_, y0, y1, y2, y3, y4⟩ := F.out.keep B6.out
                  clear hb4
                  go_wp2
                  go_roundw
                  case rel => exact ⟨i + 1, p1, -1, by omega, by go_num, by first | rfl | go_num, by first | rfl | go_num, HN.out, by rw [← HUB.out]; exact HSt.out, B6.out⟩
                  case measure => simp [intOf]; omega
                · by_cases hc2 : mo < 0
                  · have hst : stepN k i (p1, p2) (le, mo) = (p1, -1) := by
                      unfold stepN altStep; rw [if_neg (by intro h; rw [h] at q2; cases q2), if_neg hi0]; dsimp only; rw [if_neg hlt1, if_pos (Or.inr hc2)]
                    rw [hst] at HN HSt
                    clear hst
                    go_wp2_with fail
                    with_reducible refine HI.out.mono ?_
                    rintro e w4 ⟨rfl, hb4⟩
                    have B6 := hide (B3.out.trans (hb4.mono B3.out.size))
                    have B7 := hide (bgo BB.out B6.out)
                    obtain ⟨_, y0, y1, y2, y3, y4⟩ := F.out.keep B6.out
                    clear hb4
                    go_wp2
                    go_roundw
                    case rel => exact ⟨i + 1, p1, -1, by omega, by go_num, by first | rfl | go_num, by first | rfl | go_num, HN.out, by rw [← HUB.out]; exact HSt.out, B6.out⟩
                    case measure => simp [intOf]; omega
                  · by_cases hc3 : p2 < mo
                    · have hst : stepN k i (p1, p2) (le, mo) = (p1, mo) := by
                        unfold stepN altStep; rw [if_neg (by intro h; rw [h] at q2; cases q2), if_neg hi0]; dsimp only; rw [if_neg hlt1, if_neg (by omega), if_pos hc3]
                      rw [hst] at HN HSt
                      clear hst
                      go_wp2_with fail
                      with_reducible refine HI.out.mono ?_
                      rintro e w4 ⟨rfl, hb4⟩
                      have B6 := hide (B3.out.trans (hb4.mono B3.out.size))
                      have B7 := hide (bgo BB.out B6.out)
                      obtain ⟨_, y0, y1, y2, y3, y4⟩ := F.out.keep B6.out
                      clear hb4
                      go_wp2
                      go_roundw
                      case rel => exact ⟨i + 1, p1, mo, by omega, by go_num, by first | rfl | go_num, by first | rfl | go_num, HN.out, by rw [← HUB.out]; exact HSt.out, B6.out⟩
                      case measure => simp [intOf]; omega
                    · have hst : stepN k i (p1, p2) (le, mo) = (p1, p2) := by
                        unfold stepN altStep; rw [if_neg (by intro h; rw [h] at q2; cases q2), if_neg hi0]; dsimp only; rw [if_neg hlt1, if_neg (by omega), if_neg hc3]
                      rw [hst] at HN HSt
                      clear hst
                      go_wp2_with fail
                      with_reducible refine HI.out.mono ?_
                      rintro e w4 ⟨rfl, hb4⟩
                      have B6 := hide (B3.out.trans (hb4.mono B3.out.size))
                      have B7 := hide (bgo BB.out B6.out)
                      obtain ⟨_, y0, y1, y2, y3, y4⟩ := F.out.keep B6.out
                      clear hb4
                      go_wp2
                      go_roundw
                      case rel => exact ⟨i + 1, p1, p2, by omega, by go_num, by first | rfl | go_num, by first | rfl | go_num, HN.out, by rw [← HUB.out]; exact HSt.out, B6.out⟩
                      case measure => simp [intOf]; omega
          · have hm := HL.out
            rw [List.drop_eq_nil_of_le (by rw [Hlen.out]; omega), lenL] at hm
            obtain ⟨e1, e2⟩ : p1 = R1 ∧ p2 = R2 := ⟨congrArg Prod.fst hm, congrArg Prod.snd hm⟩
            have E1 := hide e1
            have E2 := hide e2
            clear hbel hm e1 e2
            go_wp2
            go_ret2
            exact ⟨ret_two E1.out E2.out, B4.out⟩

end Go.Proofs.YtmiegjefmebpdaaGreatDoor
