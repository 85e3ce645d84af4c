/- Layer 8, the program: NQ, NR, NS, NT, NU. -/
import Derived.Test.YtmiegjefmebpdaaGreatDoorQ4
import Derived.Test.YtmiegjefmebpdaaGreatDoorKP
import Derived.Test.YtmiegjefmebpdaaGreatDoorQ1
import Derived.Test.YtmiegjefmebpdaaGreatDoorKR
namespace Go.Proofs.YtmiegjefmebpdaaGreatDoor
open Go.RowKit

/-! ### NQ -/

/-- An expression, and whether it was read. -/
def PostX (p : Nat) (w : World) (l : List UInt8) (o : Option (Rx × List UInt8)) (e : Ending) (w' : World) : Prop :=
  ∃ (v : Value) (b : Bool) (l' : List UInt8) (x : Rx), e = .returned (.tuple #[v, .bool b]) ∧ RxV w' (fun g => w.heap.size ≤ g) v x ∧ PB w' p l' ∧ Bt p w w' ∧ l'.length ≤ l.length ∧ (∀ y r, o = some (y, r) → b = true ∧ x = y ∧ l' = r) ∧ (o = none → b = false)
def PAltC (n : Nat) : Prop := ∀ (p : Nat) (l : List UInt8) (w : World), PB w p l → l.length ≤ 20000 → 4 * l.length + 4 ≤ n → Calls Tryz.prog 39 #[.pointer (some ⟨p, 0, none⟩)] w (PostX p w l (altP n [] l))
def PSeqC (n : Nat) : Prop := ∀ (p : Nat) (l : List UInt8) (w : World), PB w p l → l.length ≤ 20000 → 4 * l.length + 3 ≤ n → Calls Tryz.prog 54 #[.pointer (some ⟨p, 0, none⟩)] w (PostX p w l (seqP n [] l))
def PItemC (n : Nat) : Prop := ∀ (p : Nat) (l : List UInt8) (w : World), PB w p l → l.length ≤ 20000 → 4 * l.length + 2 ≤ n → Calls Tryz.prog 71 #[.pointer (some ⟨p, 0, none⟩)] w (PostX p w l (itemP n l))
def PAtomC (n : Nat) : Prop := ∀ (p : Nat) (l : List UInt8) (w : World), PB w p l → l.length ≤ 20000 → 4 * l.length + 1 ≤ n → Calls Tryz.prog 88 #[.pointer (some ⟨p, 0, none⟩)] w (PostX p w l (atomP n l))
theorem postX_fin {p : Nat} {w wN : World} {l l' : List UInt8} {o : Option (Rx × List UInt8)} {x : Rx} {b : Bool} {u0 u1 u2 u3 u4 : Value} (hlt : p < w.heap.size) (hp : PB wN p l') (hb : Bt p w wN) (hl : l'.length ≤ l.length)
    (hx : RxV wN (fun g => w.heap.size + 1 ≤ g) (.agg #[u0, u1, u2, u3, u4]) x) (hy : ∀ y r, o = some (y, r) → b = true ∧ x = y ∧ l' = r) (hn : o = none → b = false) :
    PostX p w l o (.returned (.tuple #[.agg #[u0, u1, u2, u3, u4], .bool b])) (put5 wN w.heap.size u0 u1 u2 u3 u4) := by
  have hbl : Below w.heap.size wN (put5 wN w.heap.size u0 u1 u2 u3 u4) := put5_below (Below.refl _ _) (Nat.le_refl _)
  exact ⟨_, b, l', x, rfl, put5_rxv hx (Nat.lt_succ_self _) _ (Nat.le_succ _), (hbl.block p hlt).trans hp, hb.then_below hbl (Nat.le_refl _), hl, hy, hn⟩
/-- What stands in parentheses, where the inside was read. -/
def parP : Option (Rx × List UInt8) → Option (Rx × List UInt8)
  | none => none
  | some (r, m) => if tkB 41 m = true then some (r, tkR 41 m) else none
theorem atom_par {l : List UInt8} (n : Nat) (h : tkB 40 l = true) : atomP (n + 1) l = parP (altP n [] (tkR 40 l)) := by
  cases l with
  | nil => cases h
  | cons c r =>
    have hc : c = 40 := of_decide_eq_true h
    rw [atom_cons, if_pos hc, show tkR 40 (c :: r) = r from if_pos hc]
    cases altP n [] r with
    | none => rfl
    | some q =>
      obtain ⟨y, m⟩ := q
      cases m with
      | nil => rfl
      | cons d m =>
        show (if d = 41 then some (y, m) else none) = if decide (d = 41) = true then some (y, if d = 41 then m else d :: m) else none
        by_cases hd : d = 41
        · rw [if_pos hd, if_pos (decide_eq_true hd), if_pos hd]
        · rw [if_neg hd, if_neg (by simp [hd])]
theorem atom_begin {l : List UInt8} (n : Nat) (h40 : tkB 40 l = false) (h : tkB 94 l = true) : atomP (n + 1) l = some (.mk 5 [] 0 0 [], tkR 94 l) := by
  cases l with
  | nil => cases h
  | cons c r =>
    have hc : c = 94 := of_decide_eq_true h
    rw [show tkR 94 (c :: r) = r from if_pos hc]
    subst hc
    rw [atom_cons]
    rfl
theorem atom_end {l : List UInt8} (n : Nat) (h : tkB 36 l = true) : atomP (n + 1) l = some (.mk 6 [] 0 0 [], tkR 36 l) := by
  cases l with
  | nil => cases h
  | cons c r =>
    have hc : c = 36 := of_decide_eq_true h
    rw [show tkR 36 (c :: r) = r from if_pos hc]
    subst hc
    rw [atom_cons]
    rfl
theorem atom_word {l : List UInt8} (n : Nat) (h : tk2B 98 l = true) : atomP (n + 1) l = some (.mk 7 [] 0 0 [], tk2R 98 l) := by
  unfold tk2R
  rw [if_pos h]
  match l, h with
  | c :: d :: r, h =>
    unfold tk2B at h
    rw [Bool.and_eq_true, decide_eq_true_eq, decide_eq_true_eq] at h
    obtain ⟨rfl, rfl⟩ := h
    rw [atom_cons]
    rfl
theorem tk2_no {d : UInt8} {l : List UInt8} (h : tk2B d l = false) : tk2R d l = l := by unfold tk2R; rw [if_neg (by simp [h])]
theorem tk2R_len (d : UInt8) (l : List UInt8) : (tk2R d l).length ≤ l.length := by
  unfold tk2R
  split
  · rw [List.length_drop]; omega
  · exact Nat.le_refl _
theorem atom_rest {l : List UInt8} (n : Nat) (h40 : tkB 40 l = false) (h94 : tkB 94 l = false) (h36 : tkB 36 l = false) (h98 : tk2B 98 l = false) : atomP (n + 1) l = (setA l).map fun q => (setR q.1, q.2) := by
  cases l with
  | nil => rfl
  | cons c r =>
    refine atom_set n c r (of_decide_eq_false h40) (of_decide_eq_false h94) (of_decide_eq_false h36) ?_
    rintro ⟨rfl, h⟩
    cases r with
    | nil => cases h
    | cons d r =>
      have hd : d = 98 := Option.some.inj h
      subst hd
      cases h98

set_option maxRecDepth 100000 in
set_option maxHeartbeats 12800000 in
theorem atom88 (n : Nat) (hA : PAltC n) : PAtomC (n + 1) := by
  intro p l w h hl hn
  have HA := hide hA
  clear hA
  have hlt := h.lt
  obtain ⟨w0, hw0⟩ : ∃ w0, w.alloc (.cells #[.int .i64 0, .slice none 0 0, .int .i64 0, .int .i64 0, .slice none 0 0] 25) = w0 := ⟨_, rfl⟩
  have HF0 := hide (show FiveF w0 w.heap.size (.int .i64 0) (.slice none 0 0) (.int .i64 0) (.int .i64 0) (.slice none 0 0) by rw [← hw0]; exact fiveF_new w _ _ _ _ _ 25)
  have hb0 : Below w.heap.size w w0 := by rw [← hw0]; exact bnew (Below.refl _ w) _
  have hs0 : w.heap.size + 1 ≤ w0.heap.size := by rw [← hw0]; simp
  have HB0 := hide (Bt.of hb0 p)
  have P0 := hide (h.keep hb0)
  have HT40 := hide (take1 p l 40 w0 P0.out ⟨#[40]⟩ rfl)
  obtain ⟨E, hE⟩ : ∃ E, atomP (n + 1) l = E := ⟨_, rfl⟩
  rw [hE]
  clear h hb0
  cases h40 : tkB 40 l with
  | true =>
    rw [atom_par n h40] at hE
    rw [h40] at HT40
    have hlen := tk_yes h40
    obtain ⟨l1, hl1⟩ : ∃ l1, tkR 40 l = l1 := ⟨_, rfl⟩
    rw [hl1] at HT40 hlen hE
    have HAl := hide (fun W (h : PB W p l1) => HA.out p l1 W h (by omega) (by omega))
    obtain ⟨o, ho⟩ : ∃ o, altP n [] l1 = o := ⟨_, rfl⟩
    rw [ho] at HAl hE
    have HE := hide hE
    clear hE ho hl1 h40
    go_enter Tryz.func88, Tryz.ntmps88
    go_wp2_with fail
    with_reducible refine HT40.out.mono ?_
    rintro e w1 ⟨rfl, hp1, hb1⟩
    have hs1 := hb1.size
    have P1 := hide hp1
    have F1 := hide (HF0.out.bt hb1 (by omega))
    have B1 := hide (HB0.out.trans hb1)
    clear hp1 hb1
    go_wp2_with fail
    with_reducible refine (HAl.out w1 P1.out).mono ?_
    rintro e w3 ⟨v3, b3, l3, x3, rfl, hx3, hp3, hb3, hl3, hy3, hn3⟩
    obtain ⟨q0, qA, qn, qc, q1, q2, qB, qm, qd, rfl⟩ := hx3.agg9
    have hs3 := hb3.size
    have F3 := F1.out.bt hb3 (by omega)
    obtain ⟨w4, hw4⟩ : ∃ w4, w3.alloc (.cells #[.int .i64 q0, .slice qA qn qc, .int .i64 q1, .int .i64 q2, .slice qB qm qd] 25) = w4 := ⟨_, rfl⟩
    have hb4 : Below w3.heap.size w3 w4 := by rw [← hw4]; exact bnew (Below.refl _ w3) _
    have hs4 : w4.heap.size = w3.heap.size + 1 := by rw [← hw4]; simp
    have G4 := hide (show Five w4 w3.heap.size (.int .i64 q0) (.slice qA qn qc) (.int .i64 q1) (.int .i64 q2) (.slice qB qm qd) by rw [← hw4]; exact five_new w3 _ _ _ _ _ 25)
    have F4 := hide (F3.at_ hb4 (by omega))
    have P4 := hide (hp3.keep hb4)
    have B4 := hide ((B1.out.trans hb3).trans (Bt.of hb4 p))
    have X4 := hide ((hx3.map (fun q hq hqlt => (hb4.cell hqlt)) (fun g hg _ => (⟨hg, Nat.le_trans hs0 (Nat.le_trans hs1 hg)⟩ : w1.heap.size ≤ g ∧ w.heap.size + 1 ≤ g))))
    have HT41 := hide (fun W (h : PB W p l3) => take1 p l3 41 W h ⟨#[41]⟩ rfl)
    have hr3 := tkR_len 41 l3
    have Hl3 := hide (show (tkR 41 l3).length ≤ l.length by omega)
    have HF := hide (show (∀ y r, E = some (y, r) → b3 = true ∧ tkB 41 l3 = true ∧ x3 = y ∧ tkR 41 l3 = r) ∧ (E = none → (b3 && tkB 41 l3) = false) by
      rw [← HE.out]
      cases o with
      | none => exact ⟨fun y r h => (by cases h), fun _ => (by rw [hn3 rfl]; rfl)⟩
      | some q =>
        obtain ⟨y0, m0⟩ := q
        obtain ⟨e1, e2, e3⟩ := hy3 y0 m0 rfl
        subst e2 e3
        show (∀ y r, (if tkB 41 l3 = true then some (x3, tkR 41 l3) else none) = some (y, r) → _) ∧ ((if tkB 41 l3 = true then some (x3, tkR 41 l3) else none) = none → _)
        by_cases ht : tkB 41 l3 = true
        · rw [if_pos ht]
          exact ⟨fun y r h => (by cases h; exact ⟨e1, ht, rfl, rfl⟩), fun h => (by cases h)⟩
        · rw [if_neg ht]
          exact ⟨fun y r h => (by cases h), fun _ => (by rw [Bool.eq_false_iff.2 ht, Bool.and_false])⟩)
    have hpw : p < w3.heap.size := by omega
    clear hx3 hp3 hb3 hl3 hy3 hn3 F3 hb4 hr3 hlen hl hn
    have g4 := G4.out
    obtain ⟨-, a0, a1, a2, a3, a4⟩ := g4
    obtain ⟨tt, htt⟩ : ∃ tt, tkB 41 l3 = tt := ⟨_, rfl⟩
    obtain ⟨l5, hl5⟩ : ∃ l5, tkR 41 l3 = l5 := ⟨_, rfl⟩
    rw [htt, hl5] at HT41 HF
    rw [hl5] at Hl3
    clear htt hl5
    have Pd := hide (show PB w4.drew p l3 from P4.out)
    have Fd := hide (F4.out.at_ (Drawn.below ⟨1, rfl⟩ w4.heap.size : Below w4.heap.size w4 w4.drew) (by omega))
    have Gd := hide (show Five w4.drew w3.heap.size (.int .i64 q0) (.slice qA qn qc) (.int .i64 q1) (.int .i64 q2) (.slice qB qm qd) from G4.out)
    have Bd := hide (B4.out.trans (Bt.of (Drawn.below ⟨1, rfl⟩ w4.heap.size : Below w4.heap.size w4 w4.drew) p))
    have Xd := hide (X4.out.map (W' := w4.drew) (fun _ _ _ => rfl) (fun g hg _ => (⟨by have := hg.1; omega, hg.2⟩ : g ≠ p ∧ w.heap.size + 1 ≤ g)))
    clear G4 F4 P4 B4 X4
    cases tt with
    | true =>
      cases b3 with
      | true =>
        go_upto_region 3 with (fail)
        clear hw4
        go_region_with (first
          | (go_at_call 55; (with_reducible refine (HT41.out _ Pd.out).mono ?_); rintro e w9 ⟨rfl, hp9, hb9⟩; have F9 := Fd.out.bt hb9 (by omega); have G9 := Gd.out.bt hb9 (by omega); have B9 := hide (Bd.out.trans hb9); have P9 := hide hp9; have X9 := hide (Xd.out.map (fun q hq hlt => hb9.cell hlt hq.1) (fun g hg _ => hg.2)); have H9 := hide F9; obtain ⟨-, g1, g2, g3, g4, g5⟩ := G9; obtain ⟨⟨-, f1, f2, f3, f4, f5⟩, f6, f7, f8, f9, f10⟩ := F9))
        all_goals
          go_wp2
          exact bodyPost_ret (res_two (fn := Tryz.f88) (p := 2) (u := 3) rfl _ _ w.heap.size _ _ _ _ _ (.bool true) rfl rfl (put5_five H9.out (.int .i64 q0) (.slice qA qn qc) (.int .i64 q1) (.int .i64 q2) (.slice qB qm qd))) rfl (postX_fin hlt P9.out B9.out Hl3.out X9.out (fun y r h => ⟨rfl, (HF.out.1 y r h).2.2⟩) (fun h => absurd (HF.out.2 h) (by simp)))
      | false =>
        go_upto_region 3 with (fail)
        clear hw4
        go_region_with (first
          | (go_at_call 55; (with_reducible refine (HT41.out _ Pd.out).mono ?_); rintro e w9 ⟨rfl, hp9, hb9⟩; have F9 := Fd.out.bt hb9 (by omega); have G9 := Gd.out.bt hb9 (by omega); have B9 := hide (Bd.out.trans hb9); have P9 := hide hp9; have X9 := hide (Xd.out.map (fun q hq hlt => hb9.cell hlt hq.1) (fun g hg _ => hg.2)); have H9 := hide F9; obtain ⟨-, g1, g2, g3, g4, g5⟩ := G9; obtain ⟨⟨-, f1, f2, f3, f4, f5⟩, f6, f7, f8, f9, f10⟩ := F9))
        all_goals
          go_wp2
          exact bodyPost_ret (res_two (fn := Tryz.f88) (p := 2) (u := 3) rfl _ _ w.heap.size _ _ _ _ _ (.bool false) rfl rfl (put5_five H9.out (.int .i64 q0) (.slice qA qn qc) (.int .i64 q1) (.int .i64 q2) (.slice qB qm qd))) rfl (postX_fin hlt P9.out B9.out Hl3.out X9.out (fun y r h => absurd (HF.out.1 y r h).1 (by simp)) (fun _ => rfl))
    | false =>
      cases b3 with
      | true =>
        go_upto_region 3 with (fail)
        clear hw4
        first
          | (go_region_with (first | (go_at_call 55; (with_reducible refine (HT41.out _ Pd.out).mono ?_); rintro e w9 ⟨rfl, hp9, hb9⟩; have F9 := Fd.out.bt hb9 (by omega); have G9 := Gd.out.bt hb9 (by omega); have B9 := hide (Bd.out.trans hb9); have P9 := hide hp9; have X9 := hide (Xd.out.map (fun q hq hlt => hb9.cell hlt hq.1) (fun g hg _ => hg.2)); have H9 := hide F9; obtain ⟨-, g1, g2, g3, g4, g5⟩ := G9; obtain ⟨⟨-, f1, f2, f3, f4, f5⟩, f6, f7, f8, f9, f10⟩ := F9)))
          | fail
        all_goals
          go_wp2
          exact bodyPost_ret (res_two (fn := Tryz.f88) (p := 2) (u := 3) rfl _ _ w.heap.size _ _ _ _ _ (.bool false) rfl rfl (put5_five H9.out (.int .i64 q0) (.slice qA qn qc) (.int .i64 q1) (.int .i64 q2) (.slice qB qm qd))) rfl (postX_fin hlt P9.out B9.out Hl3.out X9.out (fun y r h => absurd (HF.out.1 y r h).2.1 (by simp)) (fun _ => rfl))
      | false =>
        go_upto_region 3 with (fail)
        clear hw4
        first
          | (go_region_with (first | (go_at_call 55; (with_reducible refine (HT41.out _ Pd.out).mono ?_); rintro e w9 ⟨rfl, hp9, hb9⟩; have F9 := Fd.out.bt hb9 (by omega); have G9 := Gd.out.bt hb9 (by omega); have B9 := hide (Bd.out.trans hb9); have P9 := hide hp9; have X9 := hide (Xd.out.map (fun q hq hlt => hb9.cell hlt hq.1) (fun g hg _ => hg.2)); have H9 := hide F9; obtain ⟨-, g1, g2, g3, g4, g5⟩ := G9; obtain ⟨⟨-, f1, f2, f3, f4, f5⟩, f6, f7, f8, f9, f10⟩ := F9)))
          | fail
        all_goals
          go_wp2
          exact bodyPost_ret (res_two (fn := Tryz.f88) (p := 2) (u := 3) rfl _ _ w.heap.size _ _ _ _ _ (.bool false) rfl rfl (put5_five H9.out (.int .i64 q0) (.slice qA qn qc) (.int .i64 q1) (.int .i64 q2) (.slice qB qm qd))) rfl (postX_fin hlt P9.out B9.out Hl3.out X9.out (fun y r h => absurd (HF.out.1 y r h).2.1 (by simp)) (fun _ => rfl))
  | false =>
    rw [h40, tk_no h40] at HT40
    have HT94 := hide (fun W (h : PB W p l) => take1 p l 94 W h ⟨#[94]⟩ rfl)
    cases h94 : tkB 94 l with
    | true =>
      rw [atom_begin n h40 h94] at hE
      rw [h94] at HT94
      have Hlen := hide (tkR_len 94 l)
      have HE := hide hE
      clear hE h40 h94
      obtain ⟨l5, hl5⟩ : ∃ l5, tkR 94 l = l5 := ⟨_, rfl⟩
      rw [hl5] at HT94 Hlen HE
      clear hl5
      go_enter Tryz.func88, Tryz.ntmps88
      go_wp2_with fail
      with_reducible refine HT40.out.mono ?_
      rintro e w1 ⟨rfl, hp1, hb1⟩
      have hs1 := hb1.size
      have P1 := hide hp1
      have F1 := hide (HF0.out.bt hb1 (by omega))
      have B1 := hide (HB0.out.trans hb1)
      clear hp1 hb1
      go_wp2_with fail
      with_reducible refine (HT94.out w1 P1.out).mono ?_
      rintro e w2 ⟨rfl, hp2, hb2⟩
      have hs2 := hb2.size
      have P2 := hide hp2
      have F2 := hide (F1.out.bt hb2 (by omega))
      have B2 := hide (B1.out.trans hb2)
      clear hp2 hb2
      have H9 := F2
      obtain ⟨⟨-, f1, f2, f3, f4, f5⟩, f6, f7, f8, f9, f10⟩ := F2.out
      go_wp2
      exact bodyPost_ret (res_two rfl _ _ w.heap.size _ _ _ _ _ _ rfl rfl (put5_five H9.out (.int .i64 5) (.slice none 0 0) (.int .i64 0) (.int .i64 0) (.slice none 0 0))) rfl (postX_fin hlt P2.out B2.out Hlen.out (rxv_kind 5 (by omega)) (fun y r h => by rw [← HE.out] at h; cases h; exact ⟨rfl, rfl, rfl⟩) (fun h => by rw [← HE.out] at h; cases h))
    | false =>
      rw [h94, tk_no h94] at HT94
      have HT36 := hide (fun W (h : PB W p l) => take1 p l 36 W h ⟨#[36]⟩ rfl)
      cases h36 : tkB 36 l with
      | true =>
        rw [atom_end n h36] at hE
        rw [h36] at HT36
        have Hlen := hide (tkR_len 36 l)
        have HE := hide hE
        clear hE h40 h94 h36
        obtain ⟨l5, hl5⟩ : ∃ l5, tkR 36 l = l5 := ⟨_, rfl⟩
        rw [hl5] at HT36 Hlen HE
        clear hl5
        go_enter Tryz.func88, Tryz.ntmps88
        go_wp2_with fail
        with_reducible refine HT40.out.mono ?_
        rintro e w1 ⟨rfl, hp1, hb1⟩
        have hs1 := hb1.size
        have P1 := hide hp1
        have F1 := hide (HF0.out.bt hb1 (by omega))
        have B1 := hide (HB0.out.trans hb1)
        clear hp1 hb1
        go_wp2_with fail
        with_reducible refine (HT94.out w1 P1.out).mono ?_
        rintro e w2 ⟨rfl, hp2, hb2⟩
        have hs2 := hb2.size
        have P2 := hide hp2
        have F2 := hide (F1.out.bt hb2 (by omega))
        have B2 := hide (B1.out.trans hb2)
        clear hp2 hb2
        go_wp2_with fail
        with_reducible refine (HT36.out w2 P2.out).mono ?_
        rintro e w3 ⟨rfl, hp3, hb3⟩
        have hs3 := hb3.size
        have P3 := hide hp3
        have F3 := hide (F2.out.bt hb3 (by omega))
        have B3 := hide (B2.out.trans hb3)
        clear hp3 hb3
        have H9 := F3
        obtain ⟨⟨-, f1, f2, f3, f4, f5⟩, f6, f7, f8, f9, f10⟩ := F3.out
        go_wp2
        exact bodyPost_ret (res_two rfl _ _ w.heap.size _ _ _ _ _ _ rfl rfl (put5_five H9.out (.int .i64 6) (.slice none 0 0) (.int .i64 0) (.int .i64 0) (.slice none 0 0))) rfl (postX_fin hlt P3.out B3.out Hlen.out (rxv_kind 6 (by omega)) (fun y r h => by rw [← HE.out] at h; cases h; exact ⟨rfl, rfl, rfl⟩) (fun h => by rw [← HE.out] at h; cases h))
      | false =>
        rw [h36, tk_no h36] at HT36
        have HT98 := hide (fun W (h : PB W p l) => take2 p l 98 W h ⟨#[92, 98]⟩ rfl)
        cases h98 : tk2B 98 l with
        | true =>
          rw [atom_word n h98] at hE
          rw [h98] at HT98
          have Hlen := hide (tk2R_len 98 l)
          have HE := hide hE
          clear hE h40 h94 h36 h98
          obtain ⟨l5, hl5⟩ : ∃ l5, tk2R 98 l = l5 := ⟨_, rfl⟩
          rw [hl5] at HT98 Hlen HE
          clear hl5
          go_enter Tryz.func88, Tryz.ntmps88
          go_wp2_with fail
          with_reducible refine HT40.out.mono ?_
          rintro e w1 ⟨rfl, hp1, hb1⟩
          have hs1 := hb1.size
          have P1 := hide hp1
          have F1 := hide (HF0.out.bt hb1 (by omega))
          have B1 := hide (HB0.out.trans hb1)
          clear hp1 hb1
          go_wp2_with fail
          with_reducible refine (HT94.out w1 P1.out).mono ?_
          rintro e w2 ⟨rfl, hp2, hb2⟩
          have hs2 := hb2.size
          have P2 := hide hp2
          have F2 := hide (F1.out.bt hb2 (by omega))
          have B2 := hide (B1.out.trans hb2)
          clear hp2 hb2
          go_wp2_with fail
          with_reducible refine (HT36.out w2 P2.out).mono ?_
          rintro e w3 ⟨rfl, hp3, hb3⟩
          have hs3 := hb3.size
          have P3 := hide hp3
          have F3 := hide (F2.out.bt hb3 (by omega))
          have B3 := hide (B2.out.trans hb3)
          clear hp3 hb3
          go_wp2_with fail
          with_reducible refine (HT98.out w3 P3.out).mono ?_
          rintro e w4 ⟨rfl, hp4, hb4⟩
          have hs4 := hb4.size
          have P4 := hide hp4
          have F4 := hide (F3.out.bt hb4 (by omega))
          have B4 := hide (B3.out.trans hb4)
          clear hp4 hb4
          have H9 := F4
          obtain ⟨⟨-, f1, f2, f3, f4, f5⟩, f6, f7, f8, f9, f10⟩ := F4.out
          go_wp2
          exact bodyPost_ret (res_two rfl _ _ w.heap.size _ _ _ _ _ _ rfl rfl (put5_five H9.out (.int .i64 7) (.slice none 0 0) (.int .i64 0) (.int .i64 0) (.slice none 0 0))) rfl (postX_fin hlt P4.out B4.out Hlen.out (rxv_kind 7 (by omega)) (fun y r h => by rw [← HE.out] at h; cases h; exact ⟨rfl, rfl, rfl⟩) (fun h => by rw [← HE.out] at h; cases h))
        | false =>
          rw [h98, tk2_no h98] at HT98
          rw [atom_rest n h40 h94 h36 h98] at hE
          have HS := hide (fun W (h : PB W p l) => set100 p l W h hl)
          obtain ⟨o, ho⟩ : ∃ o, setA l = o := ⟨_, rfl⟩
          rw [ho] at HS hE
          have HE := hide hE
          clear hE h40 h94 h36 h98 ho
          go_enter Tryz.func88, Tryz.ntmps88
          go_wp2_with fail
          with_reducible refine HT40.out.mono ?_
          rintro e w1 ⟨rfl, hp1, hb1⟩
          have hs1 := hb1.size
          have P1 := hide hp1
          have F1 := hide (HF0.out.bt hb1 (by omega))
          have B1 := hide (HB0.out.trans hb1)
          clear hp1 hb1
          go_wp2_with fail
          with_reducible refine (HT94.out w1 P1.out).mono ?_
          rintro e w2 ⟨rfl, hp2, hb2⟩
          have hs2 := hb2.size
          have P2 := hide hp2
          have F2 := hide (F1.out.bt hb2 (by omega))
          have B2 := hide (B1.out.trans hb2)
          clear hp2 hb2
          go_wp2_with fail
          with_reducible refine (HT36.out w2 P2.out).mono ?_
          rintro e w3 ⟨rfl, hp3, hb3⟩
          have hs3 := hb3.size
          have P3 := hide hp3
          have F3 := hide (F2.out.bt hb3 (by omega))
          have B3 := hide (B2.out.trans hb3)
          clear hp3 hb3
          go_wp2_with fail
          with_reducible refine (HT98.out w3 P3.out).mono ?_
          rintro e w4 ⟨rfl, hp4, hb4⟩
          have hs4 := hb4.size
          have P4 := hide hp4
          have F4 := hide (F3.out.bt hb4 (by omega))
          have B4 := hide (B3.out.trans hb4)
          clear hp4 hb4
          go_wp2_with fail
          with_reducible refine (HS.out w4 P4.out).mono ?_
          rintro e w5 ⟨A, m, c, b, set, l', rfl, hS5, hp5, hb5, hl5, hy5, hn5⟩
          have hs5 := hb5.size
          have P5 := hide hp5
          have F5 := hide (F4.out.bt hb5 (by omega))
          have B5 := hide (B4.out.trans hb5)
          clear hp5 hb5
          have S5 := hide (hS5.map (fun _ _ _ => rfl) (fun g hg _ => (Nat.le_trans (Nat.le_trans hs0 (Nat.le_trans hs1 (Nat.le_trans hs2 (Nat.le_trans hs3 hs4)))) hg : w.heap.size + 1 ≤ g)))
          have Hlen := hide hl5
          have HF := hide (show (∀ y r, E = some (y, r) → b = true ∧ setR set = y ∧ l' = r) ∧ (E = none → b = false) by
            rw [← HE.out]
            cases o with
            | none => exact ⟨fun y r h => (by cases h), fun _ => hn5 rfl⟩
            | some q =>
              obtain ⟨h1, h2, h3⟩ := hy5 q.1 q.2 rfl
              exact ⟨fun y r h => (by cases h; exact ⟨h1, by rw [h2], h3⟩), fun h => (by cases h)⟩)
          clear hS5 hl5 hy5 hn5
          have H9 := F5
          obtain ⟨⟨-, f1, f2, f3, f4, f5⟩, f6, f7, f8, f9, f10⟩ := F5.out
          go_wp2
          exact bodyPost_ret (res_two (fn := Tryz.f88) (p := 2) (u := 3) rfl _ _ w.heap.size _ _ _ _ _ (.bool b) rfl rfl (put5_five H9.out (.int .i64 1) (.slice A m c) (.int .i64 0) (.int .i64 0) (.slice none 0 0))) rfl (postX_fin hlt P5.out B5.out Hlen.out (rxv_set S5.out) HF.out.1 HF.out.2)

/-! ### NR -/

theorem suf_tk (x : Rx) (l : List UInt8) : suffixP x l = if tkB 42 l = true then some (repS x 0 (-1), tkR 42 l) else if tkB 43 l = true then some (repS x 1 (-1), tkR 43 l) else if tkB 63 l = true then some (repS x 0 1, tkR 63 l) else
    if tkB 123 l = true then (match boundsS (tkR 123 l) with | some (m, n, l') => some (repS x m n, l') | none => none) else some (x, l) := by
  cases l with
  | nil => rfl
  | cons c r =>
    have key : ∀ d : UInt8, (tkB d (c :: r) = true ↔ c = d) ∧ (c = d → tkR d (c :: r) = r) := fun d => ⟨decide_eq_true_iff, fun h => if_pos h⟩
    show (if c = 42 then some (repS x 0 (-1), r) else if c = 43 then some (repS x 1 (-1), r) else if c = 63 then some (repS x 0 1, r) else if c = 123 then (match boundsS r with | some (m, n, l') => some (repS x m n, l') | none => none) else some (x, c :: r)) = _
    by_cases h1 : c = 42
    · rw [if_pos h1, if_pos ((key 42).1.2 h1), (key 42).2 h1]
    rw [if_neg h1, if_neg (fun h => h1 ((key 42).1.1 h))]
    by_cases h2 : c = 43
    · rw [if_pos h2, if_pos ((key 43).1.2 h2), (key 43).2 h2]
    rw [if_neg h2, if_neg (fun h => h2 ((key 43).1.1 h))]
    by_cases h3 : c = 63
    · rw [if_pos h3, if_pos ((key 63).1.2 h3), (key 63).2 h3]
    rw [if_neg h3, if_neg (fun h => h3 ((key 63).1.1 h))]
    by_cases h4 : c = 123
    · rw [if_pos h4, if_pos ((key 123).1.2 h4), (key 123).2 h4]
    rw [if_neg h4, if_neg (fun h => h4 ((key 123).1.1 h))]
theorem item_step (n : Nat) (l : List UInt8) : itemP (n + 1) l = match atomP n l with | some (r, l') => suffixP r l' | none => none := rfl

theorem fiveF_set2 {w : World} {b : Nat} {c0 c1 c2 c3 c4 : Value} (h : FiveF w b c0 c1 c2 c3 c4) (u : Value) : FiveF (w.setCell ⟨b, 2, none⟩ u) b c0 c1 u c3 c4 := by
  obtain ⟨⟨h0, h1, h2, h3, h4, h5⟩, f0, f1, f2, f3, f4⟩ := h
  refine ⟨⟨by simpa [World.setCell] using h0, ?_, ?_, ?_, ?_, ?_⟩, by rw [World.frozen?_setCell]; exact f0, by rw [World.frozen?_setCell]; exact f1, by rw [World.frozen?_setCell]; exact f2, by rw [World.frozen?_setCell]; exact f3, by rw [World.frozen?_setCell]; exact f4⟩
  · rw [set_off _ _ _ _ _ (by decide)]; exact h1
  · rw [set_off _ _ _ _ _ (by decide)]; exact h2
  · exact World.cell?_setCell_same _ _ _ h3
  · rw [set_off _ _ _ _ _ (by decide)]; exact h4
  · rw [set_off _ _ _ _ _ (by decide)]; exact h5
theorem fiveF_set3 {w : World} {b : Nat} {c0 c1 c2 c3 c4 : Value} (h : FiveF w b c0 c1 c2 c3 c4) (u : Value) : FiveF (w.setCell ⟨b, 3, none⟩ u) b c0 c1 c2 u c4 := by
  obtain ⟨⟨h0, h1, h2, h3, h4, h5⟩, f0, f1, f2, f3, f4⟩ := h
  refine ⟨⟨by simpa [World.setCell] using h0, ?_, ?_, ?_, ?_, ?_⟩, by rw [World.frozen?_setCell]; exact f0, by rw [World.frozen?_setCell]; exact f1, by rw [World.frozen?_setCell]; exact f2, by rw [World.frozen?_setCell]; exact f3, by rw [World.frozen?_setCell]; exact f4⟩
  · rw [set_off _ _ _ _ _ (by decide)]; exact h1
  · rw [set_off _ _ _ _ _ (by decide)]; exact h2
  · rw [set_off _ _ _ _ _ (by decide)]; exact h3
  · exact World.cell?_setCell_same _ _ _ h4
  · rw [set_off _ _ _ _ _ (by decide)]; exact h5
/-- What an item's call keeps: its result's box, the atom's box, the repetition's box, the parser. -/
structure ItS (p : Nat) (w w4 W : World) (b2 b4 b6 : Nat) (m : List UInt8) (d0 d1 d2 d3 d4 c0 c1 c2 c3 c4 : Value) : Prop where
  F : FiveF W b2 (.int .i64 0) (.slice none 0 0) (.int .i64 0) (.int .i64 0) (.slice none 0 0)
  G : Five W b4 d0 d1 d2 d3 d4
  S : FiveF W b6 c0 c1 c2 c3 c4
  P : PB W p m
  B : Bt p w W
  H : ∀ q : Addr, q.block < w4.heap.size → q.block ≠ p → q.block ≠ b6 → W.cell? q = w4.cell? q
  sz : w4.heap.size ≤ W.heap.size
theorem ItS.call {p : Nat} {w w4 W W' : World} {b2 b4 b6 : Nat} {m m' : List UInt8} {d0 d1 d2 d3 d4 c0 c1 c2 c3 c4 : Value} (h : ItS p w w4 W b2 b4 b6 m d0 d1 d2 d3 d4 c0 c1 c2 c3 c4) (hp : PB W' p m') (hb : Bt p W W') (n2 : b2 ≠ p) (n4 : b4 ≠ p) (n6 : b6 ≠ p) : ItS p w w4 W' b2 b4 b6 m' d0 d1 d2 d3 d4 c0 c1 c2 c3 c4 :=
  ⟨h.F.bt hb n2, h.G.bt hb n4, h.S.bt hb n6, hp, h.B.trans hb, fun q hq h1 h2 => (hb.cell (Nat.lt_of_lt_of_le hq h.sz) h1).trans (h.H q hq h1 h2), Nat.le_trans h.sz hb.size⟩
theorem ItS.set {p : Nat} {w w4 W W' : World} {b2 b4 b6 : Nat} {m : List UInt8} {d0 d1 d2 d3 d4 c0 c1 c2 c3 c4 e0 e1 e2 e3 e4 : Value} (h : ItS p w w4 W b2 b4 b6 m d0 d1 d2 d3 d4 c0 c1 c2 c3 c4) (o : Nat) (u : Value) (hW : W' = W.setCell ⟨b6, o, none⟩ u) (hS : FiveF W' b6 e0 e1 e2 e3 e4) (n2 : b2 < b6) (n4 : b4 < b6) (np : p < b6) (hw : w.heap.size ≤ b6) : ItS p w w4 W' b2 b4 b6 m d0 d1 d2 d3 d4 e0 e1 e2 e3 e4 := by
  have hb : Below b6 W W' := by rw [hW]; exact (Below.refl b6 W).setCell (by exact Nat.le_refl _) _
  obtain ⟨g0, g1, g2, g3, g4, g5⟩ := h.G
  have key : ∀ (k : Nat) (u : Value), W.cell? ⟨b4, k, none⟩ = some u → W'.cell? ⟨b4, k, none⟩ = some u := fun k u hu => (hb.cell (p := ⟨b4, k, none⟩) n4).trans hu
  exact ⟨h.F.at_ hb n2, ⟨Nat.lt_of_lt_of_le g0 hb.size, key _ _ g1, key _ _ g2, key _ _ g3, key _ _ g4, key _ _ g5⟩, hS, (hb.block p np).trans h.P, h.B.then_below hb hw,
    fun q hq h1 h2 => (by rw [hW]; exact World.cell?_setCell_other _ _ _ _ (fun e => h2 (congrArg Addr.block e).symm) : W'.cell? q = W.cell? q).trans (h.H q hq h1 h2), Nat.le_trans h.sz hb.size⟩

set_option maxRecDepth 100000 in
set_option maxHeartbeats 12800000 in
theorem item71 (n : Nat) (hA : PAtomC n) : PItemC (n + 1) := by
  intro p l w h hl hn
  have hlt := h.lt
  obtain ⟨w0, hw0⟩ : ∃ w0, w.alloc (.cells #[.int .i64 0, .slice none 0 0, .int .i64 0, .int .i64 0, .slice none 0 0] 25) = w0 := ⟨_, rfl⟩
  have HF0 := hide (show FiveF w0 w.heap.size (.int .i64 0) (.slice none 0 0) (.int .i64 0) (.int .i64 0) (.slice none 0 0) by rw [← hw0]; exact fiveF_new w _ _ _ _ _ 25)
  have hb0 : Below w.heap.size w w0 := by rw [← hw0]; exact bnew (Below.refl _ w) _
  have hs0 : w.heap.size + 1 ≤ w0.heap.size := by rw [← hw0]; simp
  have HB0 := hide (Bt.of hb0 p)
  have P0 := hide (h.keep hb0)
  have HA0 := hide (hA p l w0 P0.out hl (by omega))
  obtain ⟨E, hE⟩ : ∃ E, itemP (n + 1) l = E := ⟨_, rfl⟩
  rw [hE]
  rw [item_step] at hE
  obtain ⟨o, ho⟩ : ∃ o, atomP n l = o := ⟨_, rfl⟩
  rw [ho] at HA0 hE
  have HE := hide hE
  clear h hb0 hA hE ho
  go_enter Tryz.func71, Tryz.ntmps71
  go_wp2_with fail
  with_reducible refine HA0.out.mono ?_
  rintro e w1 ⟨v1, b1, l1, x1, rfl, hx1, hp1, hb1, hl1, hy1, hn1⟩
  obtain ⟨q0, qA, qn, qc, q1, q2, qB, qm, qd, rfl⟩ := hx1.agg9
  have hs1 := hb1.size
  obtain ⟨w2, hw2⟩ : ∃ w2, w1.alloc (.cells #[.int .i64 q0, .slice qA qn qc, .int .i64 q1, .int .i64 q2, .slice qB qm qd] 25) = w2 := ⟨_, rfl⟩
  have hb2 : Below w1.heap.size w1 w2 := by rw [← hw2]; exact bnew (Below.refl _ w1) _
  have hs2 : w2.heap.size = w1.heap.size + 1 := by rw [← hw2]; simp
  have g2 : Five w2 w1.heap.size (.int .i64 q0) (.slice qA qn qc) (.int .i64 q1) (.int .i64 q2) (.slice qB qm qd) := by rw [← hw2]; exact five_new w1 _ _ _ _ _ 25
  have x2 : RxV w2 (fun g => w0.heap.size ≤ g) (.agg #[.int .i64 q0, .slice qA qn qc, .int .i64 q1, .int .i64 q2, .slice qB qm qd]) x1 := hx1.map (fun q _ hq => hb2.cell hq) (fun g hg _ => hg)
  have p2 := hp1.keep hb2
  have F2 := hide ((HF0.out.bt hb1 (by omega)).at_ hb2 (by omega))
  have B2 := hide ((HB0.out.trans hb1).trans (Bt.of hb2 p))
  cases b1 with
  | false =>
    have hnone : E = none := by
      rw [← HE.out]
      cases o with
      | none => rfl
      | some q => exact absurd (hy1 q.1 q.2 rfl).1 (by simp)
    have HEn := hide hnone
    have P2 := hide p2
    have Hl := hide hl1
    clear hx1 hp1 hb1 hy1 hn1 hb2 hs2 g2 x2 p2 hl1 hnone
    obtain ⟨⟨-, f1, f2, f3, f4, f5⟩, f6, f7, f8, f9, f10⟩ := F2.out
    go_wp2
    exact bodyPost_ret (res_two (fn := Tryz.f71) (p := 2) (u := 3) rfl _ _ w.heap.size _ _ _ _ _ (.bool false) rfl rfl (put5_five F2.out (.int .i64 0) (.slice none 0 0) (.int .i64 0) (.int .i64 0) (.slice none 0 0))) rfl (postX_fin hlt P2.out B2.out Hl.out rxv_zero (fun y r h => by rw [HEn.out] at h; cases h) (fun _ => rfl))
  | true =>
    have hE2 : suffixP x1 l1 = E := by
      rw [← HE.out]
      cases o with
      | none => exact absurd (hn1 rfl) (by simp)
      | some q =>
        obtain ⟨_, h1, h2⟩ := hy1 q.1 q.2 rfl
        rw [h1, h2]
    rw [suf_tk] at hE2
    have HE2 := hide hE2
    obtain ⟨w3, hw3⟩ : ∃ w3, w2.alloc (.cells #[.int .i64 q0, .slice qA qn qc, .int .i64 q1, .int .i64 q2, .slice qB qm qd] 25) = w3 := ⟨_, rfl⟩
    have hb3 : Below w2.heap.size w2 w3 := by rw [← hw3]; exact bnew (Below.refl _ w2) _
    have hs3 : w3.heap.size = w2.heap.size + 1 := by rw [← hw3]; simp
    obtain ⟨w4, hw4⟩ : ∃ w4, w3.alloc (.cells #[.int .i64 4, .slice none 0 0, .int .i64 0, .int .i64 (-1), .slice (some ⟨w2.heap.size, 0, none⟩) 1 1] 25) = w4 := ⟨_, rfl⟩
    have hb4 : Below w3.heap.size w3 w4 := by rw [← hw4]; exact bnew (Below.refl _ w3) _
    have hs4 : w4.heap.size = w3.heap.size + 1 := by rw [← hw4]; simp
    have f4 : FiveF w4 w3.heap.size (.int .i64 4) (.slice none 0 0) (.int .i64 0) (.int .i64 (-1)) (.slice (some ⟨w2.heap.size, 0, none⟩) 1 1) := by rw [← hw4]; exact fiveF_new w3 _ _ _ _ _ 25
    have RR := hide (show ∀ a b : Int, (-1 ≤ a ∧ a ≤ 1000) → (-1 ≤ b ∧ b ≤ 1000) → RxV w4 (fun g => w.heap.size + 1 ≤ g ∧ g < w3.heap.size ∧ g ≠ p) (.agg #[.int .i64 4, .slice none 0 0, .int .i64 a, .int .i64 b, .slice (some ⟨w2.heap.size, 0, none⟩) 1 1]) (repS x1 a b) from fun a b ha hb => by
      have := (ownX_lit w2 _ _ _ _ _ _ (w.heap.size + 1) (by omega) (x2.map (fun _ _ _ => rfl) (fun g hg _ => Nat.le_trans hs0 hg))).rep a b ha hb
      rw [hw3] at this
      exact this.map (fun q _ hq => hb4.cell hq) (fun g hg hlt' => ⟨hg, hlt', by omega⟩))
    have X4 := hide (show RxV w4 (fun g => w.heap.size + 1 ≤ g ∧ g < w3.heap.size ∧ g ≠ p) (.agg #[.int .i64 q0, .slice qA qn qc, .int .i64 q1, .int .i64 q2, .slice qB qm qd]) x1 from
      (x2.map (W' := w3) (ok' := fun g => w0.heap.size ≤ g) (fun q _ hq => hb3.cell hq) (fun g hg _ => hg)).map (fun q _ hq => hb4.cell hq) (fun g hg hlt' => ⟨by omega, hlt', by omega⟩))
    have I4 := hide (show ItS p w w4 w4 w.heap.size w1.heap.size w3.heap.size l1 _ _ _ _ _ _ _ _ _ _ from ⟨(F2.out.at_ hb3 (by omega)).at_ hb4 (by omega), (g2.keep hb3).keep hb4, f4, (p2.keep hb3).keep hb4, (B2.out.trans (Bt.of hb3 p)).trans (Bt.of hb4 p), fun _ _ _ _ => rfl, Nat.le_refl _⟩)
    have Hl := hide hl1
    have g2' := g2
    obtain ⟨-, a0, a1, a2, a3, a4⟩ := g2'
    have HT42 := hide (fun W (h : PB W p l1) => take1 p l1 42 W h ⟨#[42]⟩ rfl)
    have hw3p : p < w3.heap.size := by omega
    have hw3b : w.heap.size < w3.heap.size := by omega
    have hw31 : w1.heap.size < w3.heap.size := by omega
    have hn2 : w.heap.size ≠ p := by omega
    have hn4 : w1.heap.size ≠ p := by omega
    have hn6 : w3.heap.size ≠ p := by omega
    have N2 := hide hn2
    have N4 := hide hn4
    have N6 := hide hn6
    clear hx1 hp1 hb1 hy1 hn1 hb2 hs2 g2 x2 p2 hl1 hE2 hb3 hb4 f4 hs3 hs4 F2 B2 hn2 hn4 hn6
    go_wp2_with fail
    clear hw0 hw2 hw3 hw4 a0 a1 a2 a3 a4
    cases h42 : tkB 42 l1 with
    | true =>
      rw [h42] at HT42
      have HEn := hide (show E = some (repS x1 0 (-1), tkR 42 l1) by rw [← HE2.out, if_pos h42])
      have Hlen := hide (Nat.le_trans (tkR_len 42 l1) Hl.out)
      obtain ⟨l5, hl5⟩ : ∃ l5, tkR 42 l1 = l5 := ⟨_, rfl⟩
      rw [hl5] at HT42 HEn Hlen
      have HY := hide (show ∀ y r, E = some (y, r) → repS x1 0 (-1) = y ∧ l5 = r from fun y r h => by rw [HEn.out] at h; cases h; exact ⟨rfl, rfl⟩)
      have HN := hide (show ¬ E = none from fun h => by rw [HEn.out] at h; cases h)
      clear hl5
      with_reducible refine (HT42.out _ I4.out.P).mono ?_
      rintro e w5 ⟨rfl, hp5, hb5⟩
      have I5 := hide (I4.out.call hp5 hb5 N2.out N4.out N6.out)
      clear hp5 hb5
      obtain ⟨⟨-, f1, f2, f3, f4, f5⟩, f6, f7, f8, f9, f10⟩ := I5.out.F
      obtain ⟨⟨-, s1, s2, s3, s4, s5⟩, -, -, -, -, -⟩ := I5.out.S
      go_wp2
      exact bodyPost_ret (res_two (fn := Tryz.f71) (p := 2) (u := 3) rfl _ _ w.heap.size _ _ _ _ _ (.bool true) rfl rfl (put5_five I5.out.F (.int .i64 4) (.slice none 0 0) (.int .i64 0) (.int .i64 (-1)) (.slice (some ⟨w2.heap.size, 0, none⟩) 1 1))) rfl (postX_fin hlt I5.out.P I5.out.B Hlen.out ((RR.out 0 (-1) (by omega) (by omega)).map (fun q hq hl' => I5.out.H q hl' hq.2.2 (Nat.ne_of_lt hq.2.1)) (fun g hg _ => hg.1)) (fun y r h => ⟨rfl, HY.out y r h⟩) (fun h => absurd h HN.out))
    | false =>
      rw [h42, tk_no h42] at HT42
      have HT43 := hide (fun W (h : PB W p l1) => take1 p l1 43 W h ⟨#[43]⟩ rfl)
      cases h43 : tkB 43 l1 with
      | true =>
        rw [h43] at HT43
        have HEn := hide (show E = some (repS x1 1 (-1), tkR 43 l1) by rw [← HE2.out, if_neg (fun h => absurd (h42.symm.trans h) (by simp)), if_pos h43])
        have Hlen := hide (Nat.le_trans (tkR_len 43 l1) Hl.out)
        obtain ⟨l5, hl5⟩ : ∃ l5, tkR 43 l1 = l5 := ⟨_, rfl⟩
        rw [hl5] at HT43 HEn Hlen
        have HY := hide (show ∀ y r, E = some (y, r) → repS x1 1 (-1) = y ∧ l5 = r from fun y r h => by rw [HEn.out] at h; cases h; exact ⟨rfl, rfl⟩)
        have HN := hide (show ¬ E = none from fun h => by rw [HEn.out] at h; cases h)
        clear hl5
        with_reducible refine (HT42.out _ I4.out.P).mono ?_
        rintro e w5 ⟨rfl, hp5, hb5⟩
        have I5 := hide (I4.out.call hp5 hb5 N2.out N4.out N6.out)
        clear hp5 hb5
        go_wp2_with fail
        with_reducible refine (HT43.out _ I5.out.P).mono ?_
        rintro e w6 ⟨rfl, hp6, hb6⟩
        have I6 := hide (I5.out.call hp6 hb6 N2.out N4.out N6.out)
        clear hp6 hb6
        have hS := fiveF_set2 I6.out.S (.int .i64 1)
        obtain ⟨w7, hw7⟩ : ∃ x, w6.setCell ⟨w3.heap.size, 2, none⟩ (.int .i64 1) = x := ⟨_, rfl⟩
        rw [hw7] at hS
        have I7 := hide (I6.out.set 2 (.int .i64 1) hw7.symm hS hw3b hw31 hw3p (Nat.le_of_lt hw3b))
        obtain ⟨⟨-, t1, t2, t3, t4, t5⟩, t6, t7, t8, t9, t10⟩ := I6.out.S
        clear hS
        obtain ⟨⟨-, f1, f2, f3, f4, f5⟩, f6, f7, f8, f9, f10⟩ := I7.out.F
        obtain ⟨⟨-, s1, s2, s3, s4, s5⟩, -, -, -, -, -⟩ := I7.out.S
        go_wp2
        exact bodyPost_ret (res_two (fn := Tryz.f71) (p := 2) (u := 3) rfl _ _ w.heap.size _ _ _ _ _ (.bool true) rfl rfl (put5_five I7.out.F (.int .i64 4) (.slice none 0 0) (.int .i64 1) (.int .i64 (-1)) (.slice (some ⟨w2.heap.size, 0, none⟩) 1 1))) rfl (postX_fin hlt I7.out.P I7.out.B Hlen.out ((RR.out 1 (-1) (by omega) (by omega)).map (fun q hq hl' => I7.out.H q hl' hq.2.2 (Nat.ne_of_lt hq.2.1)) (fun g hg _ => hg.1)) (fun y r h => ⟨rfl, HY.out y r h⟩) (fun h => absurd h HN.out))
      | false =>
        rw [h43, tk_no h43] at HT43
        have HT63 := hide (fun W (h : PB W p l1) => take1 p l1 63 W h ⟨#[63]⟩ rfl)
        cases h63 : tkB 63 l1 with
        | true =>
          rw [h63] at HT63
          have HEn := hide (show E = some (repS x1 0 1, tkR 63 l1) by rw [← HE2.out, if_neg (fun h => absurd (h42.symm.trans h) (by simp)), if_neg (fun h => absurd (h43.symm.trans h) (by simp)), if_pos h63])
          have Hlen := hide (Nat.le_trans (tkR_len 63 l1) Hl.out)
          obtain ⟨l5, hl5⟩ : ∃ l5, tkR 63 l1 = l5 := ⟨_, rfl⟩
          rw [hl5] at HT63 HEn Hlen
          have HY := hide (show ∀ y r, E = some (y, r) → repS x1 0 1 = y ∧ l5 = r from fun y r h => by rw [HEn.out] at h; cases h; exact ⟨rfl, rfl⟩)
          have HN := hide (show ¬ E = none from fun h => by rw [HEn.out] at h; cases h)
          clear hl5
          with_reducible refine (HT42.out _ I4.out.P).mono ?_
          rintro e w5 ⟨rfl, hp5, hb5⟩
          have I5 := hide (I4.out.call hp5 hb5 N2.out N4.out N6.out)
          clear hp5 hb5
          go_wp2_with fail
          with_reducible refine (HT43.out _ I5.out.P).mono ?_
          rintro e w6 ⟨rfl, hp6, hb6⟩
          have I6 := hide (I5.out.call hp6 hb6 N2.out N4.out N6.out)
          clear hp6 hb6
          go_wp2_with fail
          with_reducible refine (HT63.out _ I6.out.P).mono ?_
          rintro e w7 ⟨rfl, hp7, hb7⟩
          have I7 := hide (I6.out.call hp7 hb7 N2.out N4.out N6.out)
          clear hp7 hb7
          have hS := fiveF_set3 I7.out.S (.int .i64 1)
          obtain ⟨w8, hw8⟩ : ∃ x, w7.setCell ⟨w3.heap.size, 3, none⟩ (.int .i64 1) = x := ⟨_, rfl⟩
          rw [hw8] at hS
          have I8 := hide (I7.out.set 3 (.int .i64 1) hw8.symm hS hw3b hw31 hw3p (Nat.le_of_lt hw3b))
          obtain ⟨⟨-, t1, t2, t3, t4, t5⟩, t6, t7, t8, t9, t10⟩ := I7.out.S
          clear hS
          obtain ⟨⟨-, f1, f2, f3, f4, f5⟩, f6, f7, f8, f9, f10⟩ := I8.out.F
          obtain ⟨⟨-, s1, s2, s3, s4, s5⟩, -, -, -, -, -⟩ := I8.out.S
          go_wp2
          exact bodyPost_ret (res_two (fn := Tryz.f71) (p := 2) (u := 3) rfl _ _ w.heap.size _ _ _ _ _ (.bool true) rfl rfl (put5_five I8.out.F (.int .i64 4) (.slice none 0 0) (.int .i64 0) (.int .i64 1) (.slice (some ⟨w2.heap.size, 0, none⟩) 1 1))) rfl (postX_fin hlt I8.out.P I8.out.B Hlen.out ((RR.out 0 1 (by omega) (by omega)).map (fun q hq hl' => I8.out.H q hl' hq.2.2 (Nat.ne_of_lt hq.2.1)) (fun g hg _ => hg.1)) (fun y r h => ⟨rfl, HY.out y r h⟩) (fun h => absurd h HN.out))
        | false =>
          rw [h63, tk_no h63] at HT63
          have HT123 := hide (fun W (h : PB W p l1) => take1 p l1 123 W h ⟨#[123]⟩ rfl)
          cases h123 : tkB 123 l1 with
          | true =>
            rw [h123] at HT123
            have hlen := Nat.le_trans (tkR_len 123 l1) Hl.out
            have HE3 := hide (show (match boundsS (tkR 123 l1) with | some (m, n, l') => some (repS x1 m n, l') | none => none) = E by rw [← HE2.out, if_neg (fun h => absurd (h42.symm.trans h) (by simp)), if_neg (fun h => absurd (h43.symm.trans h) (by simp)), if_neg (fun h => absurd (h63.symm.trans h) (by simp)), if_pos h123])
            obtain ⟨l6, hl6⟩ : ∃ l6, tkR 123 l1 = l6 := ⟨_, rfl⟩
            rw [hl6] at HT123 hlen HE3
            have HBd := hide (fun W (h : PB W p l6) => bounds89 p l6 W h (by omega))
            have Hlen6 := hide hlen
            obtain ⟨o3, ho3⟩ : ∃ o3, boundsS l6 = o3 := ⟨_, rfl⟩
            rw [ho3] at HBd HE3
            clear hl6 ho3 hlen
            with_reducible refine (HT42.out _ I4.out.P).mono ?_
            rintro e w5 ⟨rfl, hp5, hb5⟩
            have I5 := hide (I4.out.call hp5 hb5 N2.out N4.out N6.out)
            clear hp5 hb5
            go_wp2_with fail
            with_reducible refine (HT43.out _ I5.out.P).mono ?_
            rintro e w6 ⟨rfl, hp6, hb6⟩
            have I6 := hide (I5.out.call hp6 hb6 N2.out N4.out N6.out)
            clear hp6 hb6
            go_wp2_with fail
            with_reducible refine (HT63.out _ I6.out.P).mono ?_
            rintro e w7 ⟨rfl, hp7, hb7⟩
            have I7 := hide (I6.out.call hp7 hb7 N2.out N4.out N6.out)
            clear hp7 hb7
            go_wp2_with fail
            with_reducible refine (HT123.out _ I7.out.P).mono ?_
            rintro e w8 ⟨rfl, hp8, hb8⟩
            have I8 := hide (I7.out.call hp8 hb8 N2.out N4.out N6.out)
            clear hp8 hb8
            go_wp2_with fail
            with_reducible refine (HBd.out _ I8.out.P).mono ?_
            rintro e w9 ⟨m, m', b, l5, rfl, hp9, hb9, hl9, hm, hm', hy9, hn9⟩
            have I9 := hide (I8.out.call hp9 hb9 N2.out N4.out N6.out)
            have Hlen := hide (Nat.le_trans hl9 Hlen6.out)
            have HY := hide (show ∀ y r, E = some (y, r) → b = true ∧ repS x1 m m' = y ∧ l5 = r from fun y r h => by
              rw [← HE3.out] at h
              cases o3 with
              | none => cases h
              | some q =>
                obtain ⟨a1, a2, a3, a4⟩ := hy9 q.1 q.2.1 q.2.2 rfl
                cases h
                exact ⟨a1, by rw [a2, a3], a4⟩)
            have HN := hide (show E = none → b = false from fun h => by
              rw [← HE3.out] at h
              cases o3 with
              | none => exact hn9 rfl
              | some q => cases h)
            clear hp9 hb9 hl9 hy9 hn9
            have hS := fiveF_set2 I9.out.S (.int .i64 m)
            obtain ⟨w10, hw10⟩ : ∃ x, w9.setCell ⟨w3.heap.size, 2, none⟩ (.int .i64 m) = x := ⟨_, rfl⟩
            rw [hw10] at hS
            have I10 := hide (I9.out.set 2 (.int .i64 m) hw10.symm hS hw3b hw31 hw3p (Nat.le_of_lt hw3b))
            obtain ⟨⟨-, t1, t2, t3, t4, t5⟩, t6, t7, t8, t9, t10⟩ := I9.out.S
            clear hS
            have hS := fiveF_set3 I10.out.S (.int .i64 m')
            obtain ⟨w11, hw11⟩ : ∃ x, w10.setCell ⟨w3.heap.size, 3, none⟩ (.int .i64 m') = x := ⟨_, rfl⟩
            rw [hw11] at hS
            have I11 := hide (I10.out.set 3 (.int .i64 m') hw11.symm hS hw3b hw31 hw3p (Nat.le_of_lt hw3b))
            obtain ⟨⟨-, y1, y2, y3, y4, y5⟩, y6, y7, y8, y9, y10⟩ := I10.out.S
            clear hS
            obtain ⟨⟨-, f1, f2, f3, f4, f5⟩, f6, f7, f8, f9, f10⟩ := I11.out.F
            obtain ⟨⟨-, s1, s2, s3, s4, s5⟩, -, -, -, -, -⟩ := I11.out.S
            go_wp2
            exact bodyPost_ret (res_two (fn := Tryz.f71) (p := 2) (u := 3) rfl _ _ w.heap.size _ _ _ _ _ (.bool b) rfl rfl (put5_five I11.out.F (.int .i64 4) (.slice none 0 0) (.int .i64 m) (.int .i64 m') (.slice (some ⟨w2.heap.size, 0, none⟩) 1 1))) rfl (postX_fin hlt I11.out.P I11.out.B Hlen.out ((RR.out m m' (by omega) (by omega)).map (fun q hq hl' => I11.out.H q hl' hq.2.2 (Nat.ne_of_lt hq.2.1)) (fun g hg _ => hg.1)) HY.out HN.out)
          | false =>
            rw [h123, tk_no h123] at HT123
            have HEn := hide (show E = some (x1, l1) by rw [← HE2.out, if_neg (fun h => absurd (h42.symm.trans h) (by simp)), if_neg (fun h => absurd (h43.symm.trans h) (by simp)), if_neg (fun h => absurd (h63.symm.trans h) (by simp)), if_neg (fun h => absurd (h123.symm.trans h) (by simp))])
            have Hlen := Hl
            have HY := hide (show ∀ y r, E = some (y, r) → x1 = y ∧ l1 = r from fun y r h => by rw [HEn.out] at h; cases h; exact ⟨rfl, rfl⟩)
            have HN := hide (show ¬ E = none from fun h => by rw [HEn.out] at h; cases h)
            with_reducible refine (HT42.out _ I4.out.P).mono ?_
            rintro e w5 ⟨rfl, hp5, hb5⟩
            have I5 := hide (I4.out.call hp5 hb5 N2.out N4.out N6.out)
            clear hp5 hb5
            go_wp2_with fail
            with_reducible refine (HT43.out _ I5.out.P).mono ?_
            rintro e w6 ⟨rfl, hp6, hb6⟩
            have I6 := hide (I5.out.call hp6 hb6 N2.out N4.out N6.out)
            clear hp6 hb6
            go_wp2_with fail
            with_reducible refine (HT63.out _ I6.out.P).mono ?_
            rintro e w7 ⟨rfl, hp7, hb7⟩
            have I7 := hide (I6.out.call hp7 hb7 N2.out N4.out N6.out)
            clear hp7 hb7
            go_wp2_with fail
            with_reducible refine (HT123.out _ I7.out.P).mono ?_
            rintro e w8 ⟨rfl, hp8, hb8⟩
            have I8 := hide (I7.out.call hp8 hb8 N2.out N4.out N6.out)
            clear hp8 hb8
            obtain ⟨⟨-, f1, f2, f3, f4, f5⟩, f6, f7, f8, f9, f10⟩ := I8.out.F
            obtain ⟨-, s1, s2, s3, s4, s5⟩ := I8.out.G
            go_wp2
            exact bodyPost_ret (res_two (fn := Tryz.f71) (p := 2) (u := 3) rfl _ _ w.heap.size _ _ _ _ _ (.bool true) rfl rfl (put5_five I8.out.F (.int .i64 q0) (.slice qA qn qc) (.int .i64 q1) (.int .i64 q2) (.slice qB qm qd))) rfl (postX_fin hlt I8.out.P I8.out.B Hlen.out (X4.out.map (fun q hq hl' => I8.out.H q hl' hq.2.2 (Nat.ne_of_lt hq.2.1)) (fun g hg _ => hg.1)) (fun y r h => ⟨rfl, HY.out y r h⟩) (fun h => absurd h HN.out))

/-! ### NS -/

set_option maxRecDepth 100000 in
set_option maxHeartbeats 12800000 in
theorem seq54 (n : Nat) (hI : ∀ n', n' ≤ n → PItemC n') : PSeqC (n + 1) := by
  intro p l w h hl hn
  obtain ⟨i0, hi, hz0, hz1, hz2⟩ := info_parts infoX
  have HI := hide hI
  have hlt := h.lt
  obtain ⟨w0, hw0⟩ : ∃ w0, w.alloc (.cells #[.int .i64 0, .slice none 0 0, .int .i64 0, .int .i64 0, .slice none 0 0] 25) = w0 := ⟨_, rfl⟩
  have HF0 := hide (show FiveF w0 w.heap.size (.int .i64 0) (.slice none 0 0) (.int .i64 0) (.int .i64 0) (.slice none 0 0) by rw [← hw0]; exact fiveF_new w _ _ _ _ _ 25)
  have hb0 : Below w.heap.size w w0 := by rw [← hw0]; exact bnew (Below.refl _ w) _
  have hs0 : w.heap.size + 1 ≤ w0.heap.size := by rw [← hw0]; simp
  have HB0 := hide (Bt.of hb0 p)
  have P0 := hide (h.keep hb0)
  obtain ⟨E, hE⟩ : ∃ E, seqP (n + 1) [] l = E := ⟨_, rfl⟩
  rw [hE]
  have HE := hide hE
  clear h hb0 hI hE
  go_enter Tryz.func54, Tryz.ntmps54
  go_wp2_with fail
  go_loopw [4] (fun u wr => ∃ (n' : Nat) (acc : List Rx) (m : List UInt8), OwnX wr (w.heap.size + 1) u acc ∧ PB wr p m ∧ Bt p w wr ∧ w0.heap.size ≤ wr.heap.size ∧ FiveF wr w.heap.size (.int .i64 0) (.slice none 0 0) (.int .i64 0) (.int .i64 0) (.slice none 0 0) ∧
    seqP n' acc m = E ∧ 4 * m.length + 3 ≤ n' ∧ n' ≤ n + 1 ∧ acc.length + m.length ≤ l.length) (fun _ wr => restN p wr)
  case atStart => exact ⟨n + 1, [], l, OwnX.nil _ _, P0.out, HB0.out, Nat.le_refl _, HF0.out, HE.out, hn, Nat.le_refl _, by simp⟩
  case round =>
    clear HE P0 HB0 HF0
    obtain ⟨n', acc, m, hown, hp, hb, hsz, hf, hseq, hf1, hf2, hal⟩ := hrel
    obtain ⟨w2, hw2⟩ : ∃ w2, w2 = wr := ⟨wr, rfl⟩
    subst hw2
    obtain ⟨u, huu⟩ : ∃ u, u = u4 := ⟨u4, rfl⟩
    subst huu
    obtain ⟨n', rfl⟩ : ∃ q, n' = q + 1 := ⟨n' - 1, by omega⟩
    have OE := hide hown
    have PE := hide hp
    have BE := hide hb
    have FE := hide hf
    have HL := hide (show m.length ≤ l.length by omega)
    have Hrest := hide hp.rest
    obtain ⟨S, hS⟩ : ∃ S, bs m = S := ⟨_, rfl⟩
    have hc : w2.cell? ⟨p, 0, none⟩ = some (.string S) := by rw [← hS]; exact hp.cell
    clear hown hp hb hf
    cases m with
    | nil =>
      unfold seqP at hseq
      have HEq := hide hseq.symm
      obtain rfl : ⟨#[]⟩ = S := hS
      clear hseq
      obtain ⟨XA, XM, XD, vs, rfl, hxm, hvs, hrx⟩ := OE.out.s
      have hxc := hvs.1
      by_cases hone : XM = 1
      · obtain ⟨xo, hxo⟩ : ∃ xq, acc = [xq] := one_of_len (by rw [← hxm, hone])
        have HEn := hide (show E = some (xo, []) by rw [HEq.out, hxo]; rfl)
        have hq1 : ((XM : Int) == 1) = true := by rw [hone]; rfl
        have kx : (0 : Int) < (XM : Int) := by omega
        obtain ⟨g, o, d0, d1, d2, d3, d4, rfl, hv0, a0, a1, a2, a3, a4⟩ := hvs.at_ (i := 0) (by omega)
        simp only [Nat.zero_mul, Nat.add_zero] at a0 a1 a2 a3 a4
        have hr0 := hrx 0 _ xo hv0 (by rw [hxo]; rfl)
        obtain ⟨z0, zA, zn, zc, z1, z2, zB, zm, zd, hag⟩ := hr0.agg9
        injection hag with hag
        injection hag with hag
        simp only [List.cons.injEq, and_true] at hag
        obtain ⟨rfl, rfl, rfl, rfl, rfl⟩ := hag
        have RE := hide hr0
        clear hvs hrx hv0 hr0 hxo hxm OE HEq
        obtain ⟨⟨-, f1, f2, f3, f4, f5⟩, f6, f7, f8, f9, f10⟩ := FE.out
        go_wp2
        exact bodyPost_ret (res_two (fn := Tryz.f54) (p := 2) (u := 3) rfl _ _ w.heap.size _ _ _ _ _ (.bool true) rfl rfl (put5_five FE.out (.int .i64 z0) (.slice zA zn zc) (.int .i64 z1) (.int .i64 z2) (.slice zB zm zd))) rfl (postX_fin hlt PE.out BE.out HL.out RE.out (fun y r h => by rw [HEn.out] at h; cases h; exact ⟨rfl, rfl, rfl⟩) (fun h => by rw [HEn.out] at h; cases h))
      · have HEn := hide (show E = some (.mk 2 [] 0 0 acc, []) by rw [HEq.out, wrapS_two 2 _ (by omega)])
        have hq1 : ((XM : Int) == 1) = false := beq_eq_false_iff_ne.2 (by omega)
        have RE := hide (OE.out.rx 2 (by omega))
        clear hvs hrx hxm OE HEq
        obtain ⟨⟨-, f1, f2, f3, f4, f5⟩, f6, f7, f8, f9, f10⟩ := FE.out
        go_wp2
        exact bodyPost_ret (res_two (fn := Tryz.f54) (p := 2) (u := 3) rfl _ _ w.heap.size _ _ _ _ _ (.bool true) rfl rfl (put5_five FE.out (.int .i64 2) (.slice none 0 0) (.int .i64 0) (.int .i64 0) (.slice XA XM XD))) rfl (postX_fin hlt PE.out BE.out HL.out RE.out (fun y r h => by rw [HEn.out] at h; cases h; exact ⟨rfl, rfl, rfl⟩) (fun h => by rw [HEn.out] at h; cases h))
    | cons c m =>
      have hne : ¬ S = (⟨#[]⟩ : ByteArray) := by rw [← hS]; exact bs_ne c m
      have hem : S.toList.isEmpty = false := by rw [← hS]; exact bs_empty c m
      obtain ⟨h0, hg0, -⟩ := bs_cons c m
      rw [hS] at h0
      have hgc : S[0] = c := by subst hS; exact hg0 h0
      have e124 : ((c.toNat : Int) != 124) = !decide (c = 124) := u8_ne rfl
      have e41 : ((c.toNat : Int) != 41) = !decide (c = 41) := u8_ne rfl
      have h0' : (0 : Int) < (S.size : Int) := by omega
      clear hS hg0
      unfold seqP at hseq
      by_cases h124 : c = 124
      · rw [if_pos (Or.inl h124)] at hseq
        rw [decide_eq_true h124] at e124
        have HEq := hide hseq.symm
        clear hseq h124 e41
        obtain ⟨XA, XM, XD, vs, rfl, hxm, hvs, hrx⟩ := OE.out.s
        have hxc := hvs.1
        by_cases hone : XM = 1
        · obtain ⟨xo, hxo⟩ : ∃ xq, acc = [xq] := one_of_len (by rw [← hxm, hone])
          have HEn := hide (show E = some (xo, c :: m) by rw [HEq.out, hxo]; rfl)
          have hq1 : ((XM : Int) == 1) = true := by rw [hone]; rfl
          have kx : (0 : Int) < (XM : Int) := by omega
          obtain ⟨g, o, d0, d1, d2, d3, d4, rfl, hv0, a0, a1, a2, a3, a4⟩ := hvs.at_ (i := 0) (by omega)
          simp only [Nat.zero_mul, Nat.add_zero] at a0 a1 a2 a3 a4
          have hr0 := hrx 0 _ xo hv0 (by rw [hxo]; rfl)
          obtain ⟨z0, zA, zn, zc, z1, z2, zB, zm, zd, hag⟩ := hr0.agg9
          injection hag with hag
          injection hag with hag
          simp only [List.cons.injEq, and_true] at hag
          obtain ⟨rfl, rfl, rfl, rfl, rfl⟩ := hag
          have RE := hide hr0
          clear hvs hrx hv0 hr0 hxo hxm OE HEq
          obtain ⟨⟨-, f1, f2, f3, f4, f5⟩, f6, f7, f8, f9, f10⟩ := FE.out
          go_wp2
          exact bodyPost_ret (res_two (fn := Tryz.f54) (p := 2) (u := 3) rfl _ _ w.heap.size _ _ _ _ _ (.bool true) rfl rfl (put5_five FE.out (.int .i64 z0) (.slice zA zn zc) (.int .i64 z1) (.int .i64 z2) (.slice zB zm zd))) rfl (postX_fin hlt PE.out BE.out HL.out RE.out (fun y r h => by rw [HEn.out] at h; cases h; exact ⟨rfl, rfl, rfl⟩) (fun h => by rw [HEn.out] at h; cases h))
        · have HEn := hide (show E = some (.mk 2 [] 0 0 acc, c :: m) by rw [HEq.out, wrapS_two 2 _ (by omega)])
          have hq1 : ((XM : Int) == 1) = false := beq_eq_false_iff_ne.2 (by omega)
          have RE := hide (OE.out.rx 2 (by omega))
          clear hvs hrx hxm OE HEq
          obtain ⟨⟨-, f1, f2, f3, f4, f5⟩, f6, f7, f8, f9, f10⟩ := FE.out
          go_wp2
          exact bodyPost_ret (res_two (fn := Tryz.f54) (p := 2) (u := 3) rfl _ _ w.heap.size _ _ _ _ _ (.bool true) rfl rfl (put5_five FE.out (.int .i64 2) (.slice none 0 0) (.int .i64 0) (.int .i64 0) (.slice XA XM XD))) rfl (postX_fin hlt PE.out BE.out HL.out RE.out (fun y r h => by rw [HEn.out] at h; cases h; exact ⟨rfl, rfl, rfl⟩) (fun h => by rw [HEn.out] at h; cases h))
      by_cases h41 : c = 41
      · rw [if_pos (Or.inr h41)] at hseq
        rw [decide_eq_false h124] at e124
        rw [decide_eq_true h41] at e41
        have HEq := hide hseq.symm
        clear hseq h124 h41
        obtain ⟨XA, XM, XD, vs, rfl, hxm, hvs, hrx⟩ := OE.out.s
        have hxc := hvs.1
        by_cases hone : XM = 1
        · obtain ⟨xo, hxo⟩ : ∃ xq, acc = [xq] := one_of_len (by rw [← hxm, hone])
          have HEn := hide (show E = some (xo, c :: m) by rw [HEq.out, hxo]; rfl)
          have hq1 : ((XM : Int) == 1) = true := by rw [hone]; rfl
          have kx : (0 : Int) < (XM : Int) := by omega
          obtain ⟨g, o, d0, d1, d2, d3, d4, rfl, hv0, a0, a1, a2, a3, a4⟩ := hvs.at_ (i := 0) (by omega)
          simp only [Nat.zero_mul, Nat.add_zero] at a0 a1 a2 a3 a4
          have hr0 := hrx 0 _ xo hv0 (by rw [hxo]; rfl)
          obtain ⟨z0, zA, zn, zc, z1, z2, zB, zm, zd, hag⟩ := hr0.agg9
          injection hag with hag
          injection hag with hag
          simp only [List.cons.injEq, and_true] at hag
          obtain ⟨rfl, rfl, rfl, rfl, rfl⟩ := hag
          have RE := hide hr0
          clear hvs hrx hv0 hr0 hxo hxm OE HEq
          obtain ⟨⟨-, f1, f2, f3, f4, f5⟩, f6, f7, f8, f9, f10⟩ := FE.out
          go_wp2
          exact bodyPost_ret (res_two (fn := Tryz.f54) (p := 2) (u := 3) rfl _ _ w.heap.size _ _ _ _ _ (.bool true) rfl rfl (put5_five FE.out (.int .i64 z0) (.slice zA zn zc) (.int .i64 z1) (.int .i64 z2) (.slice zB zm zd))) rfl (postX_fin hlt PE.out BE.out HL.out RE.out (fun y r h => by rw [HEn.out] at h; cases h; exact ⟨rfl, rfl, rfl⟩) (fun h => by rw [HEn.out] at h; cases h))
        · have HEn := hide (show E = some (.mk 2 [] 0 0 acc, c :: m) by rw [HEq.out, wrapS_two 2 _ (by omega)])
          have hq1 : ((XM : Int) == 1) = false := beq_eq_false_iff_ne.2 (by omega)
          have RE := hide (OE.out.rx 2 (by omega))
          clear hvs hrx hxm OE HEq
          obtain ⟨⟨-, f1, f2, f3, f4, f5⟩, f6, f7, f8, f9, f10⟩ := FE.out
          go_wp2
          exact bodyPost_ret (res_two (fn := Tryz.f54) (p := 2) (u := 3) rfl _ _ w.heap.size _ _ _ _ _ (.bool true) rfl rfl (put5_five FE.out (.int .i64 2) (.slice none 0 0) (.int .i64 0) (.int .i64 0) (.slice XA XM XD))) rfl (postX_fin hlt PE.out BE.out HL.out RE.out (fun y r h => by rw [HEn.out] at h; cases h; exact ⟨rfl, rfl, rfl⟩) (fun h => by rw [HEn.out] at h; cases h))
      rw [if_neg (by simp [h124, h41])] at hseq
      rw [decide_eq_false h124] at e124
      rw [decide_eq_false h41] at e41
      have HIt := hide (HI.out n' (by omega) p (c :: m) w2 PE.out (by have := HL.out; omega) (by omega))
      obtain ⟨o, ho⟩ : ∃ o, itemP n' (c :: m) = o := ⟨_, rfl⟩
      rw [ho] at HIt hseq
      have Ho := hide ho
      have Hseq := hide hseq
      have hml : (c :: m).length = m.length + 1 := rfl
      clear h124 h41 ho hseq
      go_wp2_with fail
      with_reducible refine HIt.out.mono ?_
      rintro e w3 ⟨v3, b3, l3, x3, rfl, hx3, hp3, hb3, hl3, hy3, hn3⟩
      obtain ⟨q0, qA, qn, qc, q1, q2, qB, qm, qd, rfl⟩ := hx3.agg9
      have hs3 := hb3.size
      obtain ⟨w4, hw4⟩ : ∃ w4, w3.alloc (.cells #[.int .i64 q0, .slice qA qn qc, .int .i64 q1, .int .i64 q2, .slice qB qm qd] 25) = w4 := ⟨_, rfl⟩
      have hb4 : Below w3.heap.size w3 w4 := by rw [← hw4]; exact bnew (Below.refl _ w3) _
      have hs4 : w4.heap.size = w3.heap.size + 1 := by rw [← hw4]; simp
      have g4 : Five w4 w3.heap.size (.int .i64 q0) (.slice qA qn qc) (.int .i64 q1) (.int .i64 q2) (.slice qB qm qd) := by rw [← hw4]; exact five_new w3 _ _ _ _ _ 25
      obtain ⟨-, b0, b1, b2, b3', b4⟩ := g4
      have F4 := hide ((FE.out.bt hb3 (by omega)).at_ hb4 (by omega))
      have P4 := hide (hp3.keep hb4)
      have B4 := hide ((BE.out.trans hb3).trans (Bt.of hb4 p))
      have O4 := hide ((OE.out.bt hb3 (by omega)).below hb4)
      have hul : ∀ g, u.ownBlock = some g → g < w2.heap.size := fun g hg => by
        obtain ⟨cs, vs, h1, _⟩ := OE.out
        exact (h1.lt g hg).2
      have R4 := hide (hx3.map (W' := w4) (fun q _ hq => hb4.cell hq) fun g hg _ => (⟨by omega, fun e => by have := hul g e; omega⟩ : w.heap.size + 1 ≤ g ∧ u.ownBlock ≠ some g))
      have hs4' : w.heap.size + 1 ≤ w4.heap.size := by omega
      cases b3 with
      | false =>
        have HEn := hide (show E = none by
          rw [← Hseq.out]
          cases o with
          | none => rfl
          | some q => exact absurd (hy3 q.1 q.2 rfl).1 (by simp))
        have HLn := hide (show l3.length ≤ l.length by have := HL.out; omega)
        clear hx3 hp3 hb3 hy3 hn3 hb4 hs4 hul
        obtain ⟨⟨-, f1, f2, f3, f4, f5⟩, f6, f7, f8, f9, f10⟩ := F4.out
        go_wp2
        exact bodyPost_ret (res_two (fn := Tryz.f54) (p := 2) (u := 3) rfl _ _ w.heap.size _ _ _ _ _ (.bool false) rfl rfl (put5_five F4.out (.int .i64 0) (.slice none 0 0) (.int .i64 0) (.int .i64 0) (.slice none 0 0))) rfl (postX_fin hlt P4.out B4.out HLn.out rxv_zero (fun y r h => by rw [HEn.out] at h; cases h) (fun _ => rfl))
      | true =>
        have hso : o = some (x3, l3) := by
          cases o with
          | none => exact absurd (hn3 rfl) (by simp)
          | some q =>
            obtain ⟨_, h1, h2⟩ := hy3 q.1 q.2 rfl
            rw [h1, h2]
        have hlen := (parse_len n').2.1 _ _ _ (Ho.out.trans hso)
        have hnx : seqP n' (acc ++ [x3]) l3 = E := by rw [← Hseq.out, hso]
        have Hnx := hide hnx
        have Hs34 := hide hs4
        clear hx3 hp3 hb3 hy3 hn3 hb4 hs4 hul hso hnx
        go_wp2_with (first
          | (at_builtin; refine wp_push_rx rfl (.tmp 36) (.tmp 38) 23 rfl i0 _ 72 Tryz.underlying23 hi hz0 hz1 hz2 rfl (w.heap.size + 1) u acc rfl w4 _ _ _ _ _ x3 O4.out hs4' _ rfl rfl R4.out (by omega) (by unfold maxLen; omega) ?_; intro v7 w7 hown7 hb7; have O7 := hide hown7; have B7 := hide hb7; clear hown7 hb7)
          | fail)
        have P7 : Hid (PB w7 p l3) := hide ((B7.out.block p (by omega)).trans P4.out)
        have F7 := hide (F4.out.at_ B7.out (Nat.lt_succ_self _))
        have Bt7 := hide (B4.out.then_below B7.out (Nat.le_succ _))
        have Hsz7 := hide (show w0.heap.size ≤ w7.heap.size by have := B7.out.size; have := Hs34.out; omega)
        have Hrest7 := hide P7.out.rest
        go_roundw
        case rel => exact ⟨n', acc ++ [x3], l3, O7.out, P7.out, Bt7.out, Hsz7.out, F7.out, Hnx.out, by omega, by omega, by rw [List.length_append]; simp; omega⟩
        case measure => show restN p w7 < restN p w2; rw [Hrest.out, Hrest7.out]; exact hlen

/-! ### NT -/

theorem alt_tk (n : Nat) (acc : List Rx) (l : List UInt8) : altP (n + 1) acc l = match seqP n [] l with | none => none | some (r, l') => if tkB 124 l' = true then altP n (acc ++ [r]) (tkR 124 l') else some (wrapS 3 (acc ++ [r]), l') := by
  conv => lhs; unfold altP
  cases seqP n [] l with
  | none => rfl
  | some q =>
    obtain ⟨r, l'⟩ := q
    cases l' with
    | nil => rfl
    | cons c m =>
      show (if c = 124 then altP n (acc ++ [r]) m else some (wrapS 3 (acc ++ [r]), c :: m)) = if decide (c = 124) = true then altP n (acc ++ [r]) (if c = 124 then m else c :: m) else some (wrapS 3 (acc ++ [r]), c :: m)
      by_cases h : c = 124
      · rw [if_pos h, if_pos (decide_eq_true h), if_pos h]
      · rw [if_neg h, if_neg (by simp [h])]

set_option maxRecDepth 100000 in
set_option maxHeartbeats 12800000 in
theorem alt39 (n : Nat) (hS : ∀ n', n' ≤ n → PSeqC n') : PAltC (n + 1) := by
  intro p l w h hl hn
  obtain ⟨i0, hi, hz0, hz1, hz2⟩ := info_parts infoX
  have HS := hide hS
  have hlt := h.lt
  obtain ⟨w0, hw0⟩ : ∃ w0, w.alloc (.cells #[.int .i64 0, .slice none 0 0, .int .i64 0, .int .i64 0, .slice none 0 0] 25) = w0 := ⟨_, rfl⟩
  have HF0 := hide (show FiveF w0 w.heap.size (.int .i64 0) (.slice none 0 0) (.int .i64 0) (.int .i64 0) (.slice none 0 0) by rw [← hw0]; exact fiveF_new w _ _ _ _ _ 25)
  have hb0 : Below w.heap.size w w0 := by rw [← hw0]; exact bnew (Below.refl _ w) _
  have hs0 : w.heap.size + 1 ≤ w0.heap.size := by rw [← hw0]; simp
  have HB0 := hide (Bt.of hb0 p)
  have P0 := hide (h.keep hb0)
  obtain ⟨E, hE⟩ : ∃ E, altP (n + 1) [] l = E := ⟨_, rfl⟩
  rw [hE]
  have HE := hide hE
  clear h hb0 hS hE
  go_enter Tryz.func39, Tryz.ntmps39
  go_wp2_with fail
  go_loopw [4] (fun u wr => ∃ (n' : Nat) (acc : List Rx) (m : List UInt8), OwnX wr (w.heap.size + 1) u acc ∧ PB wr p m ∧ Bt p w wr ∧ w0.heap.size ≤ wr.heap.size ∧ FiveF wr w.heap.size (.int .i64 0) (.slice none 0 0) (.int .i64 0) (.int .i64 0) (.slice none 0 0) ∧
    altP n' acc m = E ∧ 4 * m.length + 4 ≤ n' ∧ n' ≤ n + 1 ∧ acc.length + m.length ≤ l.length) (fun _ wr => restN p wr)
  case atStart => exact ⟨n + 1, [], l, OwnX.nil _ _, P0.out, HB0.out, Nat.le_refl _, HF0.out, HE.out, hn, Nat.le_refl _, by simp⟩
  case round =>
    clear HE P0 HB0 HF0
    obtain ⟨n', acc, m, hown, hp, hb, hsz, hf, hseq, hf1, hf2, hal⟩ := hrel
    obtain ⟨w2, hw2⟩ : ∃ w2, w2 = wr := ⟨wr, rfl⟩
    subst hw2
    obtain ⟨u, huu⟩ : ∃ u, u = u4 := ⟨u4, rfl⟩
    subst huu
    obtain ⟨n', rfl⟩ : ∃ q, n' = q + 1 := ⟨n' - 1, by omega⟩
    have OE := hide hown
    have PE := hide hp
    have BE := hide hb
    have FE := hide hf
    have hml : m.length ≤ l.length := by omega
    have Hrest := hide hp.rest
    rw [alt_tk] at hseq
    have HIt := hide (HS.out n' (by omega) p m w2 PE.out (by omega) (by omega))
    obtain ⟨o, ho⟩ : ∃ o, seqP n' [] m = o := ⟨_, rfl⟩
    rw [ho] at HIt hseq
    have Ho := hide ho
    have Hseq := hide hseq
    clear hown hp hb hf ho hseq
    go_wp2_with fail
    with_reducible refine HIt.out.mono ?_
    rintro e w3 ⟨v3, b3, l3, x3, rfl, hx3, hp3, hb3, hl3, hy3, hn3⟩
    obtain ⟨q0, qA, qn, qc, q1, q2, qB, qm, qd, rfl⟩ := hx3.agg9
    have hs3 := hb3.size
    obtain ⟨w4, hw4⟩ : ∃ w4, w3.alloc (.cells #[.int .i64 q0, .slice qA qn qc, .int .i64 q1, .int .i64 q2, .slice qB qm qd] 25) = w4 := ⟨_, rfl⟩
    have hb4 : Below w3.heap.size w3 w4 := by rw [← hw4]; exact bnew (Below.refl _ w3) _
    have hs4 : w4.heap.size = w3.heap.size + 1 := by rw [← hw4]; simp
    have g4 : Five w4 w3.heap.size (.int .i64 q0) (.slice qA qn qc) (.int .i64 q1) (.int .i64 q2) (.slice qB qm qd) := by rw [← hw4]; exact five_new w3 _ _ _ _ _ 25
    obtain ⟨-, b0, b1, b2, b3', b4⟩ := g4
    have F4 := hide ((FE.out.bt hb3 (by omega)).at_ hb4 (by omega))
    have P4 := hide (hp3.keep hb4)
    have B4 := hide ((BE.out.trans hb3).trans (Bt.of hb4 p))
    have O4 := hide ((OE.out.bt hb3 (by omega)).below hb4)
    have hul : ∀ g, u.ownBlock = some g → g < w2.heap.size := fun g hg => by
      obtain ⟨cs, vs, h1, _⟩ := OE.out
      exact (h1.lt g hg).2
    have R4 := hide (hx3.map (W' := w4) (fun q _ hq => hb4.cell hq) fun g hg _ => (⟨by omega, fun e => by have := hul g e; omega⟩ : w.heap.size + 1 ≤ g ∧ u.ownBlock ≠ some g))
    have hs4' : w.heap.size + 1 ≤ w4.heap.size := by omega
    cases b3 with
    | false =>
      have HEn := hide (show E = none by
        rw [← Hseq.out]
        cases o with
        | none => rfl
        | some q => exact absurd (hy3 q.1 q.2 rfl).1 (by simp))
      have HLn := hide (show l3.length ≤ l.length by omega)
      clear hx3 hp3 hb3 hy3 hn3 hb4 hs4 hul
      obtain ⟨⟨-, f1, f2, f3, f4, f5⟩, f6, f7, f8, f9, f10⟩ := F4.out
      go_wp2
      exact bodyPost_ret (res_two (fn := Tryz.f39) (p := 2) (u := 3) rfl _ _ w.heap.size _ _ _ _ _ (.bool false) rfl rfl (put5_five F4.out (.int .i64 0) (.slice none 0 0) (.int .i64 0) (.int .i64 0) (.slice none 0 0))) rfl (postX_fin hlt P4.out B4.out HLn.out rxv_zero (fun y r h => by rw [HEn.out] at h; cases h) (fun _ => rfl))
    | true =>
      have hso : o = some (x3, l3) := by
        cases o with
        | none => exact absurd (hn3 rfl) (by simp)
        | some q =>
          obtain ⟨_, h1, h2⟩ := hy3 q.1 q.2 rfl
          rw [h1, h2]
      have hnx : (if tkB 124 l3 = true then altP n' (acc ++ [x3]) (tkR 124 l3) else some (wrapS 3 (acc ++ [x3]), l3)) = E := by rw [← Hseq.out, hso]
      have Hnx := hide hnx
      have Hs34 := hide hs4
      have HT := hide (fun W (h : PB W p l3) => take1 p l3 124 W h ⟨#[124]⟩ rfl)
      have hl3l : l3.length ≤ l.length := by omega
      clear hx3 hp3 hb3 hy3 hn3 hb4 hs4 hul hso hnx
      go_wp2_with (first
        | (at_builtin; refine wp_push_rx rfl (.tmp 15) (.tmp 17) 23 rfl i0 _ 72 Tryz.underlying23 hi hz0 hz1 hz2 rfl (w.heap.size + 1) u acc rfl w4 _ _ _ _ _ x3 O4.out hs4' _ rfl rfl R4.out (by omega) (by unfold maxLen; omega) ?_; intro v7 w7 hown7 hb7; have O7 := hide hown7; have B7 := hide hb7; obtain ⟨XA, XM, XD, -, hv7, -⟩ := hown7.s; subst hv7; clear hown7 hb7)
        | fail)
      have P7 : Hid (PB w7 p l3) := hide ((B7.out.block p (by omega)).trans P4.out)
      have F7 := hide (F4.out.at_ B7.out (Nat.lt_succ_self _))
      have Bt7 := hide (B4.out.then_below B7.out (Nat.le_succ _))
      have hsz7 : w0.heap.size ≤ w7.heap.size := by have := B7.out.size; have := Hs34.out; omega
      with_reducible refine (HT.out _ P7.out).mono ?_
      rintro e w9 ⟨rfl, hp9, hb9⟩
      have P9 := hide hp9
      have F9 := hide (F7.out.bt hb9 (by omega))
      have Bt9 := hide (Bt7.out.trans hb9)
      have O9 := hide (O7.out.bt hb9 (by omega))
      have hs9 := hb9.size
      clear hp9 hb9
      cases h124 : tkB 124 l3 with
      | true =>
        have hnx := Hnx.out
        rw [if_pos h124] at hnx
        have hty := tk_yes h124
        have Hnx2 := hide hnx
        have Hrest9 := hide P9.out.rest
        have Hsz9 := hide (Nat.le_trans hsz7 hs9)
        obtain ⟨l5, hl5⟩ : ∃ l5, tkR 124 l3 = l5 := ⟨_, rfl⟩
        rw [hl5] at hty Hnx2 Hrest9 P9
        clear hnx h124 hl5
        go_wp2
        go_roundw
        case rel => exact ⟨n', acc ++ [x3], l5, O9.out, P9.out, Bt9.out, Hsz9.out, F9.out, Hnx2.out, by omega, by omega, by rw [List.length_append]; simp; omega⟩
        case measure => show restN p w9 < restN p w2; rw [Hrest.out, Hrest9.out]; omega
      | false =>
        have hnx := Hnx.out
        rw [if_neg (by simp [h124])] at hnx
        have HEq := hide hnx.symm
        have hno := tk_no h124
        rw [hno] at P9
        have HL := hide hl3l
        clear hnx h124 hno
        obtain ⟨YA, YM, YD, vs, hvx, hxm, hvs, hrx⟩ := O9.out.s
        obtain ⟨rfl, rfl, rfl⟩ : YA = XA ∧ YM = XM ∧ YD = XD := by cases hvx; exact ⟨rfl, rfl, rfl⟩
        have hxc := hvs.1
        by_cases hone : YM = 1
        · obtain ⟨xo, hxo⟩ : ∃ xq, (acc ++ [x3]) = [xq] := one_of_len (by rw [← hxm, hone])
          have HEn := hide (show E = some (xo, l3) by rw [HEq.out, hxo]; rfl)
          have hq1 : ((YM : Int) == 1) = true := by rw [hone]; rfl
          have kx : (0 : Int) < (YM : Int) := by omega
          obtain ⟨g, o, d0, d1, d2, d3, d4, rfl, hv0, a0, a1, a2, a3, a4⟩ := hvs.at_ (i := 0) (by omega)
          simp only [Nat.zero_mul, Nat.add_zero] at a0 a1 a2 a3 a4
          have hr0 := hrx 0 _ xo hv0 (by rw [hxo]; rfl)
          obtain ⟨z0, zA, zn, zc, z1, z2, zB, zm, zd, hag⟩ := hr0.agg9
          injection hag with hag
          injection hag with hag
          simp only [List.cons.injEq, and_true] at hag
          obtain ⟨rfl, rfl, rfl, rfl, rfl⟩ := hag
          have RE := hide hr0
          clear hvs hrx hv0 hr0 hxo hxm O9 HEq
          obtain ⟨⟨-, f1, f2, f3, f4, f5⟩, f6, f7, f8, f9, f10⟩ := F9.out
          go_wp2
          exact bodyPost_ret (res_two (fn := Tryz.f39) (p := 2) (u := 3) rfl _ _ w.heap.size _ _ _ _ _ (.bool true) rfl rfl (put5_five F9.out (.int .i64 z0) (.slice zA zn zc) (.int .i64 z1) (.int .i64 z2) (.slice zB zm zd))) rfl (postX_fin hlt P9.out Bt9.out HL.out RE.out (fun y r h => by rw [HEn.out] at h; cases h; exact ⟨rfl, rfl, rfl⟩) (fun h => by rw [HEn.out] at h; cases h))
        · have HEn := hide (show E = some (.mk 3 [] 0 0 (acc ++ [x3]), l3) by rw [HEq.out, wrapS_two 3 _ (by omega)])
          have hq1 : ((YM : Int) == 1) = false := beq_eq_false_iff_ne.2 (by omega)
          have RE := hide (O9.out.rx 3 (by omega))
          clear hvs hrx hxm O9 HEq
          obtain ⟨⟨-, f1, f2, f3, f4, f5⟩, f6, f7, f8, f9, f10⟩ := F9.out
          go_wp2
          exact bodyPost_ret (res_two (fn := Tryz.f39) (p := 2) (u := 3) rfl _ _ w.heap.size _ _ _ _ _ (.bool true) rfl rfl (put5_five F9.out (.int .i64 3) (.slice none 0 0) (.int .i64 0) (.int .i64 0) (.slice YA YM YD))) rfl (postX_fin hlt P9.out Bt9.out HL.out RE.out (fun y r h => by rw [HEn.out] at h; cases h; exact ⟨rfl, rfl, rfl⟩) (fun h => by rw [HEn.out] at h; cases h))

/-! ### NU -/

theorem pparsers : ∀ n m, m ≤ n → PAtomC m ∧ PItemC m ∧ PSeqC m ∧ PAltC m := by
  intro n
  induction n with
  | zero =>
    intro m hm
    obtain rfl : m = 0 := by omega
    exact ⟨fun p l w _ _ h => by omega, fun p l w _ _ h => by omega, fun p l w _ _ h => by omega, fun p l w _ _ h => by omega⟩
  | succ n ih =>
    intro m hm
    by_cases h : m ≤ n
    · exact ih m h
    · obtain rfl : m = n + 1 := by omega
      exact ⟨atom88 n (ih n (Nat.le_refl _)).2.2.2, item71 n (ih n (Nat.le_refl _)).1, seq54 n fun n' h' => (ih n' h').2.1, alt39 n fun n' h' => (ih n' h').2.2.1⟩
theorem parse_end' (l : List UInt8) (h : ¬ 300 < l.length) : parseS l = match altP (4 * l.length + 4) [] l with | some (r, m) => (if m = [] then (if rightR r = 0 then (r, 0) else (rx0, rightR r)) else (rx0, 3)) | none => (rx0, 3) := by
  unfold parseS
  rw [if_neg h]
  cases altP (4 * l.length + 4) [] l with
  | none => rfl
  | some q =>
    obtain ⟨r, m⟩ := q
    cases m with
    | nil => rfl
    | cons c m => rfl

set_option maxRecDepth 100000 in
set_option maxHeartbeats 12800000 in
theorem pparse16 (s : ByteArray) (hs : s.size ≤ 9223372036854775807) (w : World) : Calls Tryz.prog 16 #[.string s] w (GotX w (parseS s.data.toList)) := by
  obtain ⟨E, hE⟩ : ∃ E, parseS s.data.toList = E := ⟨_, rfl⟩
  rw [hE]
  obtain ⟨w0, hw0⟩ : ∃ w0, w.alloc (.cells #[.int .i64 0, .slice none 0 0, .int .i64 0, .int .i64 0, .slice none 0 0] 25) = w0 := ⟨_, rfl⟩
  have HF0 := hide (show FiveF w0 w.heap.size (.int .i64 0) (.slice none 0 0) (.int .i64 0) (.int .i64 0) (.slice none 0 0) by rw [← hw0]; exact fiveF_new w _ _ _ _ _ 25)
  have HB0 := hide (show Below w.heap.size w w0 by rw [← hw0]; exact bnew (Below.refl _ w) _)
  have hs1 : w.heap.size + 1 ≤ w0.heap.size := by rw [← hw0]; simp
  have hsb : (s.size : Int) ≤ 9223372036854775807 := by omega
  by_cases h300 : 300 < s.size
  · have h3 : (300 : Int) < (s.size : Int) := by omega
    have HEn := hide (show E = (rx0, 4) by rw [← hE]; unfold parseS; rw [if_pos (by simpa using h300)])
    clear hE
    go_enter Tryz.func16, Tryz.ntmps16
    obtain ⟨⟨-, f1, f2, f3, f4, f5⟩, f6, f7, f8, f9, f10⟩ := HF0.out
    go_wp2
    exact bodyPost_ret (res_two (fn := Tryz.f16) (p := 2) (u := 3) rfl _ _ w.heap.size _ _ _ _ _ (.int .i64 4) rfl rfl (put5_five HF0.out (.int .i64 0) (.slice none 0 0) (.int .i64 0) (.int .i64 0) (.slice none 0 0))) rfl ⟨_, fun _ => True, by (rw [HEn.out] <;> rfl), by rw [HEn.out]; exact rxv_zero, put5_below HB0.out (Nat.le_refl _)⟩
  have h3 : ¬ (300 : Int) < (s.size : Int) := by omega
  obtain ⟨w1, hw1⟩ : ∃ w1, w0.alloc (.cells #[.string s] 51) = w1 := ⟨_, rfl⟩
  have hb1 : Below w0.heap.size w0 w1 := by rw [← hw1]; exact bnew (Below.refl _ w0) _
  have hs11 : w1.heap.size = w0.heap.size + 1 := by rw [← hw1]; simp
  obtain ⟨l, hl⟩ : ∃ l, s.data.toList = l := ⟨_, rfl⟩
  have hbs : bs l = s := ba_ext (by rw [bs_list, hl])
  have hll : l.length = s.size := by rw [← hl]; simp
  have P1 : PB w1 w0.heap.size l := by unfold PB; rw [hbs, ← hw1]; exact heap_alloc_new w0 _
  have HA := hide ((pparsers (4 * l.length + 4) _ (Nat.le_refl _)).2.2.2 w0.heap.size l w1 P1 (by omega) (Nat.le_refl _))
  have F1 := HF0.out.at_ hb1 (by omega)
  rw [hl, parse_end' l (by omega)] at hE
  have hsz0 := fun x r => (parse_size (4 * l.length + 4)).2.2.2 [] l x r
  obtain ⟨o, ho⟩ : ∃ o, altP (4 * l.length + 4) [] l = o := ⟨_, rfl⟩
  rw [ho] at HA hE
  have hsz1 : ∀ x r, o = some (x, r) → sizeR x ≤ 601 := fun x r h => by
    have := hsz0 x r (ho.trans h)
    rw [if_pos rfl] at this
    simp only [sizeL] at this
    omega
  have HE := hide hE
  have Hsz := hide hsz1
  have HF1 := hide F1
  have HB1 := hide (HB0.out.trans (hb1.mono (by omega)))
  clear hE ho hsz0 hsz1 F1 P1 hb1 hbs hll hl
  go_enter Tryz.func16, Tryz.ntmps16
  go_wp2_with fail
  with_reducible refine HA.out.mono ?_
  rintro e w3 ⟨v3, b3, l3, x3, rfl, hx3, hp3, hb3, hl3, hy3, hn3⟩
  obtain ⟨q0, qA, qn, qc, q1, q2, qB, qm, qd, rfl⟩ := hx3.agg9
  have hs3 := hb3.size
  obtain ⟨w4, hw4⟩ : ∃ w4, w3.alloc (.cells #[.int .i64 q0, .slice qA qn qc, .int .i64 q1, .int .i64 q2, .slice qB qm qd] 25) = w4 := ⟨_, rfl⟩
  have hb4 : Below w3.heap.size w3 w4 := by rw [← hw4]; exact bnew (Below.refl _ w3) _
  have hs4 : w4.heap.size = w3.heap.size + 1 := by rw [← hw4]; simp
  have g4 : Five w4 w3.heap.size (.int .i64 q0) (.slice qA qn qc) (.int .i64 q1) (.int .i64 q2) (.slice qB qm qd) := by rw [← hw4]; exact five_new w3 _ _ _ _ _ 25
  have G4 := hide g4
  have p4 := hp3.keep hb4
  have B4 := hide (HB1.out.trans ((hb3.up (B := w.heap.size) (by omega) (by omega)).trans (hb4.mono (by omega))))
  have F4 := hide ((HF1.out.bt hb3 (by omega)).at_ hb4 (by omega))
  have R4 := hide (hx3.map (W' := w4) (ok' := fun g => w.heap.size + 1 ≤ g) (fun q _ hq => hb4.cell hq) fun g hg _ => by omega)
  obtain ⟨-, b0, b1, b2, b3', b4⟩ := g4
  have hw43 : w.heap.size ≤ w4.heap.size := by omega
  have hw44 : w.heap.size + 1 ≤ w4.heap.size := by omega
  have hw34 : w3.heap.size < w4.heap.size := by omega
  obtain ⟨S, hS⟩ : ∃ S, bs l3 = S := ⟨_, rfl⟩
  have hcS : w4.cell? ⟨w0.heap.size, 0, none⟩ = some (.string S) := by rw [← hS]; exact p4.cell
  cases b3 with
  | false =>
    have HEn := hide (show E = (rx0, 3) by
      rw [← HE.out]
      cases o with
      | none => rfl
      | some q => exact absurd (hy3 q.1 q.2 rfl).1 (by simp))
    clear hx3 hp3 hb3 hy3 hn3 hb4 hs4 p4 hS
    obtain ⟨⟨-, f1, f2, f3, f4, f5⟩, f6, f7, f8, f9, f10⟩ := F4.out
    go_wp2
    exact bodyPost_ret (res_two (fn := Tryz.f16) (p := 2) (u := 3) rfl _ _ w.heap.size _ _ _ _ _ (.int .i64 3) rfl rfl (put5_five F4.out (.int .i64 0) (.slice none 0 0) (.int .i64 0) (.int .i64 0) (.slice none 0 0))) rfl ⟨_, fun _ => True, by (rw [HEn.out] <;> rfl), by rw [HEn.out]; exact rxv_zero, put5_below B4.out (Nat.le_refl _)⟩
  | true =>
    have hso : o = some (x3, l3) := by
      cases o with
      | none => exact absurd (hn3 rfl) (by simp)
      | some q =>
        obtain ⟨_, h1, h2⟩ := hy3 q.1 q.2 rfl
        rw [h1, h2]
    have hsx := Hsz.out _ _ hso
    have hdx := depth_size x3
    have hE2 : (if l3 = [] then (if rightR x3 = 0 then (x3, 0) else (rx0, rightR x3)) else (rx0, 3)) = E := by rw [← HE.out, hso]
    have HR := hide (fun (W : World) (ok : Nat → Prop) (v : Value) (h : RxV W ok v x3) => pright12 h (by omega) (by omega))
    clear hx3 hp3 hb3 hy3 hn3 hb4 hs4 p4 hso hsx hdx
    cases l3 with
    | cons c m =>
      have hne : ¬ S = (⟨#[]⟩ : ByteArray) := by rw [← hS]; exact bs_ne c m
      have hem : S.toList.isEmpty = false := by rw [← hS]; exact bs_empty c m
      rw [if_neg (by simp)] at hE2
      have HEn := hide hE2.symm
      clear hE2 hS
      obtain ⟨⟨-, f1, f2, f3, f4, f5⟩, f6, f7, f8, f9, f10⟩ := F4.out
      go_wp2
      exact bodyPost_ret (res_two (fn := Tryz.f16) (p := 2) (u := 3) rfl _ _ w.heap.size _ _ _ _ _ (.int .i64 3) rfl rfl (put5_five F4.out (.int .i64 0) (.slice none 0 0) (.int .i64 0) (.int .i64 0) (.slice none 0 0))) rfl ⟨_, fun _ => True, by (rw [HEn.out] <;> rfl), by rw [HEn.out]; exact rxv_zero, put5_below B4.out (Nat.le_refl _)⟩
    | nil =>
      obtain rfl : ⟨#[]⟩ = S := hS
      rw [if_pos rfl] at hE2
      obtain ⟨R, hRR⟩ : ∃ R, rightR x3 = R := ⟨_, rfl⟩
      rw [hRR] at HR hE2
      by_cases h0 : R = 0
      · rw [if_pos h0] at hE2
        have HEn := hide hE2.symm
        have hr0 : (R != 0) = false := by rw [h0]; rfl
        clear hE2 h0 hRR
        go_wp2_with fail
        with_reducible refine (HR.out _ _ _ R4.out).mono ?_
        rintro e w5 ⟨rfl, hbR⟩
        have F5 := hide (F4.out.at_ hbR (by omega))
        have g5 := G4.out.keep hbR
        obtain ⟨-, c0, c1, c2, c3, c4⟩ := g5
        have R5 := hide (R4.out.map (W' := w5) (ok' := fun g => w.heap.size + 1 ≤ g) (fun q _ hq => hbR.cell hq) fun g hg _ => hg)
        have B5 := hide (B4.out.trans (hbR.mono hw43))
        clear hbR
        obtain ⟨⟨-, f1, f2, f3, f4, f5⟩, f6, f7, f8, f9, f10⟩ := F5.out
        go_wp2
        exact bodyPost_ret (res_two (fn := Tryz.f16) (p := 2) (u := 3) rfl _ _ w.heap.size _ _ _ _ _ (.int .i64 0) rfl rfl (put5_five F5.out (.int .i64 q0) (.slice qA qn qc) (.int .i64 q1) (.int .i64 q2) (.slice qB qm qd))) rfl ⟨_, fun g => w.heap.size ≤ g, by (rw [HEn.out] <;> rfl), by rw [HEn.out]; exact put5_rxv R5.out (Nat.lt_succ_self _) _ (Nat.le_succ _), put5_below B5.out (Nat.le_refl _)⟩
      · rw [if_neg h0] at hE2
        have HEn := hide hE2.symm
        have hr0 : (R != 0) = true := bne_iff_ne.2 h0
        clear hE2 h0 hRR
        go_wp2_with fail
        with_reducible refine (HR.out _ _ _ R4.out).mono ?_
        rintro e w5 ⟨rfl, hbR⟩
        have F5 := hide (F4.out.at_ hbR (by omega))
        have B5 := hide (B4.out.trans (hbR.mono hw43))
        clear hbR
        obtain ⟨⟨-, f1, f2, f3, f4, f5⟩, f6, f7, f8, f9, f10⟩ := F5.out
        go_wp2
        exact bodyPost_ret (res_two (fn := Tryz.f16) (p := 2) (u := 3) rfl _ _ w.heap.size _ _ _ _ _ (.int .i64 R) rfl rfl (put5_five F5.out (.int .i64 0) (.slice none 0 0) (.int .i64 0) (.int .i64 0) (.slice none 0 0))) rfl ⟨_, fun _ => True, by (rw [HEn.out] <;> rfl), by rw [HEn.out]; exact rxv_zero, put5_below B5.out (Nat.le_refl _)⟩

end Go.Proofs.YtmiegjefmebpdaaGreatDoor
