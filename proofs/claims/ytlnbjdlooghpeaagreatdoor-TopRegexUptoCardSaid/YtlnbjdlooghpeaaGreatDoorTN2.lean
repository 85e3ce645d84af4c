/- TopRegex: N2. -/
import Derived.Test.YtlnbjdlooghpeaaGreatDoorTN1
import Derived.BigQuiet
namespace Go.Proofs.YtlnbjdlooghpeaaGreatDoor
open Go.RowKit
def fAlt (k1 k2 k3 k4 k5 k6 k7 z0 za zb zm rs m1 m2 : Bool) : Bool :=
  bif k1 then rs && (za && zb) && zm else bif k2 then z0 && (za && zb) else bif k3 then z0 && (za && zb) && m2 else bif k4 then z0 && m1 else bif k5 || k6 || k7 then z0 && (za && zb) && zm else false
theorem fields_alt (k a b : Int) (s : List (UInt8 × UInt8)) (l : List Rx) (n m : Nat) (hn : s.length = n) (hm : l.length = m) :
    fieldsR (.mk k s a b l) = fAlt (k == 1) (k == 2) (k == 3) (k == 4) (k == 5) (k == 6) (k == 7) ((n : Int) == 0) (a == 0) (b == 0) ((m : Int) == 0) (decide (0 < n) && s.all fun r => decide (r.1 ≤ r.2)) ((m : Int) == 1) (decide (2 ≤ (m : Int))) := by
  subst hn hm
  have e0 : ∀ n : Nat, ((n : Int) == 0) = decide (n = 0) := fun n => by rw [Bool.eq_iff_iff]; simp
  have e1 : ∀ n : Nat, ((n : Int) == 1) = decide (n = 1) := fun n => by rw [Bool.eq_iff_iff]; simp; omega
  have e2 : ∀ n : Nat, (decide (2 ≤ (n : Int))) = decide (2 ≤ n) := fun n => by rw [Bool.eq_iff_iff]; simp; omega
  have ab : (decide (a = 0 ∧ b = 0)) = ((a == 0) && (b == 0)) := by rw [Bool.eq_iff_iff]; simp
  have nil : s.length = 0 → (s.all fun r => decide (r.1 ≤ r.2)) = true := fun h => by rw [List.eq_nil_of_length_eq_zero h]; rfl
  simp only [fieldsR, fAlt, e0, e1, e2, ab]
  generalize ((a == 0) && (b == 0)) = nb
  have key : ∀ j : Int, (k == j) = decide (k = j) := fun j => by rw [Bool.eq_iff_iff]; simp
  simp only [key]
  generalize hall : (s.all fun r => decide (r.1 ≤ r.2)) = al at *
  by_cases h1 : k = 1
  · subst h1
    cases al <;> cases nb <;> simp
  · have hr : decide (1 ≤ k ∧ k ≤ 7) = (decide (k = 2) || decide (k = 3) || decide (k = 4) || (decide (k = 5) || decide (k = 6) || decide (k = 7))) := by
      rw [Bool.eq_iff_iff]
      simp
      omega
    rw [hr]
    by_cases hl : s.length = 0
    · rw [nil hl, hl]
      by_cases h2 : k = 2
      · subst h2; cases nb <;> simp
      · by_cases h3 : k = 3
        · subst h3; cases nb <;> simp
        · by_cases h4 : k = 4
          · subst h4; simp
          · have h5 : (decide (k = 5) || decide (k = 6) || decide (k = 7)) = (decide (k = 5) || decide (k = 6) || decide (k = 7)) := rfl
            generalize (decide (k = 5) || decide (k = 6) || decide (k = 7)) = q at *
            cases nb <;> cases q <;> simp [h1, h2, h3, h4]
    · have hp : 0 < s.length := by omega
      generalize (decide (k = 5) || decide (k = 6) || decide (k = 7)) = q at *
      cases q <;> cases nb <;> cases hd2 : decide (k = 2) <;> cases hd3 : decide (k = 3) <;> cases hd4 : decide (k = 4) <;> simp [h1, hl, hp]
set_option maxRecDepth 100000 in
set_option maxHeartbeats 6400000 in
theorem pfields70 {W : World} {ok : Nat → Prop} {v : Value} {r : Rx} (hv : RxV W ok v r) (q : Bool) (hq : fieldsR r = q) : Calls Tryz.prog 98 #[v] W fun e w' => e = .returned (.bool q) ∧ Below W.heap.size W w' := by
  cases hv with
  | mk k a b A B n c m d s vs l hset hvs hlen hk ha hb hr =>
  have hnc := hset.1
  have hcc := hset.2.1
  have hmd := hvs.1
  have hdd := hvs.2.1
  rw [fields_alt k a b s l n m hset.2.2.1 hlen] at hq
  obtain ⟨rs, hrs⟩ : ∃ x, (decide (0 < n) && s.all fun r => decide (r.1 ≤ r.2)) = x := ⟨_, rfl⟩
  rw [hrs] at hq
  have hB := bnew (Below.refl _ W) (.cells #[.int .i64 k, .slice A n c, .int .i64 a, .int .i64 b, .slice B m d] 25)
  obtain ⟨w0, hw0⟩ : ∃ w0, W.alloc (.cells #[.int .i64 k, .slice A n c, .int .i64 a, .int .i64 b, .slice B m d] 25) = w0 := ⟨_, rfl⟩
  have hF := five_new W (.int .i64 k) (.slice A n c) (.int .i64 a) (.int .i64 b) (.slice B m d) 25
  have hS := hset.below hB
  rw [hw0] at hB hF hS
  have BB := hide hB
  have HC := hide (fun j : Nat => rightset83 (W := w0.drewN j) (hS.below (Drawn.below ⟨j, rfl⟩ _)) rs hrs)
  obtain ⟨_, t0, t1, t2, t3, t4⟩ := hF
  obtain ⟨k1, hk1⟩ : ∃ x, (k == 1) = x := ⟨_, rfl⟩
  obtain ⟨k2, hk2⟩ : ∃ x, (k == 2) = x := ⟨_, rfl⟩
  obtain ⟨k3, hk3⟩ : ∃ x, (k == 3) = x := ⟨_, rfl⟩
  obtain ⟨k4, hk4⟩ : ∃ x, (k == 4) = x := ⟨_, rfl⟩
  obtain ⟨k5, hk5⟩ : ∃ x, (k == 5) = x := ⟨_, rfl⟩
  obtain ⟨k6, hk6⟩ : ∃ x, (k == 6) = x := ⟨_, rfl⟩
  obtain ⟨k7, hk7⟩ : ∃ x, (k == 7) = x := ⟨_, rfl⟩
  obtain ⟨z0, hz0⟩ : ∃ x, ((n : Int) == 0) = x := ⟨_, rfl⟩
  obtain ⟨za, hza⟩ : ∃ x, (a == 0) = x := ⟨_, rfl⟩
  obtain ⟨zb, hzb⟩ : ∃ x, (b == 0) = x := ⟨_, rfl⟩
  obtain ⟨zm, hzm⟩ : ∃ x, ((m : Int) == 0) = x := ⟨_, rfl⟩
  obtain ⟨m1, hm1⟩ : ∃ x, ((m : Int) == 1) = x := ⟨_, rfl⟩
  obtain ⟨m2, hm2⟩ : ∃ x, (decide (2 ≤ (m : Int))) = x := ⟨_, rfl⟩
  rw [hk1, hk2, hk3, hk4, hk5, hk6, hk7, hz0, hza, hzb, hzm, hm1, hm2] at hq
  have Hq := hide hq
  clear hq hset hvs hr hrs hB hS hlen
  have hd2 : decide ((2 : Int) ≤ (m : Int)) = m2 := hm2
  cases za with
  | true =>
    cases zb with
    | true =>
      cases k1 with
      | true =>
        cases rs with
        | true =>
          go_enter Tryz.func98, Tryz.ntmps98
          go_wp2
          go_quiet (fail)
          go_wp2_with fail
          with_reducible refine (HC.out _).mono ?_
          rintro e w2 ⟨rfl, hb2⟩
          have B2 := hide (bgo (bgo BB.out (Drawn.below ⟨_, rfl⟩ _)) hb2)
          clear hb2
          go_wp2
          go_ret
          exact ⟨ret_bool Hq.out, B2.out⟩
        | false =>
          go_enter Tryz.func98, Tryz.ntmps98
          go_wp2
          go_quiet (fail)
          go_wp2_with fail
          with_reducible refine (HC.out _).mono ?_
          rintro e w2 ⟨rfl, hb2⟩
          have B2 := hide (bgo (bgo BB.out (Drawn.below ⟨_, rfl⟩ _)) hb2)
          clear hb2
          go_wp2
          go_ret
          exact ⟨ret_bool Hq.out, B2.out⟩
      | false =>
        cases k2 with
        | true =>
          cases z0 with
          | true =>
            go_enter Tryz.func98, Tryz.ntmps98
            go_wp2
            go_quiet (fail)
            go_wp2_with fail
            go_ret
            exact ⟨ret_bool Hq.out, bgo BB.out (Drawn.below ⟨_, rfl⟩ _)⟩
          | false =>
            go_enter Tryz.func98, Tryz.ntmps98
            go_wp2
            go_quiet (fail)
            go_wp2_with fail
            go_ret
            exact ⟨ret_bool Hq.out, bgo BB.out (Drawn.below ⟨_, rfl⟩ _)⟩
        | false =>
          cases k3 with
          | true =>
            cases z0 with
            | true =>
              go_enter Tryz.func98, Tryz.ntmps98
              go_wp2
              go_quiet (fail)
              go_wp2_with fail
              go_ret
              exact ⟨ret_bool Hq.out, bgo BB.out (Drawn.below ⟨_, rfl⟩ _)⟩
            | false =>
              go_enter Tryz.func98, Tryz.ntmps98
              go_wp2
              go_quiet (fail)
              go_wp2_with fail
              go_ret
              exact ⟨ret_bool Hq.out, bgo BB.out (Drawn.below ⟨_, rfl⟩ _)⟩
          | false =>
            cases k4 with
            | true =>
              cases z0 with
              | true =>
                go_enter Tryz.func98, Tryz.ntmps98
                go_wp2
                go_quiet (fail)
                go_wp2_with fail
                go_ret
                exact ⟨ret_bool Hq.out, bgo BB.out (Drawn.below ⟨_, rfl⟩ _)⟩
              | false =>
                go_enter Tryz.func98, Tryz.ntmps98
                go_wp2
                go_quiet (fail)
                go_wp2_with fail
                go_ret
                exact ⟨ret_bool Hq.out, bgo BB.out (Drawn.below ⟨_, rfl⟩ _)⟩
            | false =>
              cases k5 with
              | true =>
                cases z0 with
                | true =>
                  go_enter Tryz.func98, Tryz.ntmps98
                  go_wp2
                  go_quiet (fail)
                  go_wp2_with fail
                  go_ret
                  exact ⟨ret_bool Hq.out, bgo BB.out (Drawn.below ⟨_, rfl⟩ _)⟩
                | false =>
                  go_enter Tryz.func98, Tryz.ntmps98
                  go_wp2
                  go_quiet (fail)
                  go_wp2_with fail
                  go_ret
                  exact ⟨ret_bool Hq.out, bgo BB.out (Drawn.below ⟨_, rfl⟩ _)⟩
              | false =>
                cases k6 with
                | true =>
                  cases z0 with
                  | true =>
                    go_enter Tryz.func98, Tryz.ntmps98
                    go_wp2
                    go_quiet (fail)
                    go_wp2_with fail
                    go_ret
                    exact ⟨ret_bool Hq.out, bgo BB.out (Drawn.below ⟨_, rfl⟩ _)⟩
                  | false =>
                    go_enter Tryz.func98, Tryz.ntmps98
                    go_wp2
                    go_quiet (fail)
                    go_wp2_with fail
                    go_ret
                    exact ⟨ret_bool Hq.out, bgo BB.out (Drawn.below ⟨_, rfl⟩ _)⟩
                | false =>
                  cases k7 with
                  | true =>
                    cases z0 with
                    | true =>
                      go_enter Tryz.func98, Tryz.ntmps98
                      go_wp2
                      go_quiet (fail)
                      go_wp2_with fail
                      go_ret
                      exact ⟨ret_bool Hq.out, bgo BB.out (Drawn.below ⟨_, rfl⟩ _)⟩
                    | false =>
                      go_enter Tryz.func98, Tryz.ntmps98
                      go_wp2
                      go_quiet (fail)
                      go_wp2_with fail
                      go_ret
                      exact ⟨ret_bool Hq.out, bgo BB.out (Drawn.below ⟨_, rfl⟩ _)⟩
                  | false =>
                    go_enter Tryz.func98, Tryz.ntmps98
                    go_wp2
                    go_quiet (fail)
                    go_wp2_with fail
                    go_ret
                    exact ⟨ret_bool Hq.out, bgo BB.out (Drawn.below ⟨_, rfl⟩ _)⟩
    | false =>
      cases k1 with
      | true =>
        cases rs with
        | true =>
          go_enter Tryz.func98, Tryz.ntmps98
          go_wp2
          go_quiet (fail)
          go_wp2_with fail
          with_reducible refine (HC.out _).mono ?_
          rintro e w2 ⟨rfl, hb2⟩
          have B2 := hide (bgo (bgo BB.out (Drawn.below ⟨_, rfl⟩ _)) hb2)
          clear hb2
          go_wp2
          go_ret
          exact ⟨ret_bool Hq.out, B2.out⟩
        | false =>
          go_enter Tryz.func98, Tryz.ntmps98
          go_wp2
          go_quiet (fail)
          go_wp2_with fail
          with_reducible refine (HC.out _).mono ?_
          rintro e w2 ⟨rfl, hb2⟩
          have B2 := hide (bgo (bgo BB.out (Drawn.below ⟨_, rfl⟩ _)) hb2)
          clear hb2
          go_wp2
          go_ret
          exact ⟨ret_bool Hq.out, B2.out⟩
      | false =>
        cases k2 with
        | true =>
          cases z0 with
          | true =>
            go_enter Tryz.func98, Tryz.ntmps98
            go_wp2
            go_quiet (fail)
            go_wp2_with fail
            go_ret
            exact ⟨ret_bool Hq.out, bgo BB.out (Drawn.below ⟨_, rfl⟩ _)⟩
          | false =>
            go_enter Tryz.func98, Tryz.ntmps98
            go_wp2
            go_quiet (fail)
            go_wp2_with fail
            go_ret
            exact ⟨ret_bool Hq.out, bgo BB.out (Drawn.below ⟨_, rfl⟩ _)⟩
        | false =>
          cases k3 with
          | true =>
            cases z0 with
            | true =>
              go_enter Tryz.func98, Tryz.ntmps98
              go_wp2
              go_quiet (fail)
              go_wp2_with fail
              go_ret
              exact ⟨ret_bool Hq.out, bgo BB.out (Drawn.below ⟨_, rfl⟩ _)⟩
            | false =>
              go_enter Tryz.func98, Tryz.ntmps98
              go_wp2
              go_quiet (fail)
              go_wp2_with fail
              go_ret
              exact ⟨ret_bool Hq.out, bgo BB.out (Drawn.below ⟨_, rfl⟩ _)⟩
          | false =>
            cases k4 with
            | true =>
              cases z0 with
              | true =>
                go_enter Tryz.func98, Tryz.ntmps98
                go_wp2
                go_quiet (fail)
                go_wp2_with fail
                go_ret
                exact ⟨ret_bool Hq.out, bgo BB.out (Drawn.below ⟨_, rfl⟩ _)⟩
              | false =>
                go_enter Tryz.func98, Tryz.ntmps98
                go_wp2
                go_quiet (fail)
                go_wp2_with fail
                go_ret
                exact ⟨ret_bool Hq.out, bgo BB.out (Drawn.below ⟨_, rfl⟩ _)⟩
            | false =>
              cases k5 with
              | true =>
                cases z0 with
                | true =>
                  go_enter Tryz.func98, Tryz.ntmps98
                  go_wp2
                  go_quiet (fail)
                  go_wp2_with fail
                  go_ret
                  exact ⟨ret_bool Hq.out, bgo BB.out (Drawn.below ⟨_, rfl⟩ _)⟩
                | false =>
                  go_enter Tryz.func98, Tryz.ntmps98
                  go_wp2
                  go_quiet (fail)
                  go_wp2_with fail
                  go_ret
                  exact ⟨ret_bool Hq.out, bgo BB.out (Drawn.below ⟨_, rfl⟩ _)⟩
              | false =>
                cases k6 with
                | true =>
                  cases z0 with
                  | true =>
                    go_enter Tryz.func98, Tryz.ntmps98
                    go_wp2
                    go_quiet (fail)
                    go_wp2_with fail
                    go_ret
                    exact ⟨ret_bool Hq.out, bgo BB.out (Drawn.below ⟨_, rfl⟩ _)⟩
                  | false =>
                    go_enter Tryz.func98, Tryz.ntmps98
                    go_wp2
                    go_quiet (fail)
                    go_wp2_with fail
                    go_ret
                    exact ⟨ret_bool Hq.out, bgo BB.out (Drawn.below ⟨_, rfl⟩ _)⟩
                | false =>
                  cases k7 with
                  | true =>
                    cases z0 with
                    | true =>
                      go_enter Tryz.func98, Tryz.ntmps98
                      go_wp2
                      go_quiet (fail)
                      go_wp2_with fail
                      go_ret
                      exact ⟨ret_bool Hq.out, bgo BB.out (Drawn.below ⟨_, rfl⟩ _)⟩
                    | false =>
                      go_enter Tryz.func98, Tryz.ntmps98
                      go_wp2
                      go_quiet (fail)
                      go_wp2_with fail
                      go_ret
                      exact ⟨ret_bool Hq.out, bgo BB.out (Drawn.below ⟨_, rfl⟩ _)⟩
                  | false =>
                    go_enter Tryz.func98, Tryz.ntmps98
                    go_wp2
                    go_quiet (fail)
                    go_wp2_with fail
                    go_ret
                    exact ⟨ret_bool Hq.out, bgo BB.out (Drawn.below ⟨_, rfl⟩ _)⟩
  | false =>
    cases zb with
    | true =>
      cases k1 with
      | true =>
        cases rs with
        | true =>
          go_enter Tryz.func98, Tryz.ntmps98
          go_wp2
          go_quiet (fail)
          go_wp2_with fail
          with_reducible refine (HC.out _).mono ?_
          rintro e w2 ⟨rfl, hb2⟩
          have B2 := hide (bgo (bgo BB.out (Drawn.below ⟨_, rfl⟩ _)) hb2)
          clear hb2
          go_wp2
          go_ret
          exact ⟨ret_bool Hq.out, B2.out⟩
        | false =>
          go_enter Tryz.func98, Tryz.ntmps98
          go_wp2
          go_quiet (fail)
          go_wp2_with fail
          with_reducible refine (HC.out _).mono ?_
          rintro e w2 ⟨rfl, hb2⟩
          have B2 := hide (bgo (bgo BB.out (Drawn.below ⟨_, rfl⟩ _)) hb2)
          clear hb2
          go_wp2
          go_ret
          exact ⟨ret_bool Hq.out, B2.out⟩
      | false =>
        cases k2 with
        | true =>
          cases z0 with
          | true =>
            go_enter Tryz.func98, Tryz.ntmps98
            go_wp2
            go_quiet (fail)
            go_wp2_with fail
            go_ret
            exact ⟨ret_bool Hq.out, bgo BB.out (Drawn.below ⟨_, rfl⟩ _)⟩
          | false =>
            go_enter Tryz.func98, Tryz.ntmps98
            go_wp2
            go_quiet (fail)
            go_wp2_with fail
            go_ret
            exact ⟨ret_bool Hq.out, bgo BB.out (Drawn.below ⟨_, rfl⟩ _)⟩
        | false =>
          cases k3 with
          | true =>
            cases z0 with
            | true =>
              go_enter Tryz.func98, Tryz.ntmps98
              go_wp2
              go_quiet (fail)
              go_wp2_with fail
              go_ret
              exact ⟨ret_bool Hq.out, bgo BB.out (Drawn.below ⟨_, rfl⟩ _)⟩
            | false =>
              go_enter Tryz.func98, Tryz.ntmps98
              go_wp2
              go_quiet (fail)
              go_wp2_with fail
              go_ret
              exact ⟨ret_bool Hq.out, bgo BB.out (Drawn.below ⟨_, rfl⟩ _)⟩
          | false =>
            cases k4 with
            | true =>
              cases z0 with
              | true =>
                go_enter Tryz.func98, Tryz.ntmps98
                go_wp2
                go_quiet (fail)
                go_wp2_with fail
                go_ret
                exact ⟨ret_bool Hq.out, bgo BB.out (Drawn.below ⟨_, rfl⟩ _)⟩
              | false =>
                go_enter Tryz.func98, Tryz.ntmps98
                go_wp2
                go_quiet (fail)
                go_wp2_with fail
                go_ret
                exact ⟨ret_bool Hq.out, bgo BB.out (Drawn.below ⟨_, rfl⟩ _)⟩
            | false =>
              cases k5 with
              | true =>
                cases z0 with
                | true =>
                  go_enter Tryz.func98, Tryz.ntmps98
                  go_wp2
                  go_quiet (fail)
                  go_wp2_with fail
                  go_ret
                  exact ⟨ret_bool Hq.out, bgo BB.out (Drawn.below ⟨_, rfl⟩ _)⟩
                | false =>
                  go_enter Tryz.func98, Tryz.ntmps98
                  go_wp2
                  go_quiet (fail)
                  go_wp2_with fail
                  go_ret
                  exact ⟨ret_bool Hq.out, bgo BB.out (Drawn.below ⟨_, rfl⟩ _)⟩
              | false =>
                cases k6 with
                | true =>
                  cases z0 with
                  | true =>
                    go_enter Tryz.func98, Tryz.ntmps98
                    go_wp2
                    go_quiet (fail)
                    go_wp2_with fail
                    go_ret
                    exact ⟨ret_bool Hq.out, bgo BB.out (Drawn.below ⟨_, rfl⟩ _)⟩
                  | false =>
                    go_enter Tryz.func98, Tryz.ntmps98
                    go_wp2
                    go_quiet (fail)
                    go_wp2_with fail
                    go_ret
                    exact ⟨ret_bool Hq.out, bgo BB.out (Drawn.below ⟨_, rfl⟩ _)⟩
                | false =>
                  cases k7 with
                  | true =>
                    cases z0 with
                    | true =>
                      go_enter Tryz.func98, Tryz.ntmps98
                      go_wp2
                      go_quiet (fail)
                      go_wp2_with fail
                      go_ret
                      exact ⟨ret_bool Hq.out, bgo BB.out (Drawn.below ⟨_, rfl⟩ _)⟩
                    | false =>
                      go_enter Tryz.func98, Tryz.ntmps98
                      go_wp2
                      go_quiet (fail)
                      go_wp2_with fail
                      go_ret
                      exact ⟨ret_bool Hq.out, bgo BB.out (Drawn.below ⟨_, rfl⟩ _)⟩
                  | false =>
                    go_enter Tryz.func98, Tryz.ntmps98
                    go_wp2
                    go_quiet (fail)
                    go_wp2_with fail
                    go_ret
                    exact ⟨ret_bool Hq.out, bgo BB.out (Drawn.below ⟨_, rfl⟩ _)⟩
    | false =>
      cases k1 with
      | true =>
        cases rs with
        | true =>
          go_enter Tryz.func98, Tryz.ntmps98
          go_wp2
          go_quiet (fail)
          go_wp2_with fail
          with_reducible refine (HC.out _).mono ?_
          rintro e w2 ⟨rfl, hb2⟩
          have B2 := hide (bgo (bgo BB.out (Drawn.below ⟨_, rfl⟩ _)) hb2)
          clear hb2
          go_wp2
          go_ret
          exact ⟨ret_bool Hq.out, B2.out⟩
        | false =>
          go_enter Tryz.func98, Tryz.ntmps98
          go_wp2
          go_quiet (fail)
          go_wp2_with fail
          with_reducible refine (HC.out _).mono ?_
          rintro e w2 ⟨rfl, hb2⟩
          have B2 := hide (bgo (bgo BB.out (Drawn.below ⟨_, rfl⟩ _)) hb2)
          clear hb2
          go_wp2
          go_ret
          exact ⟨ret_bool Hq.out, B2.out⟩
      | false =>
        cases k2 with
        | true =>
          cases z0 with
          | true =>
            go_enter Tryz.func98, Tryz.ntmps98
            go_wp2
            go_quiet (fail)
            go_wp2_with fail
            go_ret
            exact ⟨ret_bool Hq.out, bgo BB.out (Drawn.below ⟨_, rfl⟩ _)⟩
          | false =>
            go_enter Tryz.func98, Tryz.ntmps98
            go_wp2
            go_quiet (fail)
            go_wp2_with fail
            go_ret
            exact ⟨ret_bool Hq.out, bgo BB.out (Drawn.below ⟨_, rfl⟩ _)⟩
        | false =>
          cases k3 with
          | true =>
            cases z0 with
            | true =>
              go_enter Tryz.func98, Tryz.ntmps98
              go_wp2
              go_quiet (fail)
              go_wp2_with fail
              go_ret
              exact ⟨ret_bool Hq.out, bgo BB.out (Drawn.below ⟨_, rfl⟩ _)⟩
            | false =>
              go_enter Tryz.func98, Tryz.ntmps98
              go_wp2
              go_quiet (fail)
              go_wp2_with fail
              go_ret
              exact ⟨ret_bool Hq.out, bgo BB.out (Drawn.below ⟨_, rfl⟩ _)⟩
          | false =>
            cases k4 with
            | true =>
              cases z0 with
              | true =>
                go_enter Tryz.func98, Tryz.ntmps98
                go_wp2
                go_quiet (fail)
                go_wp2_with fail
                go_ret
                exact ⟨ret_bool Hq.out, bgo BB.out (Drawn.below ⟨_, rfl⟩ _)⟩
              | false =>
                go_enter Tryz.func98, Tryz.ntmps98
                go_wp2
                go_quiet (fail)
                go_wp2_with fail
                go_ret
                exact ⟨ret_bool Hq.out, bgo BB.out (Drawn.below ⟨_, rfl⟩ _)⟩
            | false =>
              cases k5 with
              | true =>
                cases z0 with
                | true =>
                  go_enter Tryz.func98, Tryz.ntmps98
                  go_wp2
                  go_quiet (fail)
                  go_wp2_with fail
                  go_ret
                  exact ⟨ret_bool Hq.out, bgo BB.out (Drawn.below ⟨_, rfl⟩ _)⟩
                | false =>
                  go_enter Tryz.func98, Tryz.ntmps98
                  go_wp2
                  go_quiet (fail)
                  go_wp2_with fail
                  go_ret
                  exact ⟨ret_bool Hq.out, bgo BB.out (Drawn.below ⟨_, rfl⟩ _)⟩
              | false =>
                cases k6 with
                | true =>
                  cases z0 with
                  | true =>
                    go_enter Tryz.func98, Tryz.ntmps98
                    go_wp2
                    go_quiet (fail)
                    go_wp2_with fail
                    go_ret
                    exact ⟨ret_bool Hq.out, bgo BB.out (Drawn.below ⟨_, rfl⟩ _)⟩
                  | false =>
                    go_enter Tryz.func98, Tryz.ntmps98
                    go_wp2
                    go_quiet (fail)
                    go_wp2_with fail
                    go_ret
                    exact ⟨ret_bool Hq.out, bgo BB.out (Drawn.below ⟨_, rfl⟩ _)⟩
                | false =>
                  cases k7 with
                  | true =>
                    cases z0 with
                    | true =>
                      go_enter Tryz.func98, Tryz.ntmps98
                      go_wp2
                      go_quiet (fail)
                      go_wp2_with fail
                      go_ret
                      exact ⟨ret_bool Hq.out, bgo BB.out (Drawn.below ⟨_, rfl⟩ _)⟩
                    | false =>
                      go_enter Tryz.func98, Tryz.ntmps98
                      go_wp2
                      go_quiet (fail)
                      go_wp2_with fail
                      go_ret
                      exact ⟨ret_bool Hq.out, bgo BB.out (Drawn.below ⟨_, rfl⟩ _)⟩
                  | false =>
                    go_enter Tryz.func98, Tryz.ntmps98
                    go_wp2
                    go_quiet (fail)
                    go_wp2_with fail
                    go_ret
                    exact ⟨ret_bool Hq.out, bgo BB.out (Drawn.below ⟨_, rfl⟩ _)⟩
end Go.Proofs.YtlnbjdlooghpeaaGreatDoor
