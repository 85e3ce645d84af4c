/- The walk of the law on paths. -/
import Derived.Test.YtlabdaomgogflaaDoorW9
namespace Go.Proofs.YtlabdaomgogflaaDoor
open Go.RowKit

theorem hasM_of_shaped {w : World} (h : w.ShapedOpen Tryd.prog) : HasM w := by
  obtain ⟨m, hm⟩ := Tryd.laysM146.s1_3 w h
  exact ⟨World.block_lt_of_cell? w ⟨0, 0, none⟩ hm, m, hm⟩
theorem short11 (s : ByteArray) (b : Bool) (hb : decide (s.size ≤ 200) = b) (w : World) (hreach : s.size ≤ 9223372036854775807) : Calls Tryd.prog 11 #[.string s] w fun e w' => e = .returned (.bool b) ∧ w = w' := by
  subst hb
  by_cases h : s.size ≤ 200
  · rw [decide_eq_true h]
    go_enter Tryd.func11, Tryd.ntmps11
    go_wp2
    go_ret
    exact ⟨ret_bool (by simp; omega), rfl⟩
  · rw [decide_eq_false h]
    go_enter Tryd.func11, Tryd.ntmps11
    go_wp2
    go_ret
    exact ⟨ret_bool (by simp; omega), rfl⟩
theorem short_t (s : ByteArray) (h : s.size ≤ 200) (w : World) : Calls Tryd.prog 11 #[.string s] w fun e w' => e = .returned (.bool true) ∧ w = w' := short11 s true (decide_eq_true h) w (by omega)
theorem short_f (s : ByteArray) (h : ¬ s.size ≤ 200) (w : World) (hreach : s.size ≤ 9223372036854775807) : Calls Tryd.prog 11 #[.string s] w fun e w' => e = .returned (.bool false) ∧ w = w' := short11 s false (decide_eq_false h) w hreach

set_option maxHeartbeats 1600000 in
theorem law3 (p d : ByteArray) (w : World) (hm : HasM w) (hp : p.size ≤ 9223372036854775807) (hd : d.size ≤ 9223372036854775807) : Calls Tryd.prog 3 #[.string p, .string d] w fun e w' => e = .returned (.bool true) ∧ Below w.heap.size w w' := by
  by_cases h1 : p.size ≤ 200
  · by_cases h2 : d.size ≤ 200
    · obtain ⟨b, hb⟩ : ∃ b, validP p.data.toList = b := ⟨_, rfl⟩
      have v13 : ∀ w, Calls Tryd.prog 13 #[.string p] w fun e w' => e = .returned (.bool b) ∧ w = w' := fun w => by rw [← hb]; exact valid13 p w (by omega)
      have Hb := hide hb
      clear hb
      go_enter Tryd.func3, Tryd.ntmps3
      go_wp2_with fail
      refine (alive10 _ hm).mono ?_
      rintro e w1 ⟨rfl, hb1⟩
      have hm1 := hm.below hb1
      go_wp2_with fail
      refine (short_t p h1 _).mono ?_
      rintro e w' ⟨rfl, rfl⟩
      go_wp2_with fail
      refine (short_t d h2 _).mono ?_
      rintro e w' ⟨rfl, rfl⟩
      go_wp2_with fail
      refine (v12 p b Hb.out _ (by omega) hm1).mono ?_
      rintro e w2 ⟨rfl, hb2⟩
      have Hb2 := hide (bgo hb1 hb2)
      clear hb1 hb2 hm1
      go_wp2_with fail
      refine (v13 _).mono ?_
      rintro e w' ⟨rfl, rfl⟩
      cases b
      all_goals
        go_wp2_with fail
        refine (base14 p _ (by omega)).mono ?_
        rintro e w' ⟨rfl, rfl⟩
        go_wp2_with fail
        refine (base15 p _ (by omega)).mono ?_
        rintro e w' ⟨rfl, rfl⟩
        go_wp2_with fail
        refine (dir16 p _ (by omega)).mono ?_
        rintro e w' ⟨rfl, rfl⟩
        go_wp2_with fail
        refine (dir17 p _ (by omega)).mono ?_
        rintro e w' ⟨rfl, rfl⟩
        go_wp2_with fail
        refine (ext18 p _ (by omega)).mono ?_
        rintro e w' ⟨rfl, rfl⟩
        go_wp2_with fail
        refine (ext19 p _ (by omega)).mono ?_
        rintro e w' ⟨rfl, rfl⟩
        go_wp2_with fail
        refine (under20 p d _).mono ?_
        rintro e w' ⟨rfl, rfl⟩
        go_wp2_with fail
        refine (under21 p d _ (by omega) (by omega)).mono ?_
        rintro e w' ⟨rfl, rfl⟩
        go_wp2
        go_ret
        exact ⟨rfl, Hb2.out⟩
    · go_enter Tryd.func3, Tryd.ntmps3
      go_wp2_with fail
      refine (alive10 _ hm).mono ?_
      rintro e w1 ⟨rfl, hb1⟩
      go_wp2_with fail
      refine (short_t p h1 _).mono ?_
      rintro e w' ⟨rfl, rfl⟩
      go_wp2_with fail
      refine (short_f d h2 _ hd).mono ?_
      rintro e w' ⟨rfl, rfl⟩
      go_wp2
      go_ret
      exact ⟨rfl, hb1⟩
  · go_enter Tryd.func3, Tryd.ntmps3
    go_wp2_with fail
    refine (alive10 _ hm).mono ?_
    rintro e w1 ⟨rfl, hb1⟩
    go_wp2_with fail
    refine (short_f p h1 _ hp).mono ?_
    rintro e w' ⟨rfl, rfl⟩
    go_wp2
    go_ret
    exact ⟨rfl, hb1⟩

end Go.Proofs.YtlabdaomgogflaaDoor
