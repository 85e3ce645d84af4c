/- The walk of the law on the patterns of asterisks alone. -/
import Derived.Test.YtlabdaomgogflaaDoorWB
namespace Go.Proofs.YtlabdaomgogflaaDoor
open Go.RowKit

theorem all_two (p : List UInt8) : matchL [42, 42] p = true := by
  have h1 : right [42, 42] = 0 := by decide
  have h2 : parts [42, 42] = [[42, 42]] := by decide
  unfold matchL
  rw [decide_eq_true h1, h2, Bool.true_and, mt_iff, Mt_one]
  unfold Lang
  rw [if_pos (by decide)]
  intro c _
  unfold takes
  rw [if_pos (by decide)]
  rfl
theorem all_one (p : List UInt8) : matchL [42] p = !slashL p := by
  have h1 : right [42] = 0 := by decide
  have h2 : parts [42] = [[42]] := by decide
  unfold matchL
  rw [decide_eq_true h1, h2, Bool.true_and, Bool.eq_iff_iff, mt_iff, Mt_one]
  unfold Lang slashL
  rw [if_pos (by decide), Bool.not_eq_true', List.any_eq_false]
  constructor
  · intro h c hc
    have := h c hc
    unfold takes at this
    rw [if_pos (by decide)] at this
    simpa using this
  · intro h c hc
    have := h c hc
    unfold takes
    rw [if_pos (by decide)]
    simpa using this

theorem slash28' (s : ByteArray) (b : Bool) (hb : slashL s.data.toList = b) (w : World) (hs : s.size ≤ 100000) : Calls Tryd.prog 28 #[.string s] w fun e w' => e = .returned (.bool b) ∧ w = w' := by
  subst hb; exact slash28 s w hs

set_option maxHeartbeats 1600000 in
theorem law9 (p : ByteArray) (w : World) (hm : HasM w) (hp : p.size ≤ 9223372036854775807) : Calls Tryd.prog 9 #[.string p] w fun e w' => e = .returned (.bool true) ∧ Below w.heap.size w w' := by
  by_cases h1 : p.size ≤ 200
  · have h2 := all_two p.data.toList
    have h3 := all_one p.data.toList
    cases hs : slashL p.data.toList
    all_goals
      rw [hs] at h3
      have Hs := hide hs
      have H2 := hide h2
      have H3 := hide h3
      clear hs h2 h3
      go_enter Tryd.func9, Tryd.ntmps9
      go_wp2_with fail
      refine (alive10 _ hm).mono ?_
      rintro e w1 ⟨rfl, hb1⟩
      have Hb1 := hide hb1
      clear hb1
      go_wp2_with fail
      refine (short_t p h1 _).mono ?_
      rintro e w' ⟨rfl, rfl⟩
      go_wp2_with fail
      refine (m26 ⟨#[42, 42]⟩ p true H2.out _ (by decide) (by omega)).mono ?_
      rintro e w2 ⟨rfl, hb2⟩
      have Hb2 := hide (bgo Hb1.out hb2)
      clear hb2 Hb1
      go_wp2_with fail
      refine (m26 ⟨#[42]⟩ p _ H3.out _ (by decide) (by omega)).mono ?_
      rintro e w3 ⟨rfl, hb3⟩
      have Hb3 := hide (bgo Hb2.out hb3)
      clear hb3 Hb2
      go_wp2_with fail
      refine (slash28' p _ Hs.out _ (by omega)).mono ?_
      rintro e w' ⟨rfl, rfl⟩
      go_wp2
      go_ret
      exact ⟨rfl, Hb3.out⟩
  · go_enter Tryd.func9, Tryd.ntmps9
    go_wp2_with fail
    refine (alive10 _ hm).mono ?_
    rintro e w1 ⟨rfl, hb1⟩
    go_wp2_with fail
    refine (short_f p h1 _ hp).mono ?_
    rintro e w' ⟨rfl, rfl⟩
    go_wp2
    go_ret
    exact ⟨rfl, hb1⟩

end Go.Proofs.YtlabdaomgogflaaDoor
