/- The walk of the law on patterns one after the other. -/
import Derived.Test.YtlabdaomgogflaaDoorWD
import Derived.Test.YtlabdaomgogflaaDoorPj
namespace Go.Proofs.YtlabdaomgogflaaDoor
open Go.RowKit

theorem boxes (w : World) (a b c d : Value) (w1 : World) (h : Below ((w.alloc (.cells #[a, b] 28)).alloc (.cells #[c, d] 28)).heap.size ((w.alloc (.cells #[a, b] 28)).alloc (.cells #[c, d] 28)) w1) :
    Two w1 w.heap.size a b ∧ Two w1 (w.heap.size + 1) c d ∧ Below w.heap.size w w1 := by
  refine ⟨((two_alloc w a b 28).new _).keep h, ?_, ?_⟩
  · have := (two_alloc (w.alloc (.cells #[a, b] 28)) c d 28).keep h
    rw [show (w.alloc (.cells #[a, b] 28)).heap.size = w.heap.size + 1 by simp] at this
    exact this
  · exact (bnew (bnew (Below.refl _ _) _) _).trans (h.mono (by simp; omega))

theorem app_data (a b : ByteArray) : (a ++ b).data.toList = a.data.toList ++ b.data.toList := by
  rw [ByteArray.data_append, Array.toList_append]

set_option maxHeartbeats 3200000 in
theorem law8 (g h p q : ByteArray) (w : World) (hm : HasM w) (hg : g.size ≤ 9223372036854775807) (hh : h.size ≤ 9223372036854775807) (hp : p.size ≤ 9223372036854775807) (hq : q.size ≤ 9223372036854775807) : Calls Tryd.prog 8 #[.agg #[.string g, .string h], .agg #[.string p, .string q]] w fun e w' => e = .returned (.bool true) ∧ Below w.heap.size w w' := by
  have hm2 : HasM ((w.alloc (.cells #[.string g, .string h] 28)).alloc (.cells #[.string p, .string q] 28)) := hm.below (bnew (bnew (Below.refl _ _) _) _)
  by_cases h1 : 100 < g.size
  · go_enter Tryd.func8, Tryd.ntmps8
    go_wp2_with fail
    refine (alive10 _ hm2).mono ?_
    rintro e w1 ⟨rfl, hb1⟩
    obtain ⟨⟨_, q0, q1⟩, ⟨_, q2, q3⟩, hb⟩ := boxes _ _ _ _ _ _ hb1
    clear hb1
    go_wp2
    go_ret
    exact ⟨rfl, hb⟩
  by_cases h2 : 100 < h.size
  · go_enter Tryd.func8, Tryd.ntmps8
    go_wp2_with fail
    refine (alive10 _ hm2).mono ?_
    rintro e w1 ⟨rfl, hb1⟩
    obtain ⟨⟨_, q0, q1⟩, ⟨_, q2, q3⟩, hb⟩ := boxes _ _ _ _ _ _ hb1
    clear hb1
    go_wp2
    go_ret
    exact ⟨rfl, hb⟩
  by_cases h3 : 100 < p.size
  · go_enter Tryd.func8, Tryd.ntmps8
    go_wp2_with fail
    refine (alive10 _ hm2).mono ?_
    rintro e w1 ⟨rfl, hb1⟩
    obtain ⟨⟨_, q0, q1⟩, ⟨_, q2, q3⟩, hb⟩ := boxes _ _ _ _ _ _ hb1
    clear hb1
    go_wp2
    go_ret
    exact ⟨rfl, hb⟩
  by_cases h4 : 100 < q.size
  · go_enter Tryd.func8, Tryd.ntmps8
    go_wp2_with fail
    refine (alive10 _ hm2).mono ?_
    rintro e w1 ⟨rfl, hb1⟩
    obtain ⟨⟨_, q0, q1⟩, ⟨_, q2, q3⟩, hb⟩ := boxes _ _ _ _ _ _ hb1
    clear hb1
    go_wp2
    go_ret
    exact ⟨rfl, hb⟩
  have hj := joins_match g.data.toList h.data.toList p.data.toList q.data.toList
  cases c1 : matchL g.data.toList p.data.toList
  · have C1 := hide c1
    clear c1 hj
    go_enter Tryd.func8, Tryd.ntmps8
    go_wp2_with fail
    refine (alive10 _ hm2).mono ?_
    rintro e w1 ⟨rfl, hb1⟩
    obtain ⟨⟨_, q0, q1⟩, ⟨_, q2, q3⟩, hb⟩ := boxes _ _ _ _ _ _ hb1
    clear hb1
    go_wp2_with fail
    refine (m26 g p _ C1.out _ (by omega) (by omega)).mono ?_
    rintro e w2 ⟨rfl, hb2⟩
    go_wp2
    go_ret
    exact ⟨rfl, bgo hb hb2⟩
  cases c2 : matchL h.data.toList q.data.toList
  · have C1 := hide c1
    have C2 := hide c2
    clear c1 c2 hj
    go_enter Tryd.func8, Tryd.ntmps8
    go_wp2_with fail
    refine (alive10 _ hm2).mono ?_
    rintro e w1 ⟨rfl, hb1⟩
    obtain ⟨t1, t2, hb⟩ := boxes _ _ _ _ _ _ hb1
    clear hb1
    obtain ⟨_, q0, q1⟩ := t1
    obtain ⟨_, q2, q3⟩ := t2
    go_wp2_with fail
    refine (m26 g p _ C1.out _ (by omega) (by omega)).mono ?_
    rintro e w2 ⟨rfl, hb2⟩
    obtain ⟨_, r0, r1⟩ := Two.keep ⟨by assumption, q0, q1⟩ hb2
    obtain ⟨_, r2, r3⟩ := Two.keep ⟨by assumption, q2, q3⟩ hb2
    go_wp2_with fail
    refine (m26 h q _ C2.out _ (by omega) (by omega)).mono ?_
    rintro e w3 ⟨rfl, hb3⟩
    go_wp2
    go_ret
    exact ⟨rfl, bgo (bgo hb hb2) hb3⟩
  have hres : right (g ++ h).data.toList = 0 → matchL (g ++ h).data.toList (p ++ q).data.toList = true := fun hr => by
    rw [app_data] at hr
    rw [app_data, app_data]
    exact hj hr c1 c2
  have hsz : (g ++ h).size ≤ 200 := by rw [ByteArray.size_append]; omega
  have hsz2 : (p ++ q).size ≤ 200 := by rw [ByteArray.size_append]; omega
  have Hres := hide hres
  have C1 := hide c1
  have C2 := hide c2
  clear c1 c2 hj hres
  by_cases hr : right (g ++ h).data.toList = 0
  · have Hr := hide hr
    clear hr
    go_enter Tryd.func8, Tryd.ntmps8
    go_wp2_with fail
    refine (alive10 _ hm2).mono ?_
    rintro e w1 ⟨rfl, hb1⟩
    obtain ⟨t1, t2, hb⟩ := boxes _ _ _ _ _ _ hb1
    clear hb1
    have t1' := t1
    have t2' := t2
    obtain ⟨_, q0, q1⟩ := t1'
    obtain ⟨_, q2, q3⟩ := t2'
    go_wp2_with fail
    refine (m26 g p _ C1.out _ (by omega) (by omega)).mono ?_
    rintro e w2 ⟨rfl, hb2⟩
    have t3 := t1.keep hb2
    have t4 := t2.keep hb2
    have t3' := t3
    have t4' := t4
    obtain ⟨_, r0, r1⟩ := t3'
    obtain ⟨_, r2, r3⟩ := t4'
    go_wp2_with fail
    refine (m26 h q _ C2.out _ (by omega) (by omega)).mono ?_
    rintro e w3 ⟨rfl, hb3⟩
    have t5 := t3.keep hb3
    have t6 := t4.keep hb3
    have t5' := t5
    have t6' := t6
    obtain ⟨_, s0, s1⟩ := t5'
    obtain ⟨_, s2, s3⟩ := t6'
    go_wp2_with fail
    refine (r22 (g ++ h) 0 Hr.out _ (by omega)).mono ?_
    rintro e w4 ⟨rfl, hb4⟩
    obtain ⟨_, u0, u1⟩ := t5.keep hb4
    obtain ⟨_, u2, u3⟩ := t6.keep hb4
    go_wp2_with fail
    refine (m26 (g ++ h) (p ++ q) true (Hres.out Hr.out) _ (by omega) (by omega)).mono ?_
    rintro e w5 ⟨rfl, hb5⟩
    go_wp2
    go_ret
    exact ⟨rfl, bgo (bgo (bgo (bgo hb hb2) hb3) hb4) hb5⟩
  · obtain ⟨r, hre⟩ : ∃ r, right (g ++ h).data.toList = r := ⟨_, rfl⟩
    have hrr := right_range (g ++ h).data.toList
    rw [hre] at hr hrr
    have hbn : (r != 0) = true := by simpa using hr
    have Hre := hide hre
    clear hre hr Hres
    go_enter Tryd.func8, Tryd.ntmps8
    go_wp2_with fail
    refine (alive10 _ hm2).mono ?_
    rintro e w1 ⟨rfl, hb1⟩
    obtain ⟨t1, t2, hb⟩ := boxes _ _ _ _ _ _ hb1
    clear hb1
    have t1' := t1
    have t2' := t2
    obtain ⟨_, q0, q1⟩ := t1'
    obtain ⟨_, q2, q3⟩ := t2'
    go_wp2_with fail
    refine (m26 g p _ C1.out _ (by omega) (by omega)).mono ?_
    rintro e w2 ⟨rfl, hb2⟩
    have t3 := t1.keep hb2
    have t4 := t2.keep hb2
    have t3' := t3
    have t4' := t4
    obtain ⟨_, r0, r1⟩ := t3'
    obtain ⟨_, r2, r3⟩ := t4'
    go_wp2_with fail
    refine (m26 h q _ C2.out _ (by omega) (by omega)).mono ?_
    rintro e w3 ⟨rfl, hb3⟩
    have t5 := t3.keep hb3
    obtain ⟨_, s0, s1⟩ := t5
    go_wp2_with fail
    refine (r22 (g ++ h) r Hre.out _ (by omega)).mono ?_
    rintro e w4 ⟨rfl, hb4⟩
    go_wp2
    go_ret
    exact ⟨rfl, bgo (bgo (bgo hb hb2) hb3) hb4⟩

end Go.Proofs.YtlabdaomgogflaaDoor
