/- The walk of the law on what a pattern begins with. -/
import Derived.Test.YtlabdaomgogflaaDoorWH
namespace Go.Proofs.YtlabdaomgogflaaDoor
open Go.RowKit

theorem prefix24' (s x : ByteArray) (hx : pfxB s = x) (w : World) (hs : s.size ≤ 100000) : Calls Tryd.prog 24 #[.string s] w fun e w' => e = .returned (.string x) ∧ Below w.heap.size w w' := by
  subst hx; exact prefix24 s w hs
theorem pfxB_data (s : ByteArray) : (pfxB s).data.toList = pfx s.data.toList := rfl
theorem pfxB_size (s : ByteArray) : (pfxB s).size = (pfx s.data.toList).length := size_mk _
theorem pfxB_pre (s : ByteArray) : (pfxB s).size ≤ s.size ∧ s.extract 0 (pfxB s).size = pfxB s := by
  rw [pfxB_size]
  refine ⟨?_, ba_ext ?_⟩
  · have := pfx_le s.data.toList
    rw [size_list] at this
    exact this
  · rw [toList_extract0, pfx_pre]; rfl
theorem pfxB_match (g p : ByteArray) (h : matchL g.data.toList p.data.toList = true) : (pfxB g).size ≤ p.size ∧ p.extract 0 (pfxB g).size = pfxB g := by
  have hp := match_pfx _ _ h
  rw [pfxB_size]
  refine ⟨?_, ba_ext ?_⟩
  · have := hp.length_le
    rw [size_list] at this
    exact this
  · rw [toList_extract0, ← List.prefix_iff_eq_take.1 hp]; rfl
theorem pfxB_all (g p : ByteArray) (h : ((pfxB g).toList == g.toList) = true) (hr : right g.data.toList = 0) : matchL g.data.toList g.data.toList = true ∧ (g.toList == p.toList) = matchL g.data.toList p.data.toList := by
  rw [beq_iff_eq, Lib.toList_data, Lib.toList_data] at h
  have h1 := match_plain g.data.toList g.data.toList hr h
  have h2 := match_plain g.data.toList p.data.toList hr h
  refine ⟨by rw [h1]; exact decide_eq_true rfl, ?_⟩
  rw [h2, Lib.toList_data, Lib.toList_data, Bool.eq_iff_iff, beq_iff_eq, decide_eq_true_eq]
  exact ⟨fun e => e.symm, fun e => e.symm⟩

set_option maxHeartbeats 3200000 in
theorem law6_in (g p : ByteArray) (w : World) (hm : HasM w) (h1 : g.size ≤ 200) (h2 : p.size ≤ 200) : Calls Tryd.prog 6 #[.string g, .string p] w fun e w' => e = .returned (.bool true) ∧ Below w.heap.size w w' := by
  obtain ⟨hx1, hx2⟩ := pfxB_pre g
  have hxm := pfxB_match g p
  have hgm := pfxB_all g p
  obtain ⟨x, hx⟩ : ∃ x, pfxB g = x := ⟨_, rfl⟩
  rw [hx] at hx1 hx2 hxm hgm
  have Hx := hide hx
  clear hx
  cases hmt : matchL g.data.toList p.data.toList
  · rw [hmt] at hgm
    have Hmt := hide hmt
    have Hgm := hide hgm
    clear hmt hgm hxm
    cases e1 : (x.toList == g.toList)
    · skip
      go_enter Tryd.func6, Tryd.ntmps6
      go_wp2_with fail
      refine (alive10 _ hm).mono ?_
      rintro e w1 ⟨rfl, hb1⟩
      have Hb1 := hide hb1
      clear hb1
      go_wp2_with fail
      refine (short_t g h1 _).mono ?_
      rintro e w' ⟨rfl, rfl⟩
      go_wp2_with fail
      refine (short_t p h2 _).mono ?_
      rintro e w' ⟨rfl, rfl⟩
      go_wp2_with fail
      refine (prefix24' g x Hx.out _ (by omega)).mono ?_
      rintro e w2 ⟨rfl, hb2⟩
      have Hb2 := hide (bgo Hb1.out hb2)
      clear hb2 Hb1
      go_wp2_with fail
      refine (m26 g p _ Hmt.out _ (by omega) (by omega)).mono ?_
      rintro e w3 ⟨rfl, hb3⟩
      have Hb3 := hide (bgo Hb2.out hb3)
      clear hb3 Hb2
      go_wp2
      go_ret
      exact ⟨rfl, Hb3.out⟩
    · obtain ⟨r, hre⟩ : ∃ r, right g.data.toList = r := ⟨_, rfl⟩
      have hrr := right_range g.data.toList
      rw [hre] at hrr
      have Hre := hide hre
      by_cases hr0 : r = 0
      · subst hr0
        obtain ⟨hgg, e2⟩ := Hgm.out e1 hre
        have Hgg := hide hgg
        clear hgg hre
        go_enter Tryd.func6, Tryd.ntmps6
        go_wp2_with fail
        refine (alive10 _ hm).mono ?_
        rintro e w1 ⟨rfl, hb1⟩
        have Hb1 := hide hb1
        clear hb1
        go_wp2_with fail
        refine (short_t g h1 _).mono ?_
        rintro e w' ⟨rfl, rfl⟩
        go_wp2_with fail
        refine (short_t p h2 _).mono ?_
        rintro e w' ⟨rfl, rfl⟩
        go_wp2_with fail
        refine (prefix24' g x Hx.out _ (by omega)).mono ?_
        rintro e w2 ⟨rfl, hb2⟩
        have Hb2 := hide (bgo Hb1.out hb2)
        clear hb2 Hb1
        go_wp2_with fail
        refine (m26 g p _ Hmt.out _ (by omega) (by omega)).mono ?_
        rintro e w3 ⟨rfl, hb3⟩
        have Hb3 := hide (bgo Hb2.out hb3)
        clear hb3 Hb2
        go_wp2_with fail
        refine (r22 g 0 Hre.out _ (by omega)).mono ?_
        rintro e w4 ⟨rfl, hb4⟩
        have Hb4 := hide (bgo Hb3.out hb4)
        clear hb4 Hb3
        go_wp2_with fail
        refine (m26 g g true Hgg.out _ (by omega) (by omega)).mono ?_
        rintro e w5 ⟨rfl, hb5⟩
        have Hb5 := hide (bgo Hb4.out hb5)
        clear hb5 Hb4
        go_wp2_with fail
        refine (m26 g p _ Hmt.out _ (by omega) (by omega)).mono ?_
        rintro e w6 ⟨rfl, hb6⟩
        have Hb6 := hide (bgo Hb5.out hb6)
        clear hb6 Hb5
        go_wp2
        go_ret
        exact ⟨rfl, Hb6.out⟩
      · have hbn : (r == 0) = false := by simpa using hr0
        clear hre
        go_enter Tryd.func6, Tryd.ntmps6
        go_wp2_with fail
        refine (alive10 _ hm).mono ?_
        rintro e w1 ⟨rfl, hb1⟩
        have Hb1 := hide hb1
        clear hb1
        go_wp2_with fail
        refine (short_t g h1 _).mono ?_
        rintro e w' ⟨rfl, rfl⟩
        go_wp2_with fail
        refine (short_t p h2 _).mono ?_
        rintro e w' ⟨rfl, rfl⟩
        go_wp2_with fail
        refine (prefix24' g x Hx.out _ (by omega)).mono ?_
        rintro e w2 ⟨rfl, hb2⟩
        have Hb2 := hide (bgo Hb1.out hb2)
        clear hb2 Hb1
        go_wp2_with fail
        refine (m26 g p _ Hmt.out _ (by omega) (by omega)).mono ?_
        rintro e w3 ⟨rfl, hb3⟩
        have Hb3 := hide (bgo Hb2.out hb3)
        clear hb3 Hb2
        go_wp2_with fail
        refine (r22 g r Hre.out _ (by omega)).mono ?_
        rintro e w4 ⟨rfl, hb4⟩
        have Hb4 := hide (bgo Hb3.out hb4)
        clear hb4 Hb3
        go_wp2
        go_ret
        exact ⟨rfl, Hb4.out⟩
  · obtain ⟨hp1, hp2⟩ := hxm hmt
    rw [hmt] at hgm
    have Hmt := hide hmt
    have Hgm := hide hgm
    clear hmt hgm hxm
    cases e1 : (x.toList == g.toList)
    · skip
      go_enter Tryd.func6, Tryd.ntmps6
      go_wp2_with fail
      refine (alive10 _ hm).mono ?_
      rintro e w1 ⟨rfl, hb1⟩
      have Hb1 := hide hb1
      clear hb1
      go_wp2_with fail
      refine (short_t g h1 _).mono ?_
      rintro e w' ⟨rfl, rfl⟩
      go_wp2_with fail
      refine (short_t p h2 _).mono ?_
      rintro e w' ⟨rfl, rfl⟩
      go_wp2_with fail
      refine (prefix24' g x Hx.out _ (by omega)).mono ?_
      rintro e w2 ⟨rfl, hb2⟩
      have Hb2 := hide (bgo Hb1.out hb2)
      clear hb2 Hb1
      go_wp2_with fail
      refine (m26 g p _ Hmt.out _ (by omega) (by omega)).mono ?_
      rintro e w3 ⟨rfl, hb3⟩
      have Hb3 := hide (bgo Hb2.out hb3)
      clear hb3 Hb2
      go_wp2
      go_ret
      exact ⟨rfl, Hb3.out⟩
    · obtain ⟨r, hre⟩ : ∃ r, right g.data.toList = r := ⟨_, rfl⟩
      have hrr := right_range g.data.toList
      rw [hre] at hrr
      have Hre := hide hre
      by_cases hr0 : r = 0
      · subst hr0
        obtain ⟨hgg, e2⟩ := Hgm.out e1 hre
        have Hgg := hide hgg
        clear hgg hre
        go_enter Tryd.func6, Tryd.ntmps6
        go_wp2_with fail
        refine (alive10 _ hm).mono ?_
        rintro e w1 ⟨rfl, hb1⟩
        have Hb1 := hide hb1
        clear hb1
        go_wp2_with fail
        refine (short_t g h1 _).mono ?_
        rintro e w' ⟨rfl, rfl⟩
        go_wp2_with fail
        refine (short_t p h2 _).mono ?_
        rintro e w' ⟨rfl, rfl⟩
        go_wp2_with fail
        refine (prefix24' g x Hx.out _ (by omega)).mono ?_
        rintro e w2 ⟨rfl, hb2⟩
        have Hb2 := hide (bgo Hb1.out hb2)
        clear hb2 Hb1
        go_wp2_with fail
        refine (m26 g p _ Hmt.out _ (by omega) (by omega)).mono ?_
        rintro e w3 ⟨rfl, hb3⟩
        have Hb3 := hide (bgo Hb2.out hb3)
        clear hb3 Hb2
        go_wp2_with fail
        refine (r22 g 0 Hre.out _ (by omega)).mono ?_
        rintro e w4 ⟨rfl, hb4⟩
        have Hb4 := hide (bgo Hb3.out hb4)
        clear hb4 Hb3
        go_wp2_with fail
        refine (m26 g g true Hgg.out _ (by omega) (by omega)).mono ?_
        rintro e w5 ⟨rfl, hb5⟩
        have Hb5 := hide (bgo Hb4.out hb5)
        clear hb5 Hb4
        go_wp2_with fail
        refine (m26 g p _ Hmt.out _ (by omega) (by omega)).mono ?_
        rintro e w6 ⟨rfl, hb6⟩
        have Hb6 := hide (bgo Hb5.out hb6)
        clear hb6 Hb5
        go_wp2
        go_ret
        exact ⟨rfl, Hb6.out⟩
      · have hbn : (r == 0) = false := by simpa using hr0
        clear hre
        go_enter Tryd.func6, Tryd.ntmps6
        go_wp2_with fail
        refine (alive10 _ hm).mono ?_
        rintro e w1 ⟨rfl, hb1⟩
        have Hb1 := hide hb1
        clear hb1
        go_wp2_with fail
        refine (short_t g h1 _).mono ?_
        rintro e w' ⟨rfl, rfl⟩
        go_wp2_with fail
        refine (short_t p h2 _).mono ?_
        rintro e w' ⟨rfl, rfl⟩
        go_wp2_with fail
        refine (prefix24' g x Hx.out _ (by omega)).mono ?_
        rintro e w2 ⟨rfl, hb2⟩
        have Hb2 := hide (bgo Hb1.out hb2)
        clear hb2 Hb1
        go_wp2_with fail
        refine (m26 g p _ Hmt.out _ (by omega) (by omega)).mono ?_
        rintro e w3 ⟨rfl, hb3⟩
        have Hb3 := hide (bgo Hb2.out hb3)
        clear hb3 Hb2
        go_wp2_with fail
        refine (r22 g r Hre.out _ (by omega)).mono ?_
        rintro e w4 ⟨rfl, hb4⟩
        have Hb4 := hide (bgo Hb3.out hb4)
        clear hb4 Hb3
        go_wp2
        go_ret
        exact ⟨rfl, Hb4.out⟩

set_option maxHeartbeats 1600000 in
theorem law6 (g p : ByteArray) (w : World) (hm : HasM w) (hg : g.size ≤ 9223372036854775807) (hp : p.size ≤ 9223372036854775807) : Calls Tryd.prog 6 #[.string g, .string p] w fun e w' => e = .returned (.bool true) ∧ Below w.heap.size w w' := by
  by_cases h1 : g.size ≤ 200
  · by_cases h2 : p.size ≤ 200
    · exact law6_in g p w hm h1 h2
    · go_enter Tryd.func6, Tryd.ntmps6
      go_wp2_with fail
      refine (alive10 _ hm).mono ?_
      rintro e w1 ⟨rfl, hb1⟩
      go_wp2_with fail
      refine (short_t g h1 _).mono ?_
      rintro e w' ⟨rfl, rfl⟩
      go_wp2_with fail
      refine (short_f p h2 _ hp).mono ?_
      rintro e w' ⟨rfl, rfl⟩
      go_wp2
      go_ret
      exact ⟨rfl, hb1⟩
  · go_enter Tryd.func6, Tryd.ntmps6
    go_wp2_with fail
    refine (alive10 _ hm).mono ?_
    rintro e w1 ⟨rfl, hb1⟩
    go_wp2_with fail
    refine (short_f g h1 _ hg).mono ?_
    rintro e w' ⟨rfl, rfl⟩
    go_wp2
    go_ret
    exact ⟨rfl, hb1⟩

end Go.Proofs.YtlabdaomgogflaaDoor
