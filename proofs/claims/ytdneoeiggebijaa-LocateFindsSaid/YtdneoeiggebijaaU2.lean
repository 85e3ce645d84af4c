/- Walk of layer 6's program: the map of the offsets of each code. -/
import Derived.Test.YtdneoeiggebijaaU1
import Derived.Test.YtdneoeiggebijaaGk
namespace Go.Proofs.Ytdneoeiggebijaa
open Go.RowKit Go.Maps
open Go.ChangeShapes (lits)

theorem keyed3 : Keyed Try.prog 3 := int_keyed Try.underlying3
theorem zero38 (w : World) : (zeroValue 24).run Try.prog w = .ok (.slice none 0 0) w := by kernel_rfl

/-- The map of the offsets of each code. -/
def GotM (w : World) (d : List UInt8) (e : Ending) (w' : World) : Prop :=
  ∃ (b base n : Nat) (D : DataW Unit), e = .returned (.map (some b)) ∧ w'.ownsGroups Try.prog 3 base 3 .i64 b n D ∧ Groups D (offs d) ∧ n ≤ 100000 ∧ w.heap.size ≤ b ∧ w.heap.size ≤ base ∧ Below w.heap.size w w'

set_option maxRecDepth 20000 in
set_option maxHeartbeats 1600000 in
theorem offs38 (s : ByteArray) (w : World) (hs : s.size ≤ 100000) : Calls Try.prog 38 #[.string s] w (GotM w s.data.toList) := by
  obtain ⟨i0, hi, hz0, hz1, hz2⟩ := info_parts infoI
  have hmm := @run_makeMap Try.prog
  have hfold := fold40 s w hs
  have hcode := codeat42 s
  obtain ⟨d, hd⟩ : ∃ d, s.data.toList = d := ⟨_, rfl⟩
  have hdl : d.length = s.size := by rw [← hd, size_list]
  have hts := foldS_size s
  rw [hd] at hcode ⊢
  obtain ⟨t, ht⟩ : ∃ t, foldS s = t := ⟨_, rfl⟩
  rw [ht] at hfold hcode hts
  have Hcode := hide (show ∀ (k : Nat) (m : Int) (w : World), k + 2 < t.size → tri d k = m → Calls Try.prog 42 #[.string t, .int .i64 (k : Int)] w fun e w' => e = .returned (.int .i64 m) ∧ Drawn w w' from fun k m w h1 h2 => hcode k m w (by omega) hs h2)
  have hn : t.size ≤ 100000 := by omega
  have Hdl := hide (show d.length - 2 = t.size - 2 by omega)
  clear hd ht hts hcode hdl hs
  go_enter Try.func38, Try.ntmps38
  go_wp2_with fail
  refine hfold.mono ?_
  rintro e w1 ⟨rfl, hb1⟩
  have B1 := hide hb1
  clear hb1 hfold
  go_wp2
  go_loopw [14] (fun x wr => ∃ i : Nat, i ≤ t.size - 2 ∧ x = .int .i64 (i : Int) ∧ (∃ D : DataW Unit, wr.ownsGroups Try.prog 3 (w1.heap.size + 1) 3 .i64 w1.heap.size i D ∧ Groups D (fun c => offsN d c i)) ∧ Below w1.heap.size w1 wr ∧ w1.heap.size + 1 ≤ wr.heap.size) (fun x _ => t.size - (intOf x).toNat)
  case atStart => exact ⟨0, Nat.zero_le _, rfl, ⟨.map [], World.ownsGroups_made _ _ _ _ _, Groups.start⟩, (Below.refl _ _).alloc (Nat.le_refl _) _, by simp⟩
  case round =>
    obtain ⟨i, hi1, rfl, ⟨D, hown, hgr⟩, hbel, hws⟩ := hrel
    obtain ⟨w2, hw2⟩ : ∃ w2, w2 = wr := ⟨wr, rfl⟩
    subst hw2
    have Ho := hide hown
    have Hg := hide hgr
    have B2 := hide hbel
    by_cases hlt : i + 2 < t.size
    · obtain ⟨m, hm⟩ : ∃ m, tri d i = m := ⟨_, rfl⟩
      have hml := tri_lt d i
      rw [hm] at hml
      have hwm : (Lit.int .i64 m).wf = true := WalkArith.wf_i64 (by omega)
      have hwi : (Lit.int .i64 (i : Int)).wf = true := WalkArith.wf_i64 (by omega)
      have Hm := hide hm
      have Hwm := hide hwm
      have Hwi := hide hwi
      clear hown hgr hbel hm hwm hwi
      go_wp2_with fail
      with_reducible refine (Hcode.out i m _ hlt Hm.out).mono ?_
      rintro e w3 ⟨rfl, hd3⟩
      have hb3 := hd3.below w2.heap.size
      have O3 := hide (groups_below Ho.out hb3)
      have B3 := hide (B2.out.trans (hb3.mono (by omega)))
      have hws3 : w1.heap.size + 1 ≤ w3.heap.size := Nat.le_trans hws hb3.size
      clear hd3 hb3
      go_wp2_with (first
        | (at_lookup; refine wpList_lookup_groups _ rfl _ _ 53 rfl 3 24 3 .i64 keyed3 Try.underlying53 (zero38 _) (w1.heap.size + 1) w1.heap.size i _ rfl O3.out (by unfold maxLen; omega) _ _ rfl (keyOf_int_mk Try.underlying3 Hwm.out) ?_; intro v zs hat hoi hzl hback)
        | (at_builtin; refine wpList_append_own_at _ rfl _ _ 24 rfl (w1.heap.size + 1) 3 i0 (.int .i64 0) 1 8 Try.underlying24 hi hz0 hz1 hz2 rfl (by decide) _ _ _ rfl (hoi.1.alloc _) ⟨w3.heap.size, 0, none⟩ 1 1 [.int .i64 (i : Int)] rfl rfl (cell_one_new _ _ _) (ints_oneCell .i64 [(i : Int)]) (by unfold maxLen; omega) (by omega) (by simp; omega) ?_; intro v' w4 hown' hgrow hnil hloc)
        | (at_mapUpdate; refine wpList_mapUpdate_back (v' := v') _ rfl _ _ _ 53 rfl hback rfl rfl rfl ((World.grownBy_alloc _ _ _).trans hgrow) (hoi.appended hown' Hwi.out) (by simp; omega) (hloc.imp id (fun h => ⟨_, h, by simp⟩)) ?_; intro w5 hown2 hgrow2)
        | go_in)
      have hall := (World.grownBy_alloc w3 _ _).trans hgrow
      have hzs := Hg.out.is hoi hat
      rw [(hoi.appended hown' Hwi.out).datum_pos (by simp)] at hown2
      have G4 := hide (Hg.out.put (G := fun c => offsN d c (i + 1)) m (zs ++ [(i : Int)]) (by simp) fun y => by
        show offsN d y (i + 1) = _
        rw [offs_step d i m Hm.out y, hzs])
      have O4 := hide hown2
      have B4 := hide (B3.out.groups hoi hall hgrow2 B3.out.size (Nat.le_succ _) (Nat.le_refl _))
      have hws4 := Nat.le_trans hws3 (Nat.le_trans hall.size hgrow2.size)
      clear hown2 hall hzs hgrow hgrow2 hback hat hoi hloc hnil hown'
      go_roundw
      case rel => exact ⟨i + 1, by omega, by go_num, ⟨_, O4.out, G4.out⟩, B4.out, hws4⟩
      case measure => simp [intOf]; omega
    · have G4 := hide (Hg.out.same (G := offs d) fun y => by unfold offs; rw [Hdl.out, show t.size - 2 = i by omega])
      have B4 := hide (B1.out.trans (B2.out.mono B1.out.size))
      have hsz1 := B1.out.size
      clear hown hgr hbel
      go_wp2
      go_ret
      exact ⟨w1.heap.size, w1.heap.size + 1, i, D, rfl, Ho.out, G4.out, by omega, hsz1, by omega, B4.out⟩

end Go.Proofs.Ytdneoeiggebijaa
