/- The examples with which every statement begins. -/
import Derived.Test.YtlabdaomgogflaaDoorW8
namespace Go.Proofs.YtlabdaomgogflaaDoor
open Go.RowKit

def HasM (w : World) : Prop := 0 < w.heap.size ∧ ∃ m, w.cell? ⟨0, 0, none⟩ = some (.int .i64 m)
theorem HasM.below {w w' : World} (h : HasM w) (hb : Below w.heap.size w w') : HasM w' := by
  obtain ⟨h0, m, hm⟩ := h
  exact ⟨by have := hb.size; omega, m, (hb.cell (p := ⟨0, 0, none⟩) h0).trans hm⟩

theorem v12 (s : ByteArray) (b : Bool) (hb : validP s.data.toList = b) (w : World) (hs : s.size ≤ 100000) (hm : HasM w) : Calls Tryd.prog 12 #[.string s] w fun e w' => e = .returned (.bool b) ∧ Below w.heap.size w w' := by
  subst hb
  obtain ⟨_, m, hm⟩ := hm
  exact valid12 s m w hs hm
theorem b14 (s r : ByteArray) (hb : baseB s = r) (w : World) (hs : s.size ≤ 100000) : Calls Tryd.prog 14 #[.string s] w fun e w' => e = .returned (.string r) ∧ w = w' := by
  subst hb; exact base14 s w hs
theorem d16 (s r : ByteArray) (hb : dirB s = r) (w : World) (hs : s.size ≤ 100000) : Calls Tryd.prog 16 #[.string s] w fun e w' => e = .returned (.string r) ∧ w = w' := by
  subst hb; exact dir16 s w hs
theorem e18 (s r : ByteArray) (hb : extB s = r) (w : World) (hs : s.size ≤ 100000) : Calls Tryd.prog 18 #[.string s] w fun e w' => e = .returned (.string r) ∧ w = w' := by
  subst hb; exact ext18 s w hs
theorem m26 (g p : ByteArray) (b : Bool) (hb : matchL g.data.toList p.data.toList = b) (w : World) (hg : g.size ≤ 100000) (hp : p.size ≤ 100000) : Calls Tryd.prog 26 #[.string g, .string p] w fun e w' => e = .returned (.bool b) ∧ Below w.heap.size w w' := by
  subst hb; exact match26 g p w hg hp
theorem r22 (g : ByteArray) (r : Int) (hb : right g.data.toList = r) (w : World) (hg : g.size ≤ 100000) : Calls Tryd.prog 22 #[.string g] w fun e w' => e = .returned (.int .i64 r) ∧ Below w.heap.size w w' := by
  subst hb; exact right22 g w hg

theorem ascii_all {l : List UInt8} (h : l.all (fun b => decide (b.toNat < 128)) = true) : ∀ (j : Nat) (b : UInt8), l[j]? = some b → b.toNat < 128 := by
  intro j b hb
  rw [List.all_eq_true] at h
  simpa using h b (List.mem_of_getElem? hb)
set_option maxHeartbeats 800000 in
theorem p24c (w : World) : Calls Tryd.prog 24 #[.string ⟨#[115, 114, 99, 47, 42, 46, 103, 111]⟩] w fun e w' => e = .returned (.string ⟨#[115, 114, 99, 47]⟩) ∧ Below w.heap.size w w' := by
  have hc := fun w => Tryd.strings_IndexAny_laid ⟨#[115, 114, 99, 47, 42, 46, 103, 111]⟩ ⟨#[42, 63, 91]⟩ w (by decide) (by decide) (ascii_all (by decide)) (ascii_all (by decide))
  have e4 : Lib.indexAny (⟨#[115, 114, 99, 47, 42, 46, 103, 111]⟩ : ByteArray).data.toList (⟨#[42, 63, 91]⟩ : ByteArray).data.toList = 4 := by decide
  rw [e4] at hc
  have hx : (⟨#[115, 114, 99, 47, 42, 46, 103, 111]⟩ : ByteArray).extract 0 4 = ⟨#[115, 114, 99, 47]⟩ := by decide
  have hz : (⟨#[115, 114, 99, 47, 42, 46, 103, 111]⟩ : ByteArray).size = 8 := rfl
  generalize (⟨#[115, 114, 99, 47, 42, 46, 103, 111]⟩ : ByteArray) = s at hc hx hz
  have h8 : (4 : Int) ≤ (s.size : Int) := by omega
  go_enter Tryd.func24, Tryd.ntmps24
  go_wp2_with (go_at_call 38; refine (hc _).mono ?_; rintro e w1 ⟨rfl, hb1⟩)
  go_ret
  exact ⟨rfl, hb1⟩

set_option maxHeartbeats 3200000 in
theorem alive10 (w : World) (hm : HasM w) : Calls Tryd.prog 10 #[] w fun e w' => e = .returned (.bool true) ∧ Below w.heap.size w w' := by
  have Hm := hide hm
  clear hm
  go_enter Tryd.func10, Tryd.ntmps10
  go_wp2_with fail
  refine (v12 _ true (by decide) _ (by decide) Hm.out).mono ?_
  rintro e w1 ⟨rfl, hb1⟩
  have H1 := hide hb1
  clear hb1
  go_wp2_with fail
  refine (v12 _ false (by decide) _ (by decide) (Hm.out.below H1.out)).mono ?_
  rintro e w2 ⟨rfl, hb2⟩
  have H2 := hide (bgo H1.out hb2)
  clear hb2 H1
  go_wp2_with fail
  refine (v12 _ false (by decide) _ (by decide) (Hm.out.below H2.out)).mono ?_
  rintro e w3 ⟨rfl, hb3⟩
  have H3 := hide (bgo H2.out hb3)
  clear hb3 H2
  go_wp2_with fail
  refine (v12 _ false (by decide) _ (by decide) (Hm.out.below H3.out)).mono ?_
  rintro e w4 ⟨rfl, hb4⟩
  have H4 := hide (bgo H3.out hb4)
  clear hb4 H3
  go_wp2_with fail
  refine (b14 _ ⟨#[97, 46, 98, 46, 103, 111]⟩ (by decide) _ (by decide)).mono ?_
  rintro e w' ⟨rfl, rfl⟩
  go_wp2_with fail
  refine (d16 _ ⟨#[115, 114, 99]⟩ (by decide) _ (by decide)).mono ?_
  rintro e w' ⟨rfl, rfl⟩
  go_wp2_with fail
  refine (e18 _ ⟨#[103, 111]⟩ (by decide) _ (by decide)).mono ?_
  rintro e w' ⟨rfl, rfl⟩
  go_wp2_with fail
  refine (m26 _ _ true (by decide +kernel) _ (by decide) (by decide)).mono ?_
  rintro e w5 ⟨rfl, hb5⟩
  have H5 := hide (bgo H4.out hb5)
  clear hb5 H4
  go_wp2_with fail
  refine (m26 _ _ false (by decide +kernel) _ (by decide) (by decide)).mono ?_
  rintro e w6 ⟨rfl, hb6⟩
  have H6 := hide (bgo H5.out hb6)
  clear hb6 H5
  go_wp2_with fail
  refine (m26 _ _ true (by decide +kernel) _ (by decide) (by decide)).mono ?_
  rintro e w7 ⟨rfl, hb7⟩
  have H7 := hide (bgo H6.out hb7)
  clear hb7 H6
  go_wp2_with fail
  refine (m26 _ _ true (by decide +kernel) _ (by decide) (by decide)).mono ?_
  rintro e w8 ⟨rfl, hb8⟩
  have H8 := hide (bgo H7.out hb8)
  clear hb8 H7
  go_wp2_with fail
  refine (m26 _ _ true (by decide +kernel) _ (by decide) (by decide)).mono ?_
  rintro e w9 ⟨rfl, hb9⟩
  have H9 := hide (bgo H8.out hb9)
  clear hb9 H8
  go_wp2_with fail
  refine (m26 _ _ false (by decide +kernel) _ (by decide) (by decide)).mono ?_
  rintro e wa ⟨rfl, hba⟩
  have Ha := hide (bgo H9.out hba)
  clear hba H9
  go_wp2_with fail
  refine (m26 _ _ true (by decide +kernel) _ (by decide) (by decide)).mono ?_
  rintro e wb ⟨rfl, hbb⟩
  have Hb := hide (bgo Ha.out hbb)
  clear hbb Ha
  go_wp2_with fail
  refine (r22 _ 3 (by decide +kernel) _ (by decide)).mono ?_
  rintro e wc ⟨rfl, hbc⟩
  have Hc := hide (bgo Hb.out hbc)
  clear hbc Hb
  go_wp2_with fail
  refine (r22 _ 3 (by decide +kernel) _ (by decide)).mono ?_
  rintro e wd ⟨rfl, hbd⟩
  have Hd := hide (bgo Hc.out hbd)
  clear hbd Hc
  go_wp2_with fail
  refine (r22 _ 3 (by decide +kernel) _ (by decide)).mono ?_
  rintro e we ⟨rfl, hbe⟩
  have He := hide (bgo Hd.out hbe)
  clear hbe Hd
  go_wp2_with fail
  refine (p24c _).mono ?_
  rintro e wf ⟨rfl, hbf⟩
  have Hf := hide (bgo He.out hbf)
  clear hbf He
  go_wp2
  go_ret
  exact ⟨rfl, Hf.out⟩

end Go.Proofs.YtlabdaomgogflaaDoor
