/- Walks of layer 5's program: Unpack, Seek. -/
import Derived.Test.YtfljmnjcoagbmaaE2
import Derived.Test.YtfljmnjcoagbmaaC2
namespace Go.Proofs.Ytfljmnjcoagbmaa
open Go.RowKit
open Go.Lib (byteCells)

theorem PutL.sl2 {w w' : World} {r : List UInt8 × Nat} {e : Ending} (h : PutL w r e w') : ∃ A m c, e = .returned (.tuple #[.slice A m c, .int .i64 (r.2 : Int)]) ∧ m = r.1.length ∧ Sl w' A m c (byteCells r.1) ∧ Below w.heap.size w w' := by
  obtain ⟨v, rfl, ho, hb⟩ := h
  obtain ⟨A, m, c, rfl, hm, hs⟩ := ho.sl5
  exact ⟨A, m, c, rfl, hm, hs, hb⟩
theorem GotU.sl2 {w w' : World} {r : List Int × Nat} {e : Ending} (h : GotU w r e w') : ∃ A m c, e = .returned (.tuple #[.slice A m c, .int .i64 (r.2 : Int)]) ∧ m = r.1.length ∧ Sl w' A m c (numCells r.1) ∧ Below w.heap.size w w' := by
  obtain ⟨v, rfl, ho, hb⟩ := h
  obtain ⟨A, m, c, rfl, hm, hs⟩ := ho.slI
  exact ⟨A, m, c, rfl, hm, hs, hb⟩

set_option maxRecDepth 20000 in
theorem equal46 (A A' : Option Addr) (n c n' c' : Nat) (l l' : List UInt8) (w : World) (h : Sl w A n c (byteCells l)) (h' : Sl w A' n' c' (byteCells l')) :
    Calls Try.prog 46 #[.slice A n c, .slice A' n' c'] w fun e w' => e = .returned (.bool (l == l')) ∧ w = w' := by
  have h1 := h.conv
  have h2 := h'.conv
  clear h h'
  go_enter Try.func46, Try.ntmps46
  go_wp2
  go_ret
  exact ⟨rfl, rfl⟩
theorem equal46' (A A' : Option Addr) (n c n' c' : Nat) (l l' : List UInt8) (r : Bool) (hr : (l == l') = r) (w : World) (h : Sl w A n c (byteCells l)) (h' : Sl w A' n' c' (byteCells l')) :
    Calls Try.prog 46 #[.slice A n c, .slice A' n' c'] w fun e w' => e = .returned (.bool r) ∧ w = w' := by
  subst hr
  exact equal46 A A' n c n' c' l l' w h h'

set_option maxRecDepth 20000 in
set_option maxHeartbeats 3200000 in
theorem unpack27 (A : Option Addr) (n c : Nat) (b : List UInt8) (w : World) (h : Sl w A n c (byteCells b)) (hn : n ≤ 1000000) :
    Calls Try.prog 27 #[.slice A n c] w (GotU w (unpR (unpackP b))) := by
  have H := hide h
  clear h
  obtain ⟨l, hl⟩ : ∃ l, eltP b = l := ⟨_, rfl⟩
  have Hl := hide hl
  cases hv : valP l with
  | false =>
    have hr := unp_no b (by rw [hl, hv]; simp)
    have hpk : packR l = ([], 1) := by unfold packR; rw [hv]; rfl
    have Hr := hide hr
    have Hpk := hide hpk
    clear hv hr hpk hl
    go_enter Try.func27, Try.ntmps27
    go_wp2_with fail
    with_reducible refine (elements45 A n c b _ H.out hn).mono ?_
    rw [Hl.out]
    rintro e w1 hg1
    obtain ⟨A1, m1, c1, rfl, hm1, hs1, hb1⟩ := hg1.sl
    have S1 := hide hs1
    have B1 := hide hb1
    clear hg1 hs1 hb1 hm1
    go_wp2_with fail
    with_reducible refine (pack22 A1 m1 c1 l _ S1.out).mono ?_
    rw [Hpk.out]
    rintro e w2 ⟨v2, rfl, -, hb2⟩
    have B2 := hide (B1.out.trans (hb2.mono B1.out.size))
    clear hb2
    go_wp2
    go_ret2
    exact GotU.none Hr.out B2.out
  | true =>
    have hpk : packR l = (packP l, 0) := by unfold packR; rw [hv]; rfl
    have Hpk := hide hpk
    by_cases he : packP l = b
    · have hu := unp_yes b (by rw [hl]; exact hv) (by rw [hl]; exact he)
      rw [hl] at hu
      have Hu := hide hu
      have Heq := hide (show (packP l == b) = true from beq_iff_eq.2 he)
      clear hv hpk hl he hu
      go_enter Try.func27, Try.ntmps27
      go_wp2_with fail
      with_reducible refine (elements45 A n c b _ H.out hn).mono ?_
      rw [Hl.out]
      rintro e w1 ⟨v1, rfl, ho1, hb1⟩
      obtain ⟨A1, m1, c1, rfl, hm1, hs1⟩ := ho1.slI
      have O1 := hide ho1
      have S1 := hide hs1
      have B1 := hide hb1
      clear ho1 hs1 hb1 hm1
      go_wp2_with fail
      with_reducible refine (pack22 A1 m1 c1 l _ S1.out).mono ?_
      rw [Hpk.out]
      rintro e w2 hp2
      obtain ⟨A2, m2, c2, rfl, hm2, hs2, hb2⟩ := PutL.sl2 hp2
      have S2 := hide hs2
      have O2 := hide (O1.out.below hb2)
      have B2 := hide (B1.out.trans (hb2.mono B1.out.size))
      clear hp2 hs2 hb2 hm2 O1 S1
      go_wp2_with fail
      with_reducible refine (equal46' A2 A m2 c2 n c _ b true Heq.out _ S2.out (H.out.below B2.out)).mono ?_
      rintro e w3 ⟨rfl, rfl⟩
      go_wp2
      go_ret2
      rw [Hu.out]
      exact ⟨_, rfl, O2.out, B2.out⟩
    · have hr := unp_no b (by rw [hl]; exact fun h => he h.2)
      have Hr := hide hr
      have Heq := hide (show (packP l == b) = false from beq_eq_false_iff_ne.2 he)
      clear hv hpk hl he hr
      go_enter Try.func27, Try.ntmps27
      go_wp2_with fail
      with_reducible refine (elements45 A n c b _ H.out hn).mono ?_
      rw [Hl.out]
      rintro e w1 hg1
      obtain ⟨A1, m1, c1, rfl, hm1, hs1, hb1⟩ := hg1.sl
      have S1 := hide hs1
      have B1 := hide hb1
      clear hg1 hs1 hb1 hm1
      go_wp2_with fail
      with_reducible refine (pack22 A1 m1 c1 l _ S1.out).mono ?_
      rw [Hpk.out]
      rintro e w2 hp2
      obtain ⟨A2, m2, c2, rfl, hm2, hs2, hb2⟩ := PutL.sl2 hp2
      have S2 := hide hs2
      have B2 := hide (B1.out.trans (hb2.mono B1.out.size))
      clear hp2 hs2 hb2 hm2 S1
      go_wp2_with fail
      with_reducible refine (equal46' A2 A m2 c2 n c _ b false Heq.out _ S2.out (H.out.below B2.out)).mono ?_
      rintro e w3 ⟨rfl, rfl⟩
      go_wp2
      go_ret2
      exact GotU.none Hr.out B2.out

/-- slices.BinarySearch at an increasing list: how many are less. -/
theorem search50 (A : Option Addr) (n c : Nat) (l : List Int) (m : Int) (w : World) (h : Sl w A n c (numCells l)) (hu : Up l) (hn : n ≤ 1000000) :
    Calls Try.prog 50 #[.slice A n c, .int .i64 m] w fun e w' => (∃ f : Bool, e = .returned (.tuple #[.int .i64 (cntL l m : Int), .bool f])) ∧ Drawn w w' := by
  have hl := h.nlen
  by_cases h0 : n = 0
  · subst h0
    obtain rfl : l = [] := List.eq_nil_of_length_eq_zero hl
    refine (Try.slices_BinarySearch_int_empty A c m w).mono ?_
    rintro e w' ⟨rfl, rfl⟩
    exact ⟨⟨_, rfl⟩, Drawn.refl _⟩
  · obtain ⟨ad, u, rfl, _, _, _⟩ := h.reads.at_ (k := 0) (by omega)
    obtain ⟨g, o, rfl, hc⟩ := h.shelf (by omega)
    refine (Try.slices_BinarySearch_int g o n c l m w (by omega) (by omega) hc ?_).mono ?_
    · rw [List.take_of_length_le (by omega)]
      exact List.Pairwise.imp (fun h => by omega) hu
    · rintro e w' ⟨rfl, hd⟩
      rw [List.take_of_length_le (by omega)]
      exact ⟨⟨_, rfl⟩, hd⟩

set_option maxRecDepth 20000 in
set_option maxHeartbeats 3200000 in
theorem seek29 (A : Option Addr) (n c : Nat) (b : List UInt8) (m : Int) (w : World) (h : Sl w A n c (byteCells b)) (hn : n ≤ 1000000) :
    Calls Try.prog 29 #[.slice A n c, .int .i64 m] w fun e w' => e = .returned (.tuple #[.int .i64 (seekV (unpackP b) m).1, .bool (seekV (unpackP b) m).2]) ∧ Below w.heap.size w w' := by
  have H := hide h
  clear h
  cases hu : unpackP b with
  | none =>
    have Hu := hide hu
    clear hu
    go_enter Try.func29, Try.ntmps29
    go_wp2_with fail
    with_reducible refine (unpack27 A n c b _ H.out hn).mono ?_
    rw [Hu.out]
    rintro e w1 ⟨v1, rfl, -, hb1⟩
    have B1 := hide hb1
    clear hb1
    go_wp2
    go_ret2
    exact ⟨rfl, B1.out⟩
  | some l =>
    have Hu := hide hu
    have hup := ((val_iff l).1 (pack_unpack b l hu).1).1
    have hll := val_len l (pack_unpack b l hu).1
    have hsp := cnt_spec l m hup
    have hcl := cntL_le l m
    have Hup := hide hup
    obtain ⟨k, hk⟩ : ∃ k, cntL l m = k := ⟨_, rfl⟩
    rw [hk] at hsp hcl
    have Hk := hide hk
    have Hsp := hide hsp
    clear hu hup hsp hk
    go_enter Try.func29, Try.ntmps29
    go_wp2_with fail
    with_reducible refine (unpack27 A n c b _ H.out hn).mono ?_
    rw [Hu.out]
    rintro e w1 hp1
    obtain ⟨A1, m1, c1, rfl, hm1, hs1, hb1⟩ := GotU.sl2 hp1
    have S1 := hide hs1
    have B1 := hide hb1
    have hlm : l.length = m1 := hm1.symm
    have Hlm := hide hlm
    have hm1b : m1 ≤ 10000 := by omega
    have hkm : k ≤ m1 := by omega
    have hmc := hs1.1
    have hmc2 := hs1.2.1
    clear hp1 hs1 hb1 hm1 hlm hcl hll
    go_wp2_with fail
    with_reducible refine (search50 A1 m1 c1 l m _ S1.out Hup.out (by omega)).mono ?_
    rintro e w2 ⟨⟨f, rfl⟩, hd⟩
    rw [Hk.out]
    have B2 := hide (B1.out.trans (hd.below _))
    have hbel := hd.below w1.heap.size
    by_cases hlt : k < m1
    · obtain ⟨ad, z, rfl, hz, hcell⟩ := num_cell (S1.out.below hbel).reads hlt
      have hf := find_at l m k z Hsp.out.1 hz (Hsp.out.2 z hz)
      have Hf := hide hf
      have hei : ((k : Int) == (m1 : Int)) = false := beq_eq_false_iff_ne.2 (by omega)
      have hkm' : (k : Int) < (m1 : Int) := by omega
      clear hf hz hd hbel
      go_wp2
      go_ret2
      refine ⟨?_, B2.out⟩
      show _ = Ending.returned (.tuple #[.int .i64 (seekO (seekS l m)).1, .bool (seekO (seekS l m)).2])
      rw [Hf.out]
      rfl
    · obtain rfl : k = m1 := by omega
      have h1 := Hsp.out.1
      rw [List.take_of_length_le (by rw [Hlm.out]; exact Nat.le_refl _)] at h1
      have hf := find_none l m h1
      have Hf := hide hf
      clear hf h1 hd hbel
      go_wp2
      go_ret2
      refine ⟨?_, B2.out⟩
      show _ = Ending.returned (.tuple #[.int .i64 (seekO (seekS l m)).1, .bool (seekO (seekS l m)).2])
      rw [Hf.out]
      rfl

end Go.Proofs.Ytfljmnjcoagbmaa
