/- Walks of layer 11's program: Scan, ScanPattern, Same. -/
import Derived.Test.YteokeljmggdecaaDoorHr
namespace Go.Proofs.YteokeljmggdecaaDoor
open Go.RowKit

theorem run_source (xs : Array Value) (W : World) : (callFunc 25 xs).run Tryd.prog W = .ok (.enter 25 xs) W := by kernel_rfl
theorem run_pattern (xs : Array Value) (W : World) : (callFunc 27 xs).run Tryd.prog W = .ok (.enter 27 xs) W := by kernel_rfl
theorem pScan (s : ByteArray) (hs : s.size ≤ 1000000) (w : World) : Calls Tryd.prog 10 #[.string s] w (GotS w (resS (scanS false s.data.toList))) := by
  have HC := hide (pscan 25 false s hs w run_source fun s1 W h0 h1 => psource s1 h0 h1 W)
  obtain ⟨X, hX⟩ : ∃ X, resS (scanS false s.data.toList) = X := ⟨_, rfl⟩
  rw [hX] at HC ⊢
  clear hX
  go_enter Tryd.func10, Tryd.ntmps10
  go_wp2_with fail
  with_reducible refine HC.out.mono ?_
  rintro e w1 ⟨A, n, c, rfl, hts, hb⟩
  have H := hide hts
  have HB := hide hb
  clear hts hb
  go_wp2
  go_ret3
  exact ⟨A, n, c, rfl, H.out, HB.out⟩
theorem pScanPattern (s : ByteArray) (hs : s.size ≤ 1000000) (w : World) : Calls Tryd.prog 13 #[.string s] w (GotS w (resS (scanS true s.data.toList))) := by
  have HC := hide (pscan 27 true s hs w run_pattern fun s1 W h0 h1 => ppattern s1 h0 h1 W)
  obtain ⟨X, hX⟩ : ∃ X, resS (scanS true s.data.toList) = X := ⟨_, rfl⟩
  rw [hX] at HC ⊢
  clear hX
  go_enter Tryd.func13, Tryd.ntmps13
  go_wp2_with fail
  with_reducible refine HC.out.mono ?_
  rintro e w1 ⟨A, n, c, rfl, hts, hb⟩
  have H := hide hts
  have HB := hide hb
  clear hts hb
  go_wp2
  go_ret3
  exact ⟨A, n, c, rfl, H.out, HB.out⟩

theorem bgo2 {a b c : World} (h : Below a.heap.size a b) (k : Below b.heap.size b c) : Below a.heap.size a c := h.trans (k.mono h.size)
def sameT (a b : List Tk) : Bool := decide (ktS a = ktS b)
def kt1 (t u : Tk) : Bool := t.kind == u.kind && t.text == u.text
theorem kt1_iff (t u : Tk) : kt1 t u = true ↔ (t.kind, t.text) = (u.kind, u.text) := by
  unfold kt1
  simp only [Bool.and_eq_true, beq_iff_eq, Prod.mk.injEq]
theorem str_beq2 (a b : List UInt8) : ((bs a).toList == (bs b).toList) = (a == b) := by rw [Lib.toList_data, Lib.toList_data, bs_list, bs_list]
theorem kt_snoc {a b : List Tk} {k : Nat} {t u : Tk} (h : ktS (a.take k) = ktS (b.take k)) (ht : a[k]? = some t) (hu : b[k]? = some u) (htu : kt1 t u = true) : ktS (a.take (k + 1)) = ktS (b.take (k + 1)) := by
  rw [take_snocT ht, take_snocT hu]
  unfold ktS at h ⊢
  rw [List.map_append, List.map_append, h]
  have := (kt1_iff t u).1 htu
  simp only [List.map_cons, List.map_nil]
  rw [this]
theorem kt_part {a b : List Tk} {k : Nat} {t u : Tk} (ht : a[k]? = some t) (hu : b[k]? = some u) (htu : kt1 t u = false) : sameT a b = false := by
  unfold sameT
  rw [decide_eq_false_iff_not]
  intro h
  have h1 : (ktS a)[k]? = (ktS b)[k]? := by rw [h]
  unfold ktS at h1
  rw [List.getElem?_map, List.getElem?_map, ht, hu] at h1
  injection h1 with h1
  rw [(kt1_iff t u).2 h1] at htu
  cases htu
theorem kt_len {a b : List Tk} (h : a.length ≠ b.length) : sameT a b = false := by
  unfold sameT
  rw [decide_eq_false_iff_not]
  intro e
  have := congrArg List.length e
  unfold ktS at this
  rw [List.length_map, List.length_map] at this
  exact h this

theorem run_same1 (xs : Array Value) (W : World) : (callFunc 35 xs).run Tryd.prog W = .ok (.enter 35 xs) W := by kernel_rfl
set_option maxRecDepth 20000 in
set_option maxHeartbeats 1600000 in
theorem psame1 (t u : Tk) (q : Bool) (hq : kt1 t u = q) (w : World) :
    Calls Tryd.prog 35 #[.agg #[.int .i64 t.kind, .string (bs t.text), .int .i64 t.at_, .int .i64 t.en], .agg #[.int .i64 u.kind, .string (bs u.text), .int .i64 u.at_, .int .i64 u.en]] w fun e w' => e = .returned (.bool q) ∧ Below w.heap.size w w' := by
  have HB := hide (bnew (bnew (Below.refl w.heap.size w) (.cells #[.int .i64 t.kind, .string (bs t.text), .int .i64 t.at_, .int .i64 t.en] 33)) (.cells #[.int .i64 u.kind, .string (bs u.text), .int .i64 u.at_, .int .i64 u.en] 33))
  have hs2 := str_beq2 t.text u.text
  obtain ⟨b1, hb1⟩ : ∃ b, (t.kind == u.kind) = b := ⟨_, rfl⟩
  obtain ⟨b2, hb2⟩ : ∃ b, (t.text == u.text) = b := ⟨_, rfl⟩
  rw [hb2] at hs2
  have Hq := hide (show (b1 && b2) = q by rw [← hq]; unfold kt1; rw [hb1, hb2])
  clear hq hb2
  cases b1 with
  | true =>
    go_enter Tryd.func35, Tryd.ntmps35
    go_wp2
    go_ret
    exact ⟨ret_bool (by rw [← Hq.out]; rfl), HB.out⟩
  | false =>
    go_enter Tryd.func35, Tryd.ntmps35
    go_wp2
    go_ret
    exact ⟨ret_bool (by rw [← Hq.out]; rfl), HB.out⟩

set_option maxRecDepth 20000 in
set_option maxHeartbeats 6400000 in
theorem pequalf (A B : Option Addr) (n c m d : Nat) (a b : List Tk) (w : World) (ha : TkS w A n c a) (hb : TkS w B m d b) :
    Calls Tryd.prog 34 #[.slice A n c, .slice B m d, .func (.func 35) #[] #[]] w fun e w' => e = .returned (.bool (sameT a b)) ∧ Below w.heap.size w w' := by
  have hrun := run_same1
  obtain ⟨P, hP⟩ : ∃ P, sameT a b = P := ⟨_, rfl⟩
  rw [hP]
  have HP := hide hP
  have hnc := ha.1
  have hcc := ha.2.1
  have hmd := hb.1
  have hdd := hb.2.1
  have Hn := hide ha.2.2.1
  have Hm := hide hb.2.2.1
  have HA := hide ha
  have HB := hide hb
  clear ha hb hP
  by_cases hnm : n = m
  · subst hnm
    go_enter Tryd.func34, Tryd.ntmps34
    go_wp2_with fail
    go_loopw [17] (fun y wr => ∃ k : Nat, k ≤ n ∧ y = .int .i64 (k : Int) ∧ ktS (a.take k) = ktS (b.take k) ∧ Below w.heap.size w wr) (fun y _ => n - (intOf y).toNat)
    case atStart => exact ⟨0, Nat.zero_le _, rfl, rfl, Below.refl _ _⟩
    case round =>
      obtain ⟨k, hk, rfl, heq, hbl⟩ := hrel
      obtain ⟨w2, hw2⟩ : ∃ w2, w2 = wr := ⟨wr, rfl⟩
      subst hw2
      have HBl := hide hbl
      by_cases hlt : k < n
      · obtain ⟨g, o, t, rfl, ht, c0, c1, c2, c3⟩ := (HA.out.below hbl).at_ hlt
        have HA1 := hide ((HB.out.below hbl).below (bnew (Below.refl w2.heap.size w2) (.cells #[.int .i64 t.kind, .string (bs t.text), .int .i64 t.at_, .int .i64 t.en] 33)))
        obtain ⟨g', o', u, rfl, hu, d0, d1, d2, d3⟩ := HA1.out.at_ hlt
        have HB2 := hide (HBl.out.trans ((bnew (bnew (Below.refl w2.heap.size w2) (.cells #[.int .i64 t.kind, .string (bs t.text), .int .i64 t.at_, .int .i64 t.en] 33)) (.cells #[.int .i64 u.kind, .string (bs u.text), .int .i64 u.at_, .int .i64 u.en] 33)).mono hbl.size))
        have HC := hide (fun q hq W => psame1 t u q hq W)
        cases hq : kt1 t u with
        | true =>
          have Hs := hide (kt_snoc heq ht hu hq)
          have HC := hide (HC.out true hq ((w2.alloc (.cells #[.int .i64 t.kind, .string (bs t.text), .int .i64 t.at_, .int .i64 t.en] 33)).alloc (.cells #[.int .i64 u.kind, .string (bs u.text), .int .i64 u.at_, .int .i64 u.en] 33)))
          clear heq ht hu hq hbl
          go_wp2_with fail
          with_reducible refine HC.out.mono ?_
          rintro e w3 ⟨rfl, hb3⟩
          have HB3 := hide (bgo2 HB2.out hb3)
          clear hb3
          go_wp2
          go_roundw
          case rel => exact ⟨k + 1, by omega, by go_num, Hs.out, HB3.out⟩
          case measure => simp [intOf]; omega
        | false =>
          have Hs := hide (show false = P by rw [← HP.out]; exact (kt_part ht hu hq).symm)
          have HC := hide (HC.out false hq ((w2.alloc (.cells #[.int .i64 t.kind, .string (bs t.text), .int .i64 t.at_, .int .i64 t.en] 33)).alloc (.cells #[.int .i64 u.kind, .string (bs u.text), .int .i64 u.at_, .int .i64 u.en] 33)))
          clear heq ht hu hq hbl
          go_wp2_with fail
          with_reducible refine HC.out.mono ?_
          rintro e w3 ⟨rfl, hb3⟩
          have HB3 := hide (bgo2 HB2.out hb3)
          clear hb3
          go_wp2
          go_ret
          exact ⟨ret_bool Hs.out, HB3.out⟩
      · have Hs := hide (show true = P by
          rw [List.take_of_length_le (by rw [Hn.out]; omega), List.take_of_length_le (by rw [Hm.out]; omega)] at heq
          rw [← HP.out]
          unfold sameT
          rw [decide_eq_true heq])
        clear heq hbl
        go_wp2
        go_ret
        exact ⟨ret_bool Hs.out, HBl.out⟩
  · have hni : ((n : Int) != (m : Int)) = true := by
      unfold bne
      rw [beq_eq_false_iff_ne.2 (by omega)]
      rfl
    have Hs := hide (show false = P by rw [← HP.out]; exact (kt_len (by rw [Hn.out, Hm.out]; exact hnm)).symm)
    clear hnm
    go_enter Tryd.func34, Tryd.ntmps34
    go_wp2
    go_ret
    exact ⟨ret_bool Hs.out, Below.refl _ _⟩
theorem psame (A B : Option Addr) (n c m d : Nat) (a b : List Tk) (w : World) (ha : TkS w A n c a) (hb : TkS w B m d b) :
    Calls Tryd.prog 18 #[.slice A n c, .slice B m d] w fun e w' => e = .returned (.bool (sameT a b)) ∧ Below w.heap.size w w' := by
  have HC := hide (pequalf A B n c m d a b w ha hb)
  obtain ⟨P, hP⟩ : ∃ P, sameT a b = P := ⟨_, rfl⟩
  rw [hP] at HC ⊢
  have hnc := ha.1
  have hmd := hb.1
  clear hP ha hb
  go_enter Tryd.func18, Tryd.ntmps18
  go_wp2_with fail
  with_reducible refine HC.out.mono ?_
  rintro e w1 ⟨rfl, hb⟩
  have HB := hide hb
  clear hb
  go_wp2
  go_ret
  exact ⟨rfl, HB.out⟩
end Go.Proofs.YteokeljmggdecaaDoor
