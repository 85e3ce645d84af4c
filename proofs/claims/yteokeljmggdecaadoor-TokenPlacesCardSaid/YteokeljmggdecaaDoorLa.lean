/- Walks of layer 11's law: bounded, metas, fails, alive. -/
import Derived.Test.YteokeljmggdecaaDoorRl
import Derived.Test.YteokeljmggdecaaDoorRd
import Derived.Test.YteokeljmggdecaaDoorRc
namespace Go.Proofs.YteokeljmggdecaaDoor
open Go.RowKit

def Wide (l : List Tk) : Prop := ∀ t ∈ l, t.text.length ≤ 9223372036854775807
def bndS (l : List Tk) : Bool := decide (l.length ≤ 700) && l.all fun t => decide (t.text.length ≤ 100)
theorem bnd_short {l : List Tk} (h : bndS l = true) : l.length ≤ 700 ∧ Short l := by
  unfold bndS at h
  simp only [Bool.and_eq_true, decide_eq_true_eq, List.all_eq_true] at h
  exact ⟨h.1, h.2⟩
set_option maxRecDepth 20000 in
set_option maxHeartbeats 3200000 in
theorem lbounded (A : Option Addr) (n c : Nat) (l : List Tk) (w : World) (h : TkS w A n c l) (hw : Wide l) (q : Bool) (hq : bndS l = q) :
    Calls Tryd.prog 15 #[.slice A n c] w fun e w' => e = .returned (.bool q) ∧ w = w' := by
  have H := hide h
  have Hn := hide h.2.2.1
  have hnc := h.1
  have hcc := h.2.1
  have Hq := hide hq
  have Hw := hide hw
  clear h hq hw
  by_cases h700 : 700 < n
  · have Hy := hide (show false = q by
      rw [← Hq.out]
      unfold bndS
      rw [Hn.out, decide_eq_false (by omega)]
      rfl)
    have hg : (700 : Int) < (n : Int) := by omega
    have hg2 : (n : Int) > 700 := hg
    go_enter Tryd.func15, Tryd.ntmps15
    go_wp2
    go_ret
    exact ⟨ret_bool Hy.out, rfl⟩
  · have hg : ¬ (700 : Int) < (n : Int) := by omega
    have hg2 : ¬ (n : Int) > 700 := hg
    go_enter Tryd.func15, Tryd.ntmps15
    go_wp2_with fail
    go_loopw [3] (fun y wr => ∃ k : Nat, k ≤ n ∧ y = .int .i64 (k : Int) ∧ ((l.take k).all fun t => decide (t.text.length ≤ 100)) = true ∧ wr = w) (fun y _ => n - (intOf y).toNat)
    case atStart => exact ⟨0, Nat.zero_le _, rfl, rfl, rfl⟩
    case round =>
      obtain ⟨k, hk, rfl, hm, rfl⟩ := hrel
      by_cases hlt : k < n
      · have hki : (k : Int) < (n : Int) := by omega
        obtain ⟨g, o, t, rfl, ht, c0, c1, c2, c3⟩ := H.out.at_ hlt
        have htw : (bs t.text).size ≤ 9223372036854775807 := by rw [bs_size]; exact Hw.out t (List.mem_of_getElem? ht)
        obtain ⟨T, hT⟩ : ∃ T, bs t.text = T := ⟨_, rfl⟩
        have hTs : T.size = t.text.length := by rw [← hT, bs_size]
        rw [hT] at c1 htw
        clear hT
        by_cases h100 : 100 < T.size
        · have Hy := hide (show false = q by
            rw [← Hq.out]
            unfold bndS
            have : (l.all fun t => decide (t.text.length ≤ 100)) = false := by
              cases hc : l.all fun t => decide (t.text.length ≤ 100) with
              | false => rfl
              | true =>
                have := of_decide_eq_true (List.all_eq_true.1 hc t (List.mem_of_getElem? ht))
                omega
            rw [this, Bool.and_false])
          have h1 : (100 : Int) < (T.size : Int) := by omega
          have h2 : (T.size : Int) > 100 := h1
          clear hm ht hTs h100
          go_wp2
          go_ret
          exact ⟨ret_bool Hy.out, rfl⟩
        · have Hs := hide (show ((l.take (k + 1)).all fun t => decide (t.text.length ≤ 100)) = true by
            rw [take_snocT ht, List.all_append, hm]
            simp only [List.all_cons, List.all_nil, Bool.and_true, Bool.true_and]
            exact decide_eq_true (by omega))
          have h1 : ¬ (100 : Int) < (T.size : Int) := by omega
          have h2 : ¬ (T.size : Int) > 100 := h1
          clear hm ht hTs h100
          go_wp2
          go_roundw
          case rel => exact ⟨k + 1, by omega, by go_num, Hs.out, trivial⟩
          case measure => simp [intOf]; omega
      · have hki : ¬ (k : Int) < (n : Int) := by omega
        have Hy := hide (show true = q by
          rw [List.take_of_length_le (by rw [Hn.out]; omega)] at hm
          rw [← Hq.out]
          unfold bndS
          rw [hm, Hn.out, decide_eq_true (by omega)]
          rfl)
        clear hm
        go_wp2
        go_ret
        exact ⟨ret_bool Hy.out, rfl⟩

set_option maxRecDepth 20000 in
set_option maxHeartbeats 3200000 in
theorem lmetas (A : Option Addr) (n c : Nat) (l : List Tk) (w : World) (h : TkS w A n c l) (q : Bool) (hq : l.any metaT = q) :
    Calls Tryd.prog 22 #[.slice A n c] w fun e w' => e = .returned (.bool q) ∧ w = w' := by
  have H := hide h
  have Hn := hide h.2.2.1
  have hnc := h.1
  have hcc := h.2.1
  have Hq := hide hq
  clear h hq
  go_enter Tryd.func22, Tryd.ntmps22
  go_wp2_with fail
  go_loopw [3] (fun y wr => ∃ k : Nat, k ≤ n ∧ y = .int .i64 (k : Int) ∧ (l.take k).any metaT = false ∧ wr = w) (fun y _ => n - (intOf y).toNat)
  case atStart => exact ⟨0, Nat.zero_le _, rfl, rfl, rfl⟩
  case round =>
    obtain ⟨k, hk, rfl, hm, rfl⟩ := hrel
    by_cases hlt : k < n
    · have hki : (k : Int) < (n : Int) := by omega
      obtain ⟨g, o, t, rfl, ht, c0, c1, c2, c3⟩ := H.out.at_ hlt
      cases hmt : metaT t with
      | true =>
        have Hy := hide (show true = q by rw [← Hq.out]; exact (List.any_eq_true.2 ⟨t, List.mem_of_getElem? ht, hmt⟩).symm)
        unfold metaT at hmt
        rw [Bool.or_eq_true, decide_eq_true_eq, decide_eq_true_eq] at hmt
        by_cases h6 : t.kind = 6
        · have e6 : (t.kind == 6) = true := by rw [h6]; rfl
          clear hm ht hmt h6
          go_wp2
          go_ret
          exact ⟨ret_bool Hy.out, rfl⟩
        · have e6 : (t.kind == 6) = false := beq_eq_false_iff_ne.2 h6
          have e7 : (t.kind == 7) = true := by rcases hmt with h | h; exact absurd h h6; rw [h]; rfl
          clear hm ht hmt h6
          go_wp2
          go_ret
          exact ⟨ret_bool Hy.out, rfl⟩
      | false =>
        have Hs := hide (show (l.take (k + 1)).any metaT = false by rw [take_snocT ht, List.any_append, hm]; simp [hmt])
        unfold metaT at hmt
        rw [Bool.or_eq_false_iff, decide_eq_false_iff_not, decide_eq_false_iff_not] at hmt
        have e6 : (t.kind == 6) = false := beq_eq_false_iff_ne.2 hmt.1
        have e7 : (t.kind == 7) = false := beq_eq_false_iff_ne.2 hmt.2
        clear hm ht hmt
        go_wp2
        go_roundw
        case rel => exact ⟨k + 1, by omega, by go_num, Hs.out, trivial⟩
        case measure => simp [intOf]; omega
    · have hki : ¬ (k : Int) < (n : Int) := by omega
      have Hy := hide (show false = q by
        rw [List.take_of_length_le (by rw [Hn.out]; omega)] at hm
        rw [← Hq.out, hm])
      clear hm
      go_wp2
      go_ret
      exact ⟨ret_bool Hy.out, rfl⟩

set_option maxRecDepth 20000 in
set_option maxHeartbeats 3200000 in
theorem lfails (s : ByteArray) (hs : s.size ≤ 1000000) (a : Nat) (e : Int) (h : scanS false s.data.toList = .error (a, e)) (w : World) :
    Calls Tryd.prog 23 #[.string s, .int .i64 (a : Int), .int .i64 e] w fun en w' => en = .returned (.bool true) ∧ Below w.heap.size w w' := by
  have HC := hide (pScan s hs w)
  rw [h] at HC
  have HC : Calls Tryd.prog 10 #[.string s] w (GotS w ([], (a : Int), e)) := HC.out
  have HC := hide HC
  clear h
  have e1 : ((a : Int) == (a : Int)) = true := by simp
  have e2 : (e == e) = true := by simp
  go_enter Tryd.func23, Tryd.ntmps23
  go_wp2_with fail
  with_reducible refine HC.out.mono ?_
  rintro en w1 ⟨A, n, c, rfl, hts, hb⟩
  obtain rfl : n = 0 := hts.2.2.1.symm
  have HB := hide hb
  have hnc := hts.1
  clear hts hb
  go_wp2
  go_ret
  exact ⟨rfl, HB.out⟩
end Go.Proofs.YteokeljmggdecaaDoor
