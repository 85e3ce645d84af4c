/- Walks of layer 8's reference: Has, fields. -/
import Derived.Test.YtmiegjefmebpdaaGreatDoorK2
namespace Go.Proofs.YtmiegjefmebpdaaGreatDoor
open Go.RowKit

theorem has_take {set : List (UInt8 × UInt8)} {k : Nat} {r : UInt8 × UInt8} (h : set[k]? = some r) (c : UInt8) : hasS (set.take (k + 1)) c = (hasS (set.take k) c || (decide (r.1 ≤ c) && decide (c ≤ r.2))) := by
  obtain ⟨h1, e⟩ := List.getElem?_eq_some_iff.1 h
  rw [List.take_succ_eq_append_getElem h1, has_app, e]
  simp [hasS]
theorem has_mem {set : List (UInt8 × UInt8)} {k : Nat} {r : UInt8 × UInt8} (h : set[k]? = some r) (c : UInt8) (h1 : r.1 ≤ c) (h2 : c ≤ r.2) : hasS set c = true := by
  unfold hasS
  rw [List.any_eq_true]
  exact ⟨r, List.mem_of_getElem? h, by simp [h1, h2]⟩
set_option maxRecDepth 20000 in
set_option maxHeartbeats 1600000 in
theorem has21 {W : World} {ok : Nat → Prop} {A : Option Addr} {n c : Nat} {set : List (UInt8 × UInt8)} (h : RgS W ok A n c set) (x : UInt8) (q : Bool) (hq : hasS set x = q) :
    Calls Tryz.prog 21 #[.slice A n c, .int .u8 (x.toNat : Int)] W fun e w' => e = .returned (.bool q) ∧ W = w' := by
  have hnc := h.1
  have hcc := h.2.1
  have Hlen := hide h.2.2.1
  have H := hide h
  have Hq := hide hq
  clear h hq
  go_enter Tryz.func21, Tryz.ntmps21
  go_wp2
  go_loop [5] (fun y => ∃ k : Nat, k ≤ n ∧ y = .int .i64 (k : Int) ∧ hasS (set.take k) x = false) (fun y => n - (intOf y).toNat)
  case atStart => exact ⟨0, Nat.zero_le _, rfl, rfl⟩
  case round =>
    obtain ⟨k, hk, rfl, hm⟩ := hrel
    by_cases hlt : k < n
    · obtain ⟨g, o, r, rfl, hr, c0, c1⟩ := H.out.at_ hlt
      have ht := has_take hr x
      rw [hm, Bool.false_or] at ht
      by_cases h1 : r.1 ≤ x
      · have l1 : (r.1.toNat : Int) ≤ (x.toNat : Int) := by have := UInt8.le_iff_toNat_le.1 h1; omega
        by_cases h2 : x ≤ r.2
        · have l2 : (x.toNat : Int) ≤ (r.2.toNat : Int) := by have := UInt8.le_iff_toNat_le.1 h2; omega
          have Hy := hide (show q = true by rw [← Hq.out]; exact has_mem hr x h1 h2)
          clear hm ht hr h1 h2
          go_wp2
          go_ret
          exact ⟨ret_bool Hy.out.symm, rfl⟩
        · have l2 : ¬ (x.toNat : Int) ≤ (r.2.toNat : Int) := by rw [UInt8.le_iff_toNat_le] at h2; omega
          have Hn := hide (show hasS (set.take (k + 1)) x = false by rw [ht]; simp [h2])
          clear hm ht hr h1 h2
          go_wp2
          go_round
          case rel => exact ⟨k + 1, by omega, by go_num, Hn.out⟩
          case measure => simp [intOf]; omega
      · have l1 : ¬ (r.1.toNat : Int) ≤ (x.toNat : Int) := by rw [UInt8.le_iff_toNat_le] at h1; omega
        have Hn := hide (show hasS (set.take (k + 1)) x = false by rw [ht]; simp [h1])
        clear hm ht hr h1
        go_wp2
        go_round
        case rel => exact ⟨k + 1, by omega, by go_num, Hn.out⟩
        case measure => simp [intOf]; omega
    · rw [List.take_of_length_le (by rw [Hlen.out]; omega)] at hm
      have Hn := hide (show q = false by rw [← Hq.out]; exact hm)
      clear hm
      go_wp2
      go_ret
      exact ⟨ret_bool Hn.out.symm, rfl⟩

/-! ### fields -/
theorem fields_no {k a b : Int} {s : List (UInt8 × UInt8)} {l : List Rx} (h : ¬ (1 ≤ k ∧ k ≤ 7) ∨ ¬ (k = 1 ↔ 0 < s.length) ∨ ¬ (∀ r ∈ s, r.1 ≤ r.2) ∨ ¬ (k = 4 ∨ (a = 0 ∧ b = 0))) : fieldsR (.mk k s a b l) = false := by
  cases hf : fieldsR (.mk k s a b l) with
  | false => rfl
  | true =>
    obtain ⟨h1, h2, h3, h4, _⟩ := fields_of hf
    rcases h with h | h | h | h
    · exact absurd h1 h
    · exact absurd (h2.trans List.length_pos_iff.symm) h
    · exact absurd h3 h
    · refine absurd ?_ h
      by_cases hk : k = 4
      · exact Or.inl hk
      · exact Or.inr (h4 hk)
theorem fields_yes {k a b : Int} {s : List (UInt8 × UInt8)} {l : List Rx} (h1 : 1 ≤ k ∧ k ≤ 7) (h2 : k = 1 ↔ 0 < s.length) (h3 : ∀ r ∈ s, r.1 ≤ r.2) (h4 : k = 4 ∨ (a = 0 ∧ b = 0)) :
    fieldsR (.mk k s a b l) = (if k = 4 then decide (l.length = 1) else if k = 3 then decide (2 ≤ l.length) else decide (k = 2) || decide (l.length = 0)) := by
  simp only [fieldsR]
  rw [decide_eq_true h1, List.all_eq_true.2 fun r hr => decide_eq_true (h3 r hr)]
  have e1 : (decide (k = 1) == decide (0 < s.length)) = true := by
    rw [beq_iff_eq]
    exact decide_eq_decide.2 h2
  have e2 : (decide (k = 4) || decide (a = 0 ∧ b = 0)) = true := by
    rcases h4 with h4 | h4
    · simp [h4]
    · simp [h4]
  rw [e1, e2]
  simp
theorem all_take {s : List (UInt8 × UInt8)} {k : Nat} {r : UInt8 × UInt8} (h : s[k]? = some r) (hm : ∀ x ∈ s.take k, x.1 ≤ x.2) (hr : r.1 ≤ r.2) : ∀ x ∈ s.take (k + 1), x.1 ≤ x.2 := by
  obtain ⟨h1, e⟩ := List.getElem?_eq_some_iff.1 h
  rw [List.take_succ_eq_append_getElem h1, e]
  intro x hx
  rw [List.mem_append, List.mem_singleton] at hx
  rcases hx with hx | rfl
  · exact hm x hx
  · exact hr

set_option maxRecDepth 100000 in
set_option maxHeartbeats 6400000 in
theorem fields53 {W : World} {ok : Nat → Prop} {v : Value} {r : Rx} (hv : RxV W ok v r) (q : Bool) (hq : fieldsR r = q) : Calls Tryz.prog 53 #[v] W fun e w' => e = .returned (.bool q) ∧ Below W.heap.size W w' := by
  cases hv with
  | mk k a b A B n c m d s vs l hset hvs hlen hk ha hb hr =>
  have hnc := hset.1
  have hcc := hset.2.1
  have hmd := hvs.1
  have hdd := hvs.2.1
  have hsl := hset.2.2.1
  have Hsl := hide hsl
  have hB := bnew (Below.refl _ W) (.cells #[.int .i64 k, .slice A n c, .int .i64 a, .int .i64 b, .slice B m d] 25)
  have S := hide (hset.below hB)
  have BB := hide hB
  have F := hide (five_new W (.int .i64 k) (.slice A n c) (.int .i64 a) (.int .i64 b) (.slice B m d) 25)
  have Hno := hide (show (¬ (1 ≤ k ∧ k ≤ 7) ∨ ¬ (k = 1 ↔ 0 < n) ∨ ¬ (∀ r ∈ s, r.1 ≤ r.2) ∨ ¬ (k = 4 ∨ (a = 0 ∧ b = 0))) → q = false from fun h => by rw [← hq]; exact fields_no (by rw [hsl]; exact h))
  have Hyes := hide (show (1 ≤ k ∧ k ≤ 7) → (k = 1 ↔ 0 < n) → (∀ r ∈ s, r.1 ≤ r.2) → (k = 4 ∨ (a = 0 ∧ b = 0)) → (if k = 4 then decide (m = 1) else if k = 3 then decide (2 ≤ m) else decide (k = 2) || decide (m = 0)) = q from
    fun h1 h2 h3 h4 => by rw [← hq, fields_yes h1 (by rw [hsl]; exact h2) h3 h4, hlen])
  clear hset hvs hr hB hq hsl hlen
  by_cases h1 : 1 ≤ k ∧ k ≤ 7
  · obtain ⟨h1a, h1b⟩ := h1
    by_cases h2 : k = 1 ↔ 0 < n
    · have q2 : (!((k == 1) == decide (0 < n))) = false := by
        have : (k == 1) = decide (0 < n) := by
          rw [Bool.eq_iff_iff, beq_iff_eq, decide_eq_true_eq, h2]
        rw [this]
        cases decide (0 < n) <;> rfl
      have H2 := hide h2
      clear h2
      go_enter Tryz.func53, Tryz.ntmps53
      go_wp2
      go_loopw [3] (fun x wr => ∃ i : Nat, i ≤ n ∧ x = .int .i64 (i : Int) ∧ (∀ r ∈ s.take i, r.1 ≤ r.2) ∧ Drawn (W.alloc (.cells #[.int .i64 k, .slice A n c, .int .i64 a, .int .i64 b, .slice B m d] 25)) wr) (fun x _ => n - (intOf x).toNat)
      case atStart => exact ⟨0, Nat.zero_le _, rfl, fun r hr => by simp at hr, Drawn.refl _⟩
      case round =>
        obtain ⟨i, hi, rfl, hm, hd⟩ := hrel
        have hbel := DrawnBel hd
        obtain ⟨_, t0, t1, t2, t3, t4⟩ := F.out.keep hbel
        have Hm := hide hm
        have Dr := hide hd
        have B3 := hide (bgo BB.out hbel)
        clear hm hd
        by_cases hlt : i < n
        · obtain ⟨g, o, r, rfl, hr, c0, c1⟩ := (S.out.below hbel).at_ hlt
          have hin : (i : Int) < (n : Int) := by omega
          by_cases hle : r.1 ≤ r.2
          · have l1 : decide (r.2.toNat < r.1.toNat) = false := decide_eq_false (by have := UInt8.le_iff_toNat_le.1 hle; omega)
            have l2 : decide (r.2 < r.1) = false := decide_eq_false (by rw [UInt8.lt_iff_toNat_lt]; have := UInt8.le_iff_toNat_le.1 hle; omega)
            have Hn := hide (all_take hr Hm.out hle)
            clear hr hle hbel
            go_wp2
            go_quiet (fail)
            go_wp2
            go_roundw
            case rel => exact ⟨i + 1, by omega, by go_num, Hn.out, Dr.out.more _⟩
            case measure => simp [intOf]; omega
          · have l1 : decide (r.2.toNat < r.1.toNat) = true := decide_eq_true (by rw [UInt8.le_iff_toNat_le] at hle; omega)
            have l2 : decide (r.2 < r.1) = true := decide_eq_true (by rw [UInt8.lt_iff_toNat_lt]; rw [UInt8.le_iff_toNat_le] at hle; omega)
            have Hn := hide (Hno.out (Or.inr (Or.inr (Or.inl fun h => hle (h r (List.mem_of_getElem? hr))))))
            clear hr hle hbel
            go_wp2
            go_quiet (fail)
            go_wp2
            go_ret
            exact ⟨ret_bool Hn.out.symm, bgo B3.out (Drawn.below ⟨_, rfl⟩ _)⟩
        · have hall := Hm.out
          rw [List.take_of_length_le (by rw [Hsl.out]; omega)] at hall
          have Hall := hide hall
          clear hall hbel
          by_cases h4 : k = 4
          · have y := Hyes.out ⟨h1a, h1b⟩ H2.out Hall.out (Or.inl h4)
            rw [if_pos h4] at y
            have Y := hide y
            have e4 : (k != 4) = false := int_eq h4
            have e4' : (k == 4) = true := by rw [h4]; rfl
            obtain ⟨z, hz⟩ : ∃ z, ((m : Int) == 1) = z := ⟨_, rfl⟩
            have Z := hide (show z = q by
              rw [← Y.out, ← hz]
              rw [Bool.eq_iff_iff, beq_iff_eq, decide_eq_true_eq]
              omega)
            clear y h4
            go_wp2
            go_ret
            exact ⟨ret_bool Z.out, B3.out⟩
          · have e4 : (k != 4) = true := int_ne h4
            have e4' : (k == 4) = false := beq_eq_false_iff_ne.2 h4
            by_cases ha0 : a = 0
            · have ea : (a != 0) = false := int_eq ha0
              by_cases hb0 : b = 0
              · have eb : (b != 0) = false := int_eq hb0
                have y := Hyes.out ⟨h1a, h1b⟩ H2.out Hall.out (Or.inr ⟨ha0, hb0⟩)
                rw [if_neg h4] at y
                by_cases h3 : k = 3
                · rw [if_pos h3] at y
                  have Y := hide y
                  have e3 : (k == 3) = true := by rw [h3]; rfl
                  have Z := hide (show decide ((2 : Int) ≤ (m : Int)) = q by
                    rw [← Y.out]
                    exact decide_eq_decide.2 (by omega))
                  clear y h4 ha0 hb0 h3
                  go_wp2
                  go_ret
                  exact ⟨ret_bool (by rw [← Z.out]), B3.out⟩
                · rw [if_neg h3] at y
                  have e3 : (k == 3) = false := beq_eq_false_iff_ne.2 h3
                  by_cases hk2 : k = 2
                  · have Y := hide (show true = q by rw [← y, hk2]; rfl)
                    have e2 : (k == 2) = true := by rw [hk2]; rfl
                    clear y h4 ha0 hb0 h3 hk2
                    go_wp2
                    go_ret
                    exact ⟨ret_bool Y.out, B3.out⟩
                  · have e2 : (k == 2) = false := beq_eq_false_iff_ne.2 hk2
                    obtain ⟨z, hz⟩ : ∃ z, ((m : Int) == 0) = z := ⟨_, rfl⟩
                    have Z := hide (show z = q by
                      rw [← y, ← hz, decide_eq_false hk2, Bool.false_or]
                      rw [Bool.eq_iff_iff, beq_iff_eq, decide_eq_true_eq]
                      omega)
                    clear y h4 ha0 hb0 h3 hk2
                    go_wp2
                    go_ret
                    exact ⟨ret_bool Z.out, B3.out⟩
              · have eb : (b != 0) = true := int_ne hb0
                have Hn := hide (Hno.out (Or.inr (Or.inr (Or.inr fun h => by
                  rcases h with h | h
                  · exact h4 h
                  · exact hb0 h.2))))
                clear h4 ha0 hb0
                go_wp2
                go_ret
                exact ⟨ret_bool Hn.out.symm, B3.out⟩
            · have ea : (a != 0) = true := int_ne ha0
              have Hn := hide (Hno.out (Or.inr (Or.inr (Or.inr fun h => by
                rcases h with h | h
                · exact h4 h
                · exact ha0 h.1))))
              clear h4 ha0
              go_wp2
              go_ret
              exact ⟨ret_bool Hn.out.symm, B3.out⟩
    · have q2 : (!((k == 1) == decide (0 < n))) = true := by
        have e : ¬ (k == 1) = decide (0 < n) := fun e => h2 (by
          rw [Bool.eq_iff_iff, beq_iff_eq, decide_eq_true_eq] at e
          exact e)
        cases h1 : (k == 1) <;> cases h2 : decide (0 < n) <;> first | rfl | (exact absurd (by rw [h1, h2]) e)
      have Hn := hide (Hno.out (Or.inr (Or.inl h2)))
      clear h2
      go_enter Tryz.func53, Tryz.ntmps53
      go_wp2
      go_ret
      exact ⟨ret_bool Hn.out.symm, BB.out⟩
  · have Hn := hide (Hno.out (Or.inl h1))
    by_cases h1a : k < 1
    · clear h1
      go_enter Tryz.func53, Tryz.ntmps53
      go_wp2
      go_ret
      exact ⟨ret_bool Hn.out.symm, BB.out⟩
    · have h1b : 7 < k := by omega
      clear h1
      go_enter Tryz.func53, Tryz.ntmps53
      go_wp2
      go_ret
      exact ⟨ret_bool Hn.out.symm, BB.out⟩

end Go.Proofs.YtmiegjefmebpdaaGreatDoor
