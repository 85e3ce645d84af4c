/- Walks of layer 11's reference: word, Name, contents, digits. -/
import Derived.Test.YteokeljmggdecaaDoorHg
namespace Go.Proofs.YteokeljmggdecaaDoor
open Go.RowKit

theorem drop_end {s : ByteArray} {m : Nat} (h : ¬ m < s.size) : s.data.toList.drop m = [] := List.drop_eq_nil_of_le (by rw [size_list]; omega)
theorem word_at {s : ByteArray} {j : Nat} (h : j < s.size) (hw : wdB s[j] = true) : (wordS (s.data.toList.drop j)).length = (wordS (s.data.toList.drop (j + 1))).length + 1 := by
  rw [drop_cons h]
  unfold wordS
  rw [tw_cons _ _ hw]
  rfl
theorem word_stop {s : ByteArray} {j : Nat} (h : j < s.size) (hw : wdB s[j] = false) : (wordS (s.data.toList.drop j)).length = 0 := by
  rw [drop_cons h]
  unfold wordS
  simp [List.takeWhile, hw]
theorem word_end {s : ByteArray} {j : Nat} (h : ¬ j < s.size) : (wordS (s.data.toList.drop j)).length = 0 := by
  rw [drop_end h]
  rfl
set_option maxRecDepth 20000 in
set_option maxHeartbeats 1600000 in
theorem rword (s : ByteArray) (k : Nat) (hk : k ≤ s.size) (hs : s.size ≤ 1000000) (E : Nat) (hE : k + (wordS (s.data.toList.drop k)).length = E) (w : World) :
    Calls Tryd.prog 63 #[.string s, .int .i64 (k : Int)] w fun e w' => e = .returned (.int .i64 (E : Int)) ∧ w = w' := by
  have HE := hide hE
  clear hE
  go_enter Tryd.func63, Tryd.ntmps63
  go_wp2_with fail
  go_loopw [1] (fun y wr => ∃ j : Nat, j ≤ s.size ∧ y = .int .i64 (j : Int) ∧ j + (wordS (s.data.toList.drop j)).length = E ∧ wr = w) (fun y _ => s.size - (intOf y).toNat)
  case atStart => exact ⟨k, hk, rfl, HE.out, rfl⟩
  case round =>
    clear HE hk
    obtain ⟨j, hj, rfl, hjE, rfl⟩ := hrel
    by_cases hlt : j < s.size
    · have hji : (j : Int) < (s.size : Int) := by omega
      have HL := hide (fun W => rletter s[j] W)
      have HD := hide (fun W => rdigit s[j] W)
      cases hw : wdB s[j] with
      | true =>
        have Hn := hide (show j + 1 + (wordS (s.data.toList.drop (j + 1))).length = E by have := word_at hlt hw; omega)
        cases hl : ltB s[j] with
        | true =>
          rw [hl] at HL
          clear hjE hw hl
          go_wp2_with fail
          with_reducible refine (HL.out _).mono ?_
          rintro e w3 ⟨rfl, rfl⟩
          go_wp2
          go_roundw
          case rel => exact ⟨j + 1, by omega, by go_num, Hn.out, trivial⟩
          case measure => simp [intOf]; omega
        | false =>
          have hd : dgB s[j] = true := by unfold wdB at hw; rwa [hl, Bool.false_or] at hw
          rw [hl] at HL
          rw [hd] at HD
          clear hjE hw hl hd
          go_wp2_with fail
          with_reducible refine (HL.out _).mono ?_
          rintro e w3 ⟨rfl, rfl⟩
          go_wp2_with fail
          with_reducible refine (HD.out _).mono ?_
          rintro e w3 ⟨rfl, rfl⟩
          go_wp2
          go_roundw
          case rel => exact ⟨j + 1, by omega, by go_num, Hn.out, trivial⟩
          case measure => simp [intOf]; omega
      | false =>
        have Hn := hide (show j = E by have := word_stop hlt hw; omega)
        have hl : ltB s[j] = false := by unfold wdB at hw; exact (Bool.or_eq_false_iff.1 hw).1
        have hd : dgB s[j] = false := by unfold wdB at hw; exact (Bool.or_eq_false_iff.1 hw).2
        rw [hl] at HL
        rw [hd] at HD
        clear hjE hw hl hd
        go_wp2_with fail
        with_reducible refine (HL.out _).mono ?_
        rintro e w3 ⟨rfl, rfl⟩
        go_wp2_with fail
        with_reducible refine (HD.out _).mono ?_
        rintro e w3 ⟨rfl, rfl⟩
        go_wp2
        go_ret
        exact ⟨ret_int (by rw [Hn.out]), rfl⟩
    · have hji : ¬ (j : Int) < (s.size : Int) := by omega
      have Hn := hide (show j = E by have := word_end hlt; omega)
      clear hjE
      go_wp2
      go_ret
      exact ⟨ret_int (by rw [Hn.out]), rfl⟩

theorem head_of' {s : ByteArray} (h : 0 < s.size) : s.data.toList = s[0] :: s.data.toList.drop 1 := by
  have := drop_cons h
  rwa [List.drop_zero] at this
theorem empty_of' {s : ByteArray} (h : s.size = 0) : s = ⟨#[]⟩ := ba_ext (by
  have : s.data.toList.length = 0 := by rw [size_list]; exact h
  rw [List.eq_nil_of_length_eq_zero this])
theorem tw_full (p : UInt8 → Bool) (d : List UInt8) : decide ((d.takeWhile p).length = d.length) = d.all p := by
  induction d with
  | nil => rfl
  | cons c d ih =>
    rw [Bool.eq_iff_iff, decide_eq_true_eq] at ih ⊢
    simp only [List.takeWhile, List.all_cons]
    cases hp : p c
    · simp
    · simpa using ih
/-- A name, as the reference asks. -/
theorem name_ways {s : ByteArray} (h : 0 < s.size) : nameS s.data.toList = (ltB s[0] && s.data.toList.all wdB && !isKw s.data.toList) := by
  unfold nameS
  have hh := head_of' h
  have e1 : s.data.toList.isEmpty = false := by rw [hh]; rfl
  have e2 : s.data.toList.headD 0 = s[0] := by rw [hh]; rfl
  rw [e1, e2]
  cases ha : s.data.toList.all wdB with
  | false => simp
  | true =>
    have hw : wdB s[0] = true := by
      rw [hh, List.all_cons, Bool.and_eq_true] at ha
      exact ha.1
    have : (!dgB s[0]) = ltB s[0] := by
      cases hd : dgB s[0] with
      | true => rw [dg_lt hd]; rfl
      | false => rw [wd_lt hw hd]; rfl
    rw [this]
    simp
set_option maxRecDepth 20000 in
set_option maxHeartbeats 1600000 in
theorem rname (s : ByteArray) (hs : s.size ≤ 1000000) (q : Bool) (hq : (nameS s.data.toList && decide (s.data.toList.length ≤ 24)) = q) (w : World) :
    Calls Tryd.prog 53 #[.string s] w fun e w' => e = .returned (.bool q) ∧ Below w.heap.size w w' := by
  rw [size_list] at hq
  by_cases h0 : s.size = 0
  · obtain rfl := empty_of' h0
    have Hq := hide (show false = q from hq)
    clear hq h0
    go_enter Tryd.func53, Tryd.ntmps53
    go_wp2
    go_ret
    exact ⟨ret_bool Hq.out, Below.refl _ _⟩
  · have hpos : 0 < s.size := by omega
    have hp1 : (0 : Int) < (s.size : Int) := by omega
    rw [name_ways hpos] at hq
    by_cases h24 : s.size ≤ 24
    · have hd : decide ((s.size : Int) ≤ 24) = true := decide_eq_true (by omega)
      rw [decide_eq_true h24, Bool.and_true] at hq
      have HL := hide (fun W => rletter s[0] W)
      cases hl : ltB s[0] with
      | false =>
        have Hq := hide (show false = q by rw [← hq, hl]; rfl)
        rw [hl] at HL
        clear hq hl h0
        go_enter Tryd.func53, Tryd.ntmps53
        go_wp2_with fail
        with_reducible refine (HL.out _).mono ?_
        rintro e w3 ⟨rfl, rfl⟩
        go_wp2
        go_ret
        exact ⟨ret_bool Hq.out, Below.refl _ _⟩
      | true =>
        have hf := tw_full wdB s.data.toList
        rw [size_list] at hf
        obtain ⟨E, hE⟩ : ∃ E, (wordS s.data.toList).length = E := ⟨_, rfl⟩
        have HW := hide (fun W => rword s 0 (Nat.zero_le _) hs E (by rw [List.drop_zero, Nat.zero_add]; exact hE) W)
        rw [show (s.data.toList.takeWhile wdB).length = E from hE] at hf
        rw [hl] at HL
        have HW := hide (show ∀ W, Calls Tryd.prog 63 #[.string s, .int .i64 0] W fun e w' => e = .returned (.int .i64 (E : Int)) ∧ W = w' from HW.out)
        by_cases hall : E = s.size
        · have hE2 : ((E : Int) == (s.size : Int)) = true := by rw [beq_iff_eq]; omega
          rw [decide_eq_true hall] at hf
          have HK := hide (fun W => rkeyword s _ rfl W)
          obtain ⟨k, hk⟩ : ∃ k, isKw s.data.toList = k := ⟨_, rfl⟩
          rw [hk] at HK
          have Hq := hide (show (!k) = q by rw [← hq, hl, ← hf, hk]; rfl)
          clear hq hl h0 hf hE hall hk
          go_enter Tryd.func53, Tryd.ntmps53
          go_wp2_with fail
          with_reducible refine (HL.out _).mono ?_
          rintro e w3 ⟨rfl, rfl⟩
          go_wp2_with fail
          with_reducible refine (HW.out _).mono ?_
          rintro e w3 ⟨rfl, rfl⟩
          go_wp2_with fail
          with_reducible refine (HK.out _).mono ?_
          rintro e w3 ⟨rfl, hb⟩
          have HB := hide hb
          clear hb
          go_wp2
          go_ret
          exact ⟨ret_bool Hq.out, HB.out⟩
        · have hE2 : ((E : Int) == (s.size : Int)) = false := by rw [beq_eq_false_iff_ne]; omega
          rw [decide_eq_false hall] at hf
          have Hq := hide (show false = q by rw [← hq, hl, ← hf]; rfl)
          clear hq hl h0 hf hE hall
          go_enter Tryd.func53, Tryd.ntmps53
          go_wp2_with fail
          with_reducible refine (HL.out _).mono ?_
          rintro e w3 ⟨rfl, rfl⟩
          go_wp2_with fail
          with_reducible refine (HW.out _).mono ?_
          rintro e w3 ⟨rfl, rfl⟩
          go_wp2
          go_ret
          exact ⟨ret_bool Hq.out, Below.refl _ _⟩
    · have hd : decide ((s.size : Int) ≤ 24) = false := decide_eq_false (by omega)
      have Hq := hide (show false = q by rw [← hq, decide_eq_false h24, Bool.and_false])
      clear hq h0
      go_enter Tryd.func53, Tryd.ntmps53
      go_wp2
      go_ret
      exact ⟨ret_bool Hq.out, Below.refl _ _⟩

theorem con_ways (c : UInt8) : (!conB c) = (((c.toNat : Int) != 10) && (decide ((c.toNat : Int) < 32) || decide ((c.toNat : Int) > 126))) := by
  have h10 : ((c.toNat : Int) == 10) = (c == 10) := beq10 c
  unfold conB visB bne
  rw [h10]
  cases hc : (c == 10) with
  | true => rfl
  | false =>
    simp only [Bool.false_or, Bool.not_false, Bool.true_and, Bool.not_and]
    rw [Bool.eq_iff_iff]
    simp
    omega
theorem all_at {p : UInt8 → Bool} {s : ByteArray} {k : Nat} (hk : k < s.size) (hp : p s[k] = false) : s.data.toList.all p = false := by
  cases ha : s.data.toList.all p with
  | false => rfl
  | true =>
    have : s[k] ∈ s.data.toList := List.mem_of_mem_drop (by rw [drop_cons hk]; exact List.mem_cons_self ..)
    rw [List.all_eq_true.1 ha _ this] at hp
    cases hp
set_option maxRecDepth 20000 in
set_option maxHeartbeats 1600000 in
theorem rcontents (s : ByteArray) (hs : s.size ≤ 1000000) (q : Bool) (hq : (s.data.toList.all conB && decide (s.data.toList.length ≤ 60)) = q) (w : World) :
    Calls Tryd.prog 55 #[.string s] w fun e w' => e = .returned (.bool q) ∧ w = w' := by
  rw [size_list] at hq
  have Hq := hide hq
  clear hq
  go_enter Tryd.func55, Tryd.ntmps55
  go_wp2_with fail
  go_loopw [3] (fun y wr => ∃ j : Nat, j ≤ s.size ∧ y = .int .i64 (j : Int) ∧ (s.data.toList.take j).all conB = true ∧ wr = w) (fun y _ => s.size - (intOf y).toNat)
  case atStart => exact ⟨0, Nat.zero_le _, rfl, rfl, rfl⟩
  case round =>
    obtain ⟨j, hj, rfl, hm, rfl⟩ := hrel
    by_cases hlt : j < s.size
    · have hji : (j : Int) < (s.size : Int) := by omega
      have hw := con_ways s[j]
      have hc := byte_lt s[j]
      cases hcb : conB s[j] with
      | true =>
        have Hn := hide (take_all hm hlt hcb)
        rw [hcb] at hw
        clear hm hcb
        by_cases h10 : (s[j]).toNat = 10
        · have e10 : (((s[j]).toNat : Int) != 10) = false := by rw [h10]; rfl
          clear hw
          go_wp2
          go_roundw
          case rel => exact ⟨j + 1, by omega, by go_num, Hn.out, trivial⟩
          case measure => simp [intOf]; omega
        · have e10 : (((s[j]).toNat : Int) != 10) = true := by unfold bne; rw [beq_eq_false_iff_ne.2 (by omega)]; rfl
          rw [e10, Bool.true_and] at hw
          have hw := Bool.or_eq_false_iff.1 hw.symm
          have l32 : ¬ ((s[j]).toNat : Int) < 32 := of_decide_eq_false hw.1
          have g126 : ¬ ((s[j]).toNat : Int) > 126 := of_decide_eq_false hw.2
          have d32 : decide (((s[j]).toNat : Int) < 32) = false := hw.1
          have d126 : decide (((s[j]).toNat : Int) > 126) = false := hw.2
          clear hw h10
          go_wp2
          go_roundw
          case rel => exact ⟨j + 1, by omega, by go_num, Hn.out, trivial⟩
          case measure => simp [intOf]; omega
      | false =>
        have Hy := hide (show false = q by rw [← Hq.out, all_at hlt hcb]; rfl)
        rw [hcb] at hw
        have hw := Bool.and_eq_true_iff.1 hw.symm
        have e10 : (((s[j]).toNat : Int) != 10) = true := hw.1
        have hw2 := Bool.or_eq_true_iff.1 hw.2
        clear hm hcb hw
        by_cases l32 : (s[j]).toNat < 32
        · have d32 : decide (((s[j]).toNat : Int) < 32) = true := decide_eq_true (by omega)
          clear hw2
          go_wp2
          go_ret
          exact ⟨ret_bool Hy.out, rfl⟩
        · have d32 : decide (((s[j]).toNat : Int) < 32) = false := decide_eq_false (by omega)
          have d126 : decide (((s[j]).toNat : Int) > 126) = true := by rcases hw2 with h | h; rw [d32] at h; cases h; exact h
          have g126 : ((s[j]).toNat : Int) > 126 := of_decide_eq_true d126
          clear hw2
          go_wp2
          go_ret
          exact ⟨ret_bool Hy.out, rfl⟩
    · have hji : ¬ (j : Int) < (s.size : Int) := by omega
      have Hy := hide (show decide ((s.size : Int) ≤ 60) = q by
        rw [List.take_of_length_le (by rw [size_list]; omega)] at hm
        rw [← Hq.out, hm, Bool.true_and]
        exact decide_eq_decide.2 (by omega))
      clear hm
      go_wp2
      go_ret
      exact ⟨ret_bool Hy.out, rfl⟩

/-- An integer, as the reference asks. -/
def digR (d : List UInt8) : Bool := d.all dgB && (decide (1 ≤ d.length) && decide (d.length ≤ 9) && (decide (d.length = 1) || !(d.headD 0 == 48)))
set_option maxRecDepth 20000 in
set_option maxHeartbeats 1600000 in
theorem rdigits (s : ByteArray) (hs : s.size ≤ 1000000) (q : Bool) (hq : digR s.data.toList = q) (w : World) :
    Calls Tryd.prog 54 #[.string s] w fun e w' => e = .returned (.bool q) ∧ w = w' := by
  unfold digR at hq
  rw [size_list] at hq
  have Hq := hide hq
  clear hq
  go_enter Tryd.func54, Tryd.ntmps54
  go_wp2_with fail
  go_loopw [3] (fun y wr => ∃ j : Nat, j ≤ s.size ∧ y = .int .i64 (j : Int) ∧ (s.data.toList.take j).all dgB = true ∧ wr = w) (fun y _ => s.size - (intOf y).toNat)
  case atStart => exact ⟨0, Nat.zero_le _, rfl, rfl, rfl⟩
  case round =>
    obtain ⟨j, hj, rfl, hm, rfl⟩ := hrel
    by_cases hlt : j < s.size
    · have hji : (j : Int) < (s.size : Int) := by omega
      have HD := hide (fun W => rdigit s[j] W)
      cases hcb : dgB s[j] with
      | true =>
        have Hn := hide (take_all hm hlt hcb)
        rw [hcb] at HD
        clear hm hcb
        go_wp2_with fail
        with_reducible refine (HD.out _).mono ?_
        rintro e w3 ⟨rfl, rfl⟩
        go_wp2
        go_roundw
        case rel => exact ⟨j + 1, by omega, by go_num, Hn.out, trivial⟩
        case measure => simp [intOf]; omega
      | false =>
        have Hy := hide (show false = q by rw [← Hq.out, all_at hlt hcb]; rfl)
        rw [hcb] at HD
        clear hm hcb
        go_wp2_with fail
        with_reducible refine (HD.out _).mono ?_
        rintro e w3 ⟨rfl, rfl⟩
        go_wp2
        go_ret
        exact ⟨ret_bool Hy.out, rfl⟩
    · have hji : ¬ (j : Int) < (s.size : Int) := by omega
      have hall : s.data.toList.all dgB = true := by
        rw [List.take_of_length_le (by rw [size_list]; omega)] at hm
        exact hm
      have hq := Hq.out
      rw [hall, Bool.true_and] at hq
      clear hm hall hj
      by_cases h0 : s.size = 0
      · have hg : decide ((s.size : Int) ≥ 1) = false := decide_eq_false (by omega)
        have hg' : decide ((1 : Int) ≤ (s.size : Int)) = false := decide_eq_false (by omega)
        have Hy := hide (show false = q by rw [← hq, decide_eq_false (by omega)]; rfl)
        clear hq
        go_wp2
        go_ret
        exact ⟨ret_bool Hy.out, rfl⟩
      · have hpos : 0 < s.size := by omega
        have hg : decide ((s.size : Int) ≥ 1) = true := decide_eq_true (by omega)
        have hg' : decide ((1 : Int) ≤ (s.size : Int)) = true := decide_eq_true (by omega)
        rw [decide_eq_true (show 1 ≤ s.size by omega), Bool.true_and] at hq
        by_cases h9 : s.size ≤ 9
        · have hd9 : decide ((s.size : Int) ≤ 9) = true := decide_eq_true (by omega)
          rw [decide_eq_true h9, Bool.true_and] at hq
          by_cases h1 : s.size = 1
          · have e1 : ((s.size : Int) == 1) = true := by rw [beq_iff_eq]; omega
            have Hy := hide (show true = q by rw [← hq, decide_eq_true h1]; rfl)
            clear hq h1
            go_wp2
            go_ret
            exact ⟨ret_bool Hy.out, rfl⟩
          · have e1 : ((s.size : Int) == 1) = false := by rw [beq_eq_false_iff_ne]; omega
            have e48 : (((s[0]).toNat : Int) == 48) = (s[0] == 48) := u8_eq (by decide)
            have hp1 : (0 : Int) < (s.size : Int) := by omega
            obtain ⟨y, hy⟩ : ∃ y, (s[0] == 48) = y := ⟨_, rfl⟩
            rw [hy] at e48
            have e48' : (((s[0]).toNat : Int) != 48) = !y := by unfold bne; rw [e48]
            have Hy := hide (show (!y) = q by
              have hh := head_of' hpos
              rw [← hq, decide_eq_false h1, Bool.false_or, hh]
              show _ = !(s[0] == 48)
              rw [hy])
            clear hq h1 hy
            cases y
            all_goals
              go_wp2
              go_ret
              exact ⟨ret_bool Hy.out, rfl⟩
        · have hd9 : decide ((s.size : Int) ≤ 9) = false := decide_eq_false (by omega)
          have Hy := hide (show false = q by rw [← hq, decide_eq_false h9]; rfl)
          clear hq
          go_wp2
          go_ret
          exact ⟨ret_bool Hy.out, rfl⟩

/-! ### Right -/
theorem right_is (k : Int) (t : List UInt8) : rightS k t = (formS k t && decide (t.length ≤ longS k)) := by
  unfold rightS faultS
  cases formS k t with
  | false => rfl
  | true =>
    rw [if_neg (by decide), Bool.true_and]
    by_cases h : longS k < t.length
    · rw [if_pos h, decide_eq_false (by omega)]; rfl
    · rw [if_neg h, decide_eq_true (by omega)]; rfl
theorem right_name {k : Int} (hk : k = 1 ∨ k = 6 ∨ k = 7) (t : List UInt8) : rightS k t = (nameS t && decide (t.length ≤ 24)) := by
  rw [right_is]
  rcases hk with rfl | rfl | rfl
  · rw [form1]; rfl
  · rw [form6]; rfl
  · rw [form7]; rfl
theorem right_kw (t : List UInt8) : rightS 2 t = isKw t := by
  rw [right_is, form2]
  cases h : isKw t with
  | false => rfl
  | true =>
    have := (kw_facts t (mem_kw h)).2.2.2
    rw [decide_eq_true (show t.length ≤ longS 2 from this)]
    rfl
theorem right_int (t : List UInt8) : rightS 3 t = digR t := by
  rw [right_is, form3]
  unfold digR
  rw [show longS 3 = 9 from rfl]
  cases t with
  | nil => rfl
  | cons c x =>
    have hz : ((c :: x) == [48]) = (decide (x = []) && (c == 48)) := by
      rw [Bool.eq_iff_iff]
      simp only [beq_iff_eq, Bool.and_eq_true, decide_eq_true_eq, List.cons.injEq]
      exact ⟨fun h => ⟨h.2, h.1⟩, fun h => ⟨h.2, h.1⟩⟩
    rw [hz]
    simp only [List.isEmpty_cons, Bool.not_false, List.headD_cons, Bool.true_and, List.length_cons]
    cases x with
    | nil =>
      cases hc : (c == 48) with
      | true =>
        have : c = 48 := by simpa using hc
        subst this
        decide
      | false => simp
    | cons y z =>
      cases hc : (c == 48) with
      | true => simp
      | false => simp
theorem right_text (t : List UInt8) : rightS 4 t = (t.all conB && decide (t.length ≤ 60)) := by rw [right_is, form4]; rfl
theorem right_mark (t : List UInt8) : rightS 5 t = isMk t := by
  rw [right_is, form5]
  cases h : isMk t with
  | false => rfl
  | true =>
    have := (mk_facts t (mem_mk h)).2.2.2.2.2.1
    rw [decide_eq_true (show t.length ≤ longS 5 by show t.length ≤ 24; omega)]
    rfl
theorem right_none {k : Int} (hk : ¬ (k = 1 ∨ k = 6 ∨ k = 7)) (h2 : ¬ k = 2) (h3 : ¬ k = 3) (h4 : ¬ k = 4) (h5 : ¬ k = 5) (t : List UInt8) : rightS k t = false := by
  rw [right_is]
  unfold formS
  rw [if_neg hk, if_neg h2, if_neg h3, if_neg h4, if_neg h5]
  rfl
set_option maxRecDepth 20000 in
set_option maxHeartbeats 3200000 in
theorem rright (k a e : Int) (s : ByteArray) (hs : s.size ≤ 1000000) (q : Bool) (hq : rightS k s.data.toList = q) (w : World) :
    Calls Tryd.prog 32 #[.agg #[.int .i64 k, .string s, .int .i64 a, .int .i64 e]] w fun en w' => en = .returned (.bool q) ∧ Below w.heap.size w w' := by
  have HB := hide (bnew (Below.refl w.heap.size w) (.cells #[.int .i64 k, .string s, .int .i64 a, .int .i64 e] 33))
  by_cases hname : k = 1 ∨ k = 6 ∨ k = 7
  · rw [right_name hname] at hq
    have HN := hide (fun W => rname s hs q hq W)
    clear hq
    rcases hname with rfl | rfl | rfl
    all_goals
      go_enter Tryd.func32, Tryd.ntmps32
      go_wp2_with fail
      with_reducible refine (HN.out _).mono ?_
      rintro en w1 ⟨rfl, hb⟩
      have HB1 := hide (bgo HB.out hb)
      clear hb
      go_wp2
      go_ret
      exact ⟨rfl, HB1.out⟩
  · have e1 : (k == 1) = false := beq_eq_false_iff_ne.2 (by omega)
    have e6 : (k == 6) = false := beq_eq_false_iff_ne.2 (by omega)
    have e7 : (k == 7) = false := beq_eq_false_iff_ne.2 (by omega)
    by_cases h2 : k = 2
    · subst h2
      rw [right_kw] at hq
      have HN := hide (fun W => rkeyword s q hq W)
      clear hq hname e1 e6 e7
      go_enter Tryd.func32, Tryd.ntmps32
      go_wp2_with fail
      with_reducible refine (HN.out _).mono ?_
      rintro en w1 ⟨rfl, hb⟩
      have HB1 := hide (bgo HB.out hb)
      clear hb
      go_wp2
      go_ret
      exact ⟨rfl, HB1.out⟩
    · have e2 : (k == 2) = false := beq_eq_false_iff_ne.2 h2
      by_cases h3 : k = 3
      · subst h3
        rw [right_int] at hq
        have HN := hide (fun W => rdigits s hs q hq W)
        clear hq hname e1 e6 e7 h2 e2
        go_enter Tryd.func32, Tryd.ntmps32
        go_wp2_with fail
        with_reducible refine (HN.out _).mono ?_
        rintro en w1 ⟨rfl, rfl⟩
        go_wp2
        go_ret
        exact ⟨rfl, HB.out⟩
      · have e3 : (k == 3) = false := beq_eq_false_iff_ne.2 h3
        by_cases h4 : k = 4
        · subst h4
          rw [right_text] at hq
          have HN := hide (fun W => rcontents s hs q hq W)
          clear hq hname e1 e6 e7 h2 e2 h3 e3
          go_enter Tryd.func32, Tryd.ntmps32
          go_wp2_with fail
          with_reducible refine (HN.out _).mono ?_
          rintro en w1 ⟨rfl, rfl⟩
          go_wp2
          go_ret
          exact ⟨rfl, HB.out⟩
        · have e4 : (k == 4) = false := beq_eq_false_iff_ne.2 h4
          by_cases h5 : k = 5
          · subst h5
            rw [right_mark] at hq
            have HN := hide (fun W => rmark s q hq W)
            clear hq hname e1 e6 e7 h2 e2 h3 e3 h4 e4
            go_enter Tryd.func32, Tryd.ntmps32
            go_wp2_with fail
            with_reducible refine (HN.out _).mono ?_
            rintro en w1 ⟨rfl, hb⟩
            have HB1 := hide (bgo HB.out hb)
            clear hb
            go_wp2
            go_ret
            exact ⟨rfl, HB1.out⟩
          · have e5 : (k == 5) = false := beq_eq_false_iff_ne.2 h5
            have Hq := hide (show false = q by rw [← hq, right_none hname h2 h3 h4 h5])
            clear hq hname h2 h3 h4 h5
            go_enter Tryd.func32, Tryd.ntmps32
            go_wp2
            go_ret
            exact ⟨ret_bool Hq.out, HB.out⟩
end Go.Proofs.YteokeljmggdecaaDoor
