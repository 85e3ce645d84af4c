/- Walks of layer 11: bytes. -/
import Derived.Test.YteokeljmggdecaaDoorHe
namespace Go.Proofs.YteokeljmggdecaaDoor
open Go.RowKit

theorem ret_str {a b : ByteArray} (h : a = b) : Ending.returned (.string a) = .returned (.string b) := by rw [h]
theorem beq95 (c : UInt8) : ((c.toNat : Int) == 95) = (c == 95) := u8_eq (by decide)
theorem beq10 (c : UInt8) : ((c.toNat : Int) == 10) = (c == 10) := u8_eq (by decide)

theorem pdigit (c : UInt8) (w : World) : Calls Tryd.prog 37 #[.int .u8 (c.toNat : Int)] w fun e w' => e = .returned (.bool (dgB c)) ∧ w = w' := by
  have hc := byte_lt c
  by_cases h1 : 48 ≤ c.toNat <;> by_cases h2 : c.toNat ≤ 57 <;>
  first
  | (exfalso; omega)
  | (have Hq := hide (show dgB c = (decide (48 ≤ c.toNat) && decide (c.toNat ≤ 57)) from rfl)
     go_enter Tryd.func37, Tryd.ntmps37
     go_wp2
     go_ret
     exact ⟨ret_bool (by rw [Hq.out]; simp [h1, h2] <;> omega), rfl⟩)
theorem rdigit (c : UInt8) (w : World) : Calls Tryd.prog 64 #[.int .u8 (c.toNat : Int)] w fun e w' => e = .returned (.bool (dgB c)) ∧ w = w' := by
  have hc := byte_lt c
  by_cases h1 : 48 ≤ c.toNat <;> by_cases h2 : c.toNat ≤ 57 <;>
  first
  | (exfalso; omega)
  | (have Hq := hide (show dgB c = (decide (48 ≤ c.toNat) && decide (c.toNat ≤ 57)) from rfl)
     go_enter Tryd.func64, Tryd.ntmps64
     go_wp2
     go_ret
     exact ⟨ret_bool (by rw [Hq.out]; simp [h1, h2] <;> omega), rfl⟩)
theorem pvisible (c : UInt8) (w : World) : Calls Tryd.prog 79 #[.int .u8 (c.toNat : Int)] w fun e w' => e = .returned (.bool (visB c)) ∧ w = w' := by
  have hc := byte_lt c
  by_cases h1 : 32 ≤ c.toNat <;> by_cases h2 : c.toNat ≤ 126 <;>
  first
  | (exfalso; omega)
  | (have Hq := hide (show visB c = (decide (32 ≤ c.toNat) && decide (c.toNat ≤ 126)) from rfl)
     go_enter Tryd.func79, Tryd.ntmps79
     go_wp2
     go_ret
     exact ⟨ret_bool (by rw [Hq.out]; simp [h1, h2] <;> omega), rfl⟩)
theorem pcontent (c : UInt8) (w : World) : Calls Tryd.prog 70 #[.int .u8 (c.toNat : Int)] w fun e w' => e = .returned (.bool (conB c)) ∧ w = w' := by
  have hc := byte_lt c
  have h10 := beq10 c
  obtain ⟨q, hq⟩ : ∃ q, (c == 10) = q := ⟨_, rfl⟩
  rw [hq] at h10
  have Hq := hide (show conB c = (q || visB c) by unfold conB; rw [hq])
  clear hq
  have HC := hide (pvisible c w)
  obtain ⟨v, hv⟩ : ∃ v, visB c = v := ⟨_, rfl⟩
  rw [hv] at Hq HC
  clear hv
  cases q
  · go_enter Tryd.func70, Tryd.ntmps70
    go_wp2_with fail
    with_reducible refine HC.out.mono ?_
    rintro e w1 ⟨rfl, rfl⟩
    go_wp2
    go_ret
    exact ⟨ret_bool (by rw [Hq.out]; rfl), rfl⟩
  · go_enter Tryd.func70, Tryd.ntmps70
    go_wp2
    go_ret
    exact ⟨ret_bool (by rw [Hq.out]; rfl), rfl⟩
theorem pword (c : UInt8) (w : World) : Calls Tryd.prog 40 #[.int .u8 (c.toNat : Int)] w fun e w' => e = .returned (.bool (wdB c)) ∧ w = w' := by
  have hc := byte_lt c
  have h95 := beq95 c
  obtain ⟨q, hq⟩ : ∃ q, (c == 95) = q := ⟨_, rfl⟩
  rw [hq] at h95
  have HC := hide (pdigit c w)
  obtain ⟨v, hv⟩ : ∃ v, dgB c = v := ⟨_, rfl⟩
  rw [hv] at HC
  have Hq := hide (show wdB c = ((decide (65 ≤ c.toNat) && decide (c.toNat ≤ 90)) || (decide (97 ≤ c.toNat) && decide (c.toNat ≤ 122)) || q || v) by unfold wdB ltB; rw [hq, hv])
  clear hv hq
  by_cases hA : 97 ≤ c.toNat ∧ c.toNat ≤ 122
  · obtain ⟨h1, h2⟩ := hA
    go_enter Tryd.func40, Tryd.ntmps40
    go_wp2
    go_ret
    exact ⟨ret_bool (by rw [Hq.out]; simp [h1, h2] <;> omega), rfl⟩
  · by_cases hB : 65 ≤ c.toNat ∧ c.toNat ≤ 90
    · obtain ⟨h1, h2⟩ := hB
      have h3 : ¬ 97 ≤ c.toNat := by omega
      go_enter Tryd.func40, Tryd.ntmps40
      go_wp2
      go_ret
      exact ⟨ret_bool (by rw [Hq.out]; simp [h1, h2] <;> omega), rfl⟩
    · have HA := hide (show (decide (97 ≤ c.toNat) && decide (c.toNat ≤ 122)) = false by simp; omega)
      have HB := hide (show (decide (65 ≤ c.toNat) && decide (c.toNat ≤ 90)) = false by simp; omega)
      cases q
      · by_cases h1 : 97 ≤ c.toNat
        · have h2 : ¬ c.toNat ≤ 122 := by omega
          have h3 : ¬ c.toNat ≤ 90 := by omega
          have h4 : 65 ≤ c.toNat := by omega
          clear hA hB
          go_enter Tryd.func40, Tryd.ntmps40
          go_wp2_with fail
          with_reducible refine HC.out.mono ?_
          rintro e w1 ⟨rfl, rfl⟩
          go_wp2
          go_ret
          exact ⟨ret_bool (by rw [Hq.out, HA.out, HB.out]; simp [show ¬ (c.toNat : Int) ≤ 122 by omega, show ¬ (c.toNat : Int) ≤ 90 by omega]), rfl⟩
        · by_cases h4 : 65 ≤ c.toNat
          · have h3 : ¬ c.toNat ≤ 90 := by omega
            clear hA hB
            go_enter Tryd.func40, Tryd.ntmps40
            go_wp2_with fail
            with_reducible refine HC.out.mono ?_
            rintro e w1 ⟨rfl, rfl⟩
            go_wp2
            go_ret
            exact ⟨ret_bool (by rw [Hq.out, HA.out, HB.out]; simp [show ¬ (c.toNat : Int) ≤ 90 by omega]), rfl⟩
          · clear hA hB
            go_enter Tryd.func40, Tryd.ntmps40
            go_wp2_with fail
            with_reducible refine HC.out.mono ?_
            rintro e w1 ⟨rfl, rfl⟩
            go_wp2
            go_ret
            exact ⟨ret_bool (by rw [Hq.out, HA.out, HB.out]; simp), rfl⟩
      · by_cases h1 : 97 ≤ c.toNat
        · have h2 : ¬ c.toNat ≤ 122 := by omega
          have h3 : ¬ c.toNat ≤ 90 := by omega
          have h4 : 65 ≤ c.toNat := by omega
          clear hA hB
          go_enter Tryd.func40, Tryd.ntmps40
          go_wp2
          go_ret
          exact ⟨ret_bool (by rw [Hq.out, HA.out, HB.out]; simp), rfl⟩
        · by_cases h4 : 65 ≤ c.toNat
          · have h3 : ¬ c.toNat ≤ 90 := by omega
            clear hA hB
            go_enter Tryd.func40, Tryd.ntmps40
            go_wp2
            go_ret
            exact ⟨ret_bool (by rw [Hq.out, HA.out, HB.out]; simp), rfl⟩
          · clear hA hB
            go_enter Tryd.func40, Tryd.ntmps40
            go_wp2
            go_ret
            exact ⟨ret_bool (by rw [Hq.out, HA.out, HB.out]; simp), rfl⟩
theorem rletter (c : UInt8) (w : World) : Calls Tryd.prog 62 #[.int .u8 (c.toNat : Int)] w fun e w' => e = .returned (.bool (ltB c)) ∧ w = w' := by
  have hc := byte_lt c
  have h95 := beq95 c
  obtain ⟨q, hq⟩ : ∃ q, (c == 95) = q := ⟨_, rfl⟩
  rw [hq] at h95
  have Hq := hide (show ltB c = ((decide (65 ≤ c.toNat) && decide (c.toNat ≤ 90)) || (decide (97 ≤ c.toNat) && decide (c.toNat ≤ 122)) || q) by unfold ltB; rw [hq])
  clear hq
  cases q <;> by_cases h1 : 65 ≤ c.toNat <;> by_cases h2 : c.toNat ≤ 90 <;> by_cases h3 : 97 ≤ c.toNat <;> by_cases h4 : c.toNat ≤ 122 <;>
  first
  | (exfalso; omega)
  | (go_enter Tryd.func62, Tryd.ntmps62
     go_wp2
     go_ret
     exact ⟨ret_bool (by rw [Hq.out]; simp [h1, h2, h3, h4] <;> omega), rfl⟩)

/-! ### beginnings -/
theorem run_digit (xs : Array Value) (W : World) : (callFunc 37 xs).run Tryd.prog W = .ok (.enter 37 xs) W := by kernel_rfl
theorem run_word (xs : Array Value) (W : World) : (callFunc 40 xs).run Tryd.prog W = .ok (.enter 40 xs) W := by kernel_rfl
theorem run_content (xs : Array Value) (W : World) : (callFunc 70 xs).run Tryd.prog W = .ok (.enter 70 xs) W := by kernel_rfl
theorem drop_cons {s : ByteArray} {m : Nat} (h : m < s.size) : s.data.toList.drop m = s[m] :: s.data.toList.drop (m + 1) := by
  rw [List.drop_eq_getElem_cons (by simpa using h)]
  rfl
theorem tw_at (p : UInt8 → Bool) (d : List UInt8) (k : Nat) (h : (d.take k).all p = true) (hk : d.drop k = [] ∨ ∃ c x, d.drop k = c :: x ∧ p c = false) : d.takeWhile p = d.take k := by
  have := tw_app (p := p) (d.take k) (d.drop k) h (fun c hc => by
    rcases hk with hk | ⟨c', x, hk, hp⟩
    · rw [hk] at hc; cases hc
    · rw [hk] at hc; injection hc with hc; subst hc; exact hp)
  rwa [List.take_append_drop] at this
theorem take_all {p : UInt8 → Bool} {s : ByteArray} {k : Nat} (h : (s.data.toList.take k).all p = true) (hk : k < s.size) (hp : p s[k] = true) : (s.data.toList.take (k + 1)).all p = true := by
  rw [List.take_succ_eq_append_getElem (by simpa using hk), List.all_append, h]
  simp only [List.all_cons, List.all_nil, Bool.and_true, Bool.true_and]
  exact hp

set_option maxRecDepth 20000 in
set_option maxHeartbeats 1600000 in
theorem pleading (N : Nat) (p : UInt8 → Bool) (s : ByteArray) (w : World) (hs : s.size ≤ 9223372036854775807)
    (hcf : ∀ (xs : Array Value) (W : World), (callFunc N xs).run Tryd.prog W = .ok (.enter N xs) W)
    (hp : ∀ (c : UInt8) (W : World), Calls Tryd.prog N #[.int .u8 (c.toNat : Int)] W fun e w' => e = .returned (.bool (p c)) ∧ W = w') :
    Calls Tryd.prog 39 #[.string s, .func (.func N) #[] #[]] w fun e w' => e = .returned (.string (bs (s.data.toList.takeWhile p))) ∧ w = w' := by
  have Hp := hide hp
  clear hp
  go_enter Tryd.func39, Tryd.ntmps39
  go_wp2
  go_loopw [8] (fun y wr => ∃ k : Nat, k ≤ s.size ∧ y = .int .i64 (k : Int) ∧ (s.data.toList.take k).all p = true ∧ wr = w) (fun y _ => s.size - (intOf y).toNat)
  case atStart => exact ⟨0, Nat.zero_le _, rfl, rfl, rfl⟩
  case round =>
    obtain ⟨k, hk, rfl, hm, rfl⟩ := hrel
    by_cases hlt : k < s.size
    · have HC := hide (Hp.out s[k] wr)
      have hd := drop_cons hlt
      cases hpr : p s[k] with
      | true =>
        have Hn := hide (take_all hm hlt hpr)
        rw [hpr] at HC
        clear hm hpr hd
        go_wp2_with fail
        with_reducible refine HC.out.mono ?_
        rintro e w3 ⟨rfl, rfl⟩
        go_wp2
        go_roundw
        case rel => exact ⟨k + 1, by omega, by go_num, Hn.out, trivial⟩
        case measure => simp [intOf]; omega
      | false =>
        have Hn := hide (tw_at p s.data.toList k hm (Or.inr ⟨_, _, hd, hpr⟩))
        rw [hpr] at HC
        clear hm hpr hd
        go_wp2_with fail
        with_reducible refine HC.out.mono ?_
        rintro e w3 ⟨rfl, rfl⟩
        go_wp2
        go_ret
        exact ⟨ret_str (by rw [Hn.out, bs_take]), rfl⟩
    · have hk' : k = s.size := by omega
      have Hn := hide (show s.data.toList.takeWhile p = s.data.toList by
        rw [hk', List.take_of_length_le (by simp)] at hm
        have := tw_app (p := p) s.data.toList [] hm (fun c h => by cases h)
        rwa [List.append_nil] at this)
      clear hm
      go_wp2
      go_ret
      exact ⟨ret_str (by rw [Hn.out, bs_self]), rfl⟩
end Go.Proofs.YteokeljmggdecaaDoor
