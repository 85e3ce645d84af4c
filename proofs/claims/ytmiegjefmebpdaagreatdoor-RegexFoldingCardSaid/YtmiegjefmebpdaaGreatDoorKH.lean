/- Walks of layer 8's reference: number. -/
import Derived.Test.YtmiegjefmebpdaaGreatDoorKG
namespace Go.Proofs.YtmiegjefmebpdaaGreatDoor
open Go.RowKit

theorem tw_lt (p : UInt8 → Bool) : ∀ (l : List UInt8) (j : Nat), j ≤ (l.takeWhile p).length → (j < (l.takeWhile p).length ↔ ∃ c, l[j]? = some c ∧ p c = true)
  | [], j, h => by simp
  | a :: l, j, h => by
    cases hp : p a with
    | false =>
      rw [List.takeWhile_cons, hp] at h ⊢
      simp only [Bool.false_eq_true, if_false, List.length_nil, Nat.le_zero] at h
      subst h
      simp [hp]
    | true =>
      rw [List.takeWhile_cons, hp] at h ⊢
      simp only [if_true, List.length_cons] at h ⊢
      cases j with
      | zero => simp [hp]
      | succ j =>
        have := tw_lt p l j (by omega)
        simp only [List.getElem?_cons_succ]
        exact Nat.succ_lt_succ_iff.trans this
theorem dig_le (l : List UInt8) : digN l ≤ 4 := by
  unfold digN
  have h1 : ∀ m : List UInt8, (m.takeWhile isDig).length ≤ m.length := by
    intro m
    induction m with
    | nil => simp
    | cons a m ih => rw [List.takeWhile_cons]; split <;> simp <;> omega
  have h2 := h1 (l.take 4)
  have h3 := List.length_take_le 4 l
  omega
theorem dig_next {l : List UInt8} {j : Nat} (h : j ≤ digN l) : j < digN l ↔ j < 4 ∧ ∃ c, l[j]? = some c ∧ isDig c = true := by
  have h1 := tw_lt isDig (l.take 4) j h
  unfold digN
  rw [h1]
  by_cases h4 : j < 4
  · rw [List.getElem?_take_of_lt h4]; simp [h4]
  · have h0 : (l.take 4)[j]? = none := by rw [List.getElem?_eq_none_iff]; have := List.length_take_le 4 l; omega
    rw [h0]
    simp [h4]
theorem val_take {l : List UInt8} {j : Nat} {c : UInt8} (h : l[j]? = some c) : valN (l.take (j + 1)) = valN (l.take j) * 10 + ((c.toNat : Int) - 48) := by
  obtain ⟨h1, e1⟩ := List.getElem?_eq_some_iff.1 h
  unfold valN
  rw [List.take_succ_eq_append_getElem h1, List.foldl_append, e1]
  rfl
def numO (s : ByteArray) (l : List UInt8) : Int × Int := match numberS l with | none => (0, -1) | some (n, r) => (n, (s.size : Int) - r.length)

set_option maxRecDepth 100000 in
set_option maxHeartbeats 6400000 in
theorem number107 (s : ByteArray) (k : Nat) (hk : k ≤ s.size) (hs : s.size ≤ 100000) (w : World) :
    Calls Tryz.prog 107 #[.string s, .int .i64 (k : Int)] w fun e w' => e = .returned (.tuple #[.int .i64 (numO s (s.data.toList.drop k)).1, .int .i64 (numO s (s.data.toList.drop k)).2]) ∧ w = w' := by
  obtain ⟨l, hl⟩ : ∃ l, s.data.toList.drop k = l := ⟨_, rfl⟩
  have hll : l.length + k = s.size := by rw [← hl, List.length_drop, size_list s]; omega
  have Hg := hide (show ∀ j (h : k + j < s.size), l[j]? = some s[k + j] from fun j h => by
    rw [← hl, List.getElem?_drop, List.getElem?_eq_getElem (by rw [size_list s]; exact h)]
    rfl)
  rw [hl]
  obtain ⟨⟨R1, R2⟩, hR⟩ : ∃ R, numO s l = R := ⟨_, rfl⟩
  rw [hR]
  dsimp only
  have HR := hide hR
  have Hll := hide hll
  have hd4 := dig_le l
  obtain ⟨D, hD⟩ : ∃ D, digN l = D := ⟨_, rfl⟩
  have HD := hide hD
  rw [hD] at hd4
  clear hR hl hD hll
  go_enter Tryz.func107, Tryz.ntmps107
  go_wp2
  go_loop [6, 7] (fun x y => ∃ (j : Nat) (n : Int), j ≤ D ∧ k + j ≤ s.size ∧ y = .int .i64 ((k + j : Nat) : Int) ∧ x = .int .i64 n ∧ n = valN (l.take j) ∧ 0 ≤ n ∧ n < 10 ^ j) (fun _ y => s.size - (intOf y).toNat)
  case atStart => exact ⟨0, 0, Nat.zero_le _, by omega, rfl, rfl, rfl, by decide, by decide⟩
  case round =>
    obtain ⟨j, n, hj, hjs, rfl, rfl, hn, hn0, hn1⟩ := hrel
    have hdn := dig_next (l := l) (j := j) (by rw [HD.out]; exact hj)
    rw [HD.out] at hdn
    have Hn := hide hn
    by_cases hlt : j < D
    · obtain ⟨hj4, c, hc, hcd⟩ := hdn.1 hlt
      have hlen : k + j < s.size := by
        have := (List.getElem?_eq_some_iff.1 hc).1
        have := Hll.out
        omega
      have hc2 := Hg.out j hlen
      obtain ⟨x, hx⟩ : ∃ x, s[k + j] = x := ⟨_, rfl⟩
      rw [hx] at hc2
      have hcx : c = x := by rw [hc2] at hc; exact (Option.some.inj hc).symm
      subst hcx
      have hv := val_take hc2
      have hdig : 48 ≤ c.toNat ∧ c.toNat ≤ 57 := by
        unfold isDig at hcd
        simp only [Bool.and_eq_true, decide_eq_true_eq, UInt8.le_iff_toNat_le] at hcd
        exact hcd
      have hp : (10 : Int) ^ j ≤ 1000 := by
        have : j = 0 ∨ j = 1 ∨ j = 2 ∨ j = 3 := by omega
        rcases this with rfl | rfl | rfl | rfl <;> decide
      have hnb : n ≤ 1000 := by omega
      have Hv := hide (show n * 10 + ((c.toNat : Int) - 48) = valN (l.take (j + 1)) by rw [hv, Hn.out])
      have Hp := hide (show n * 10 + ((c.toNat : Int) - 48) < 10 ^ (j + 1) by rw [Int.pow_succ]; omega)
      have hcc : c.toNat < 256 := by omega
      clear hdn hn hn1 hv hcd hc hc2 hp
      go_wp2
      go_round
      case rel => exact ⟨j + 1, n * 10 + ((c.toNat : Int) - 48), by omega, by omega, by go_num, by go_num, Hv.out, by omega, Hp.out⟩
      case measure => simp [intOf]; omega
    · have hjD : j = D := by omega
      have hfin : (R1, R2) = if j = 0 ∨ 3 < j ∨ (l.head? = some 48 ∧ 1 < j) then (0, -1) else (n, ((k + j : Nat) : Int)) := by
        have h := HR.out
        unfold numO numberS at h
        rw [HD.out, ← hjD] at h
        rw [← h]
        split
        · rename_i h2
          split at h2
          · rename_i h3
            rw [if_pos h3]
          · cases h2
        · rename_i n' r' h2
          split at h2
          · cases h2
          · rename_i h3
            cases h2
            rw [if_neg h3, hn, List.length_drop]
            have := Hll.out
            congr 1
            omega
      have hjl : j ≤ 4 := by omega
      clear hj hn
      by_cases hend : k + j < s.size
      · by_cases h4 : j < 4
        · have hc := Hg.out j hend
          obtain ⟨x, hx⟩ : ∃ x, s[k + j] = x := ⟨_, rfl⟩
          rw [hx] at hc
          have hnd : ¬ (48 ≤ x.toNat ∧ x.toNat ≤ 57) := fun h => hlt (hdn.2 ⟨h4, x, hc, by unfold isDig; simp only [Bool.and_eq_true, decide_eq_true_eq, UInt8.le_iff_toNat_le]; exact h⟩)
          clear hc
          by_cases hlo : x.toNat < 48
          · clear hnd
            by_cases h0 : j = 0
            · have f0 : (((k + j : Nat) : Int) == (k : Int)) = true := by rw [h0]; simp
              have f0' : ((k : Int) + (j : Int) == (k : Int)) = true := by rw [h0]; simp
              have Hz := hide (show R1 = 0 ∧ R2 = -1 by
                have h := hfin
                rw [if_pos (Or.inl h0)] at h
                exact ⟨congrArg Prod.fst h, congrArg Prod.snd h⟩)
              try clear h0
              try clear h48
              clear hfin hdn hn1 hlt hjD
              go_wp2
              go_ret2
              exact ⟨ret_two Hz.out.1.symm Hz.out.2.symm, rfl⟩
            · have f0 : (((k + j : Nat) : Int) == (k : Int)) = false := by rw [beq_eq_false_iff_ne]; omega
              have f0' : ((k : Int) + (j : Int) == (k : Int)) = false := by rw [beq_eq_false_iff_ne]; omega
              have hks : k < s.size := by omega
              have hh := Hg.out 0 hks
              obtain ⟨y, hy⟩ : ∃ y, s[k] = y := ⟨_, rfl⟩
              have hh2 : l.head? = some y := by rw [List.head?_eq_getElem?, hh]; simp only [Nat.add_zero]; rw [hy]
              clear hh
              have h3 : ¬ 3 < j := by omega
              skip
              have g3 : ¬ (k : Int) + 3 < (k : Int) + (j : Int) := by omega
              by_cases h48 : y = 48
              · have f48 : ((y.toNat : Int) == 48) = true := by rw [h48]; rfl
                by_cases h1 : 1 < j
                · have g1 : (k : Int) + 1 < (k : Int) + (j : Int) := by omega
                  have Hz := hide (show R1 = 0 ∧ R2 = -1 by
                    have h := hfin
                    rw [if_pos (Or.inr (Or.inr ⟨by rw [hh2, h48], h1⟩))] at h
                    exact ⟨congrArg Prod.fst h, congrArg Prod.snd h⟩)
                  try clear h0
                  try clear h48
                  clear hfin hdn hn1 hlt hjD
                  go_wp2
                  go_ret2
                  exact ⟨ret_two Hz.out.1.symm Hz.out.2.symm, rfl⟩
                · have g1 : ¬ (k : Int) + 1 < (k : Int) + (j : Int) := by omega
                  have Hz := hide (show R1 = n ∧ R2 = ((k + j : Nat) : Int) by
                    have h := hfin
                    rw [if_neg (by rintro (h | h | ⟨_, h⟩) <;> omega)] at h
                    exact ⟨congrArg Prod.fst h, congrArg Prod.snd h⟩)
                  try clear h0
                  try clear h48
                  clear hfin hdn hn1 hlt hjD
                  go_wp2
                  go_ret2
                  exact ⟨ret_two Hz.out.1.symm Hz.out.2.symm, rfl⟩
              · have f48 : ((y.toNat : Int) == 48) = false := (u8_eq (n := 48) (z := 48) rfl).trans (decide_eq_false h48)
                have Hz := hide (show R1 = n ∧ R2 = ((k + j : Nat) : Int) by
                  have h := hfin
                  rw [if_neg (fun h => h.elim h0 (fun h => h.elim h3 (fun h => h48 (Option.some.inj (hh2.symm.trans h.1)))))] at h
                  exact ⟨congrArg Prod.fst h, congrArg Prod.snd h⟩)
                try clear h0
                try clear h48
                clear hfin hdn hn1 hlt hjD
                go_wp2
                go_ret2
                exact ⟨ret_two Hz.out.1.symm Hz.out.2.symm, rfl⟩
          · have hhi : 57 < x.toNat := by omega
            clear hnd
            by_cases h0 : j = 0
            · have f0 : (((k + j : Nat) : Int) == (k : Int)) = true := by rw [h0]; simp
              have f0' : ((k : Int) + (j : Int) == (k : Int)) = true := by rw [h0]; simp
              have Hz := hide (show R1 = 0 ∧ R2 = -1 by
                have h := hfin
                rw [if_pos (Or.inl h0)] at h
                exact ⟨congrArg Prod.fst h, congrArg Prod.snd h⟩)
              try clear h0
              try clear h48
              clear hfin hdn hn1 hlt hjD
              go_wp2
              go_ret2
              exact ⟨ret_two Hz.out.1.symm Hz.out.2.symm, rfl⟩
            · have f0 : (((k + j : Nat) : Int) == (k : Int)) = false := by rw [beq_eq_false_iff_ne]; omega
              have f0' : ((k : Int) + (j : Int) == (k : Int)) = false := by rw [beq_eq_false_iff_ne]; omega
              have hks : k < s.size := by omega
              have hh := Hg.out 0 hks
              obtain ⟨y, hy⟩ : ∃ y, s[k] = y := ⟨_, rfl⟩
              have hh2 : l.head? = some y := by rw [List.head?_eq_getElem?, hh]; simp only [Nat.add_zero]; rw [hy]
              clear hh
              have h3 : ¬ 3 < j := by omega
              skip
              have g3 : ¬ (k : Int) + 3 < (k : Int) + (j : Int) := by omega
              by_cases h48 : y = 48
              · have f48 : ((y.toNat : Int) == 48) = true := by rw [h48]; rfl
                by_cases h1 : 1 < j
                · have g1 : (k : Int) + 1 < (k : Int) + (j : Int) := by omega
                  have Hz := hide (show R1 = 0 ∧ R2 = -1 by
                    have h := hfin
                    rw [if_pos (Or.inr (Or.inr ⟨by rw [hh2, h48], h1⟩))] at h
                    exact ⟨congrArg Prod.fst h, congrArg Prod.snd h⟩)
                  try clear h0
                  try clear h48
                  clear hfin hdn hn1 hlt hjD
                  go_wp2
                  go_ret2
                  exact ⟨ret_two Hz.out.1.symm Hz.out.2.symm, rfl⟩
                · have g1 : ¬ (k : Int) + 1 < (k : Int) + (j : Int) := by omega
                  have Hz := hide (show R1 = n ∧ R2 = ((k + j : Nat) : Int) by
                    have h := hfin
                    rw [if_neg (by rintro (h | h | ⟨_, h⟩) <;> omega)] at h
                    exact ⟨congrArg Prod.fst h, congrArg Prod.snd h⟩)
                  try clear h0
                  try clear h48
                  clear hfin hdn hn1 hlt hjD
                  go_wp2
                  go_ret2
                  exact ⟨ret_two Hz.out.1.symm Hz.out.2.symm, rfl⟩
              · have f48 : ((y.toNat : Int) == 48) = false := (u8_eq (n := 48) (z := 48) rfl).trans (decide_eq_false h48)
                have Hz := hide (show R1 = n ∧ R2 = ((k + j : Nat) : Int) by
                  have h := hfin
                  rw [if_neg (fun h => h.elim h0 (fun h => h.elim h3 (fun h => h48 (Option.some.inj (hh2.symm.trans h.1)))))] at h
                  exact ⟨congrArg Prod.fst h, congrArg Prod.snd h⟩)
                try clear h0
                try clear h48
                clear hfin hdn hn1 hlt hjD
                go_wp2
                go_ret2
                exact ⟨ret_two Hz.out.1.symm Hz.out.2.symm, rfl⟩
        · have g4 : ¬ (k : Int) + (j : Int) < (k : Int) + 4 := by omega
          by_cases h0 : j = 0
          · have f0 : (((k + j : Nat) : Int) == (k : Int)) = true := by rw [h0]; simp
            have f0' : ((k : Int) + (j : Int) == (k : Int)) = true := by rw [h0]; simp
            have Hz := hide (show R1 = 0 ∧ R2 = -1 by
              have h := hfin
              rw [if_pos (Or.inl h0)] at h
              exact ⟨congrArg Prod.fst h, congrArg Prod.snd h⟩)
            try clear h0
            try clear h48
            clear hfin hdn hn1 hlt hjD
            go_wp2
            go_ret2
            exact ⟨ret_two Hz.out.1.symm Hz.out.2.symm, rfl⟩
          · have f0 : (((k + j : Nat) : Int) == (k : Int)) = false := by rw [beq_eq_false_iff_ne]; omega
            have f0' : ((k : Int) + (j : Int) == (k : Int)) = false := by rw [beq_eq_false_iff_ne]; omega
            have hks : k < s.size := by omega
            have hh := Hg.out 0 hks
            obtain ⟨y, hy⟩ : ∃ y, s[k] = y := ⟨_, rfl⟩
            have hh2 : l.head? = some y := by rw [List.head?_eq_getElem?, hh]; simp only [Nat.add_zero]; rw [hy]
            clear hh
            have h3 : 3 < j := by omega
            have g3 : (k : Int) + 3 < (k : Int) + (j : Int) := by omega
            have Hz := hide (show R1 = 0 ∧ R2 = -1 by
              have h := hfin
              rw [if_pos (Or.inr (Or.inl h3))] at h
              exact ⟨congrArg Prod.fst h, congrArg Prod.snd h⟩)
            try clear h0
            try clear h48
            clear hfin hdn hn1 hlt hjD
            go_wp2
            go_ret2
            exact ⟨ret_two Hz.out.1.symm Hz.out.2.symm, rfl⟩
      · have hend' : ¬ ((k : Int) + (j : Int) < (s.size : Int)) := by omega
        by_cases h0 : j = 0
        · have f0 : (((k + j : Nat) : Int) == (k : Int)) = true := by rw [h0]; simp
          have f0' : ((k : Int) + (j : Int) == (k : Int)) = true := by rw [h0]; simp
          have Hz := hide (show R1 = 0 ∧ R2 = -1 by
            have h := hfin
            rw [if_pos (Or.inl h0)] at h
            exact ⟨congrArg Prod.fst h, congrArg Prod.snd h⟩)
          try clear h0
          try clear h48
          clear hfin hdn hn1 hlt hjD
          go_wp2
          go_ret2
          exact ⟨ret_two Hz.out.1.symm Hz.out.2.symm, rfl⟩
        · have f0 : (((k + j : Nat) : Int) == (k : Int)) = false := by rw [beq_eq_false_iff_ne]; omega
          have f0' : ((k : Int) + (j : Int) == (k : Int)) = false := by rw [beq_eq_false_iff_ne]; omega
          have hks : k < s.size := by omega
          have hh := Hg.out 0 hks
          obtain ⟨y, hy⟩ : ∃ y, s[k] = y := ⟨_, rfl⟩
          have hh2 : l.head? = some y := by rw [List.head?_eq_getElem?, hh]; simp only [Nat.add_zero]; rw [hy]
          clear hh
          by_cases h3 : 3 < j
          · have g3 : (k : Int) + 3 < (k : Int) + (j : Int) := by omega
            have Hz := hide (show R1 = 0 ∧ R2 = -1 by
              have h := hfin
              rw [if_pos (Or.inr (Or.inl h3))] at h
              exact ⟨congrArg Prod.fst h, congrArg Prod.snd h⟩)
            try clear h0
            try clear h48
            clear hfin hdn hn1 hlt hjD
            go_wp2
            go_ret2
            exact ⟨ret_two Hz.out.1.symm Hz.out.2.symm, rfl⟩
          · have g3 : ¬ (k : Int) + 3 < (k : Int) + (j : Int) := by omega
            by_cases h48 : y = 48
            · have f48 : ((y.toNat : Int) == 48) = true := by rw [h48]; rfl
              by_cases h1 : 1 < j
              · have g1 : (k : Int) + 1 < (k : Int) + (j : Int) := by omega
                have Hz := hide (show R1 = 0 ∧ R2 = -1 by
                  have h := hfin
                  rw [if_pos (Or.inr (Or.inr ⟨by rw [hh2, h48], h1⟩))] at h
                  exact ⟨congrArg Prod.fst h, congrArg Prod.snd h⟩)
                try clear h0
                try clear h48
                clear hfin hdn hn1 hlt hjD
                go_wp2
                go_ret2
                exact ⟨ret_two Hz.out.1.symm Hz.out.2.symm, rfl⟩
              · have g1 : ¬ (k : Int) + 1 < (k : Int) + (j : Int) := by omega
                have Hz := hide (show R1 = n ∧ R2 = ((k + j : Nat) : Int) by
                  have h := hfin
                  rw [if_neg (by rintro (h | h | ⟨_, h⟩) <;> omega)] at h
                  exact ⟨congrArg Prod.fst h, congrArg Prod.snd h⟩)
                try clear h0
                try clear h48
                clear hfin hdn hn1 hlt hjD
                go_wp2
                go_ret2
                exact ⟨ret_two Hz.out.1.symm Hz.out.2.symm, rfl⟩
            · have f48 : ((y.toNat : Int) == 48) = false := (u8_eq (n := 48) (z := 48) rfl).trans (decide_eq_false h48)
              have Hz := hide (show R1 = n ∧ R2 = ((k + j : Nat) : Int) by
                have h := hfin
                rw [if_neg (fun h => h.elim h0 (fun h => h.elim h3 (fun h => h48 (Option.some.inj (hh2.symm.trans h.1)))))] at h
                exact ⟨congrArg Prod.fst h, congrArg Prod.snd h⟩)
              try clear h0
              try clear h48
              clear hfin hdn hn1 hlt hjD
              go_wp2
              go_ret2
              exact ⟨ret_two Hz.out.1.symm Hz.out.2.symm, rfl⟩

end Go.Proofs.YtmiegjefmebpdaaGreatDoor
