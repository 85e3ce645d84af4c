/- Layer 8, the program: N1, N2, N3, N4. -/
import Derived.Test.YtmiegjefmebpdaaGreatDoorK3
import Derived.BigQuiet
import Derived.Test.YtmiegjefmebpdaaGreatDoorK5
namespace Go.Proofs.YtmiegjefmebpdaaGreatDoor
open Go.RowKit

/-! ### N1 -/

theorem any_take {α : Type} {l : List α} {k : Nat} {r : α} (p : α → Bool) (h : l[k]? = some r) : (l.take (k + 1)).any p = ((l.take k).any p || p r) := by
  obtain ⟨h1, e⟩ := List.getElem?_eq_some_iff.1 h
  rw [List.take_succ_eq_append_getElem h1, List.any_append, e]
  simp
theorem any_at {α : Type} {l : List α} {k : Nat} {r : α} (p : α → Bool) (h : l[k]? = some r) (hp : p r = true) : l.any p = true := List.any_eq_true.2 ⟨r, List.mem_of_getElem? h, hp⟩
theorem run44 (xs : Array Value) (W : World) : (callFunc 44 xs).run Tryz.prog W = .ok (.enter 44 xs) W := by kernel_rfl
theorem run87 (xs : Array Value) (W : World) : (callFunc 87 xs).run Tryz.prog W = .ok (.enter 87 xs) W := by kernel_rfl

set_option maxRecDepth 20000 in
set_option maxHeartbeats 1600000 in
theorem indexf63 (N : Nat) (caps : Array Value) (p : UInt8 × UInt8 → Bool) {W : World} {ok : Nat → Prop} {A : Option Addr} {n c : Nat} {set : List (UInt8 × UInt8)} (h : RgS W ok A n c set)
    (hcf : ∀ (xs : Array Value) (W : World), (callFunc N xs).run Tryz.prog W = .ok (.enter N xs) W)
    (hp : ∀ (W' : World) (r : UInt8 × UInt8), Below W.heap.size W W' → Calls Tryz.prog N (#[.agg #[.int .u8 (r.1.toNat : Int), .int .u8 (r.2.toNat : Int)]] ++ caps) W' fun e w' => e = .returned (.bool (p r)) ∧ Below W'.heap.size W' w')
    (q : Bool) (hq : set.any p = q) :
    Calls Tryz.prog 63 #[.slice A n c, .func (.func N) #[] caps] W fun e w' => ∃ z : Int, e = .returned (.int .i64 z) ∧ decide (0 ≤ z) = q ∧ Below W.heap.size W w' := by
  have hnc := h.1
  have hcc := h.2.1
  have Hlen := hide h.2.2.1
  have H := hide h
  have Hp := hide hp
  have Hq := hide hq
  clear h hq hp
  go_enter Tryz.func63, Tryz.ntmps63
  go_wp2
  go_loopw [8] (fun y wr => ∃ k : Nat, k ≤ n ∧ y = .int .i64 (k : Int) ∧ (set.take k).any p = false ∧ Below W.heap.size W wr) (fun y _ => n - (intOf y).toNat)
  case atStart => exact ⟨0, Nat.zero_le _, rfl, rfl, Below.refl _ _⟩
  case round =>
    obtain ⟨k, hk, rfl, hm, hb⟩ := hrel
    obtain ⟨w2, hw2⟩ : ∃ w2, w2 = wr := ⟨wr, rfl⟩
    subst hw2
    have B := hide hb
    by_cases hlt : k < n
    · obtain ⟨g, o, r, rfl, hr, c0, c1⟩ := (H.out.below hb).at_ hlt
      have ht := any_take p hr
      rw [hm, Bool.false_or] at ht
      have HC := hide (Hp.out w2 r hb)
      cases hpr : p r with
      | true =>
        have Hy := hide (show true = q by rw [← Hq.out, any_at p hr hpr])
        rw [hpr] at HC
        clear hm ht hr hpr hb
        go_wp2_with fail
        with_reducible refine HC.out.mono ?_
        rintro e w3 ⟨rfl, hb3⟩
        have B3 := hide (bgo B.out hb3)
        clear hb3
        go_wp2
        go_ret
        exact ⟨_, rfl, by rw [← Hy.out]; exact decide_eq_true (by omega), B3.out⟩
      | false =>
        have Hn := hide (show (set.take (k + 1)).any p = false by rw [ht, hpr])
        rw [hpr] at HC
        clear hm ht hr hpr hb
        go_wp2_with fail
        with_reducible refine HC.out.mono ?_
        rintro e w3 ⟨rfl, hb3⟩
        have B3 := hide (bgo B.out hb3)
        clear hb3
        go_wp2
        go_roundw
        case rel => exact ⟨k + 1, by omega, by go_num, Hn.out, B3.out⟩
        case measure => simp [intOf]; omega
    · rw [List.take_of_length_le (by rw [Hlen.out]; omega)] at hm
      have Hn := hide (show false = q by rw [← Hq.out]; exact hm.symm)
      clear hm hb
      go_wp2
      go_ret
      exact ⟨_, rfl, by rw [← Hn.out]; rfl, B.out⟩

set_option maxRecDepth 20000 in
theorem containsf43 (N : Nat) (caps : Array Value) (p : UInt8 × UInt8 → Bool) {W : World} {ok : Nat → Prop} {A : Option Addr} {n c : Nat} {set : List (UInt8 × UInt8)} (h : RgS W ok A n c set)
    (hcf : ∀ (xs : Array Value) (W : World), (callFunc N xs).run Tryz.prog W = .ok (.enter N xs) W)
    (hp : ∀ (W' : World) (r : UInt8 × UInt8), Below W.heap.size W W' → Calls Tryz.prog N (#[.agg #[.int .u8 (r.1.toNat : Int), .int .u8 (r.2.toNat : Int)]] ++ caps) W' fun e w' => e = .returned (.bool (p r)) ∧ Below W'.heap.size W' w')
    (q : Bool) (hq : set.any p = q) :
    Calls Tryz.prog 43 #[.slice A n c, .func (.func N) #[] caps] W fun e w' => e = .returned (.bool q) ∧ Below W.heap.size W w' := by
  have HC := hide (indexf63 N caps p h hcf hp q hq)
  clear h hq hp
  go_enter Tryz.func43, Tryz.ntmps43
  go_wp2_with fail
  with_reducible refine HC.out.mono ?_
  rintro e w2 ⟨z, rfl, hz, hb⟩
  have Hz := hide hz
  have B := hide hb
  clear hz hb
  go_wp2
  go_ret
  exact ⟨ret_bool Hz.out, B.out⟩

set_option maxRecDepth 20000 in
theorem rev87 (r : UInt8 × UInt8) (W : World) : Calls Tryz.prog 87 #[.agg #[.int .u8 (r.1.toNat : Int), .int .u8 (r.2.toNat : Int)]] W fun e w' => e = .returned (.bool (decide (r.2 < r.1))) ∧ Below W.heap.size W w' := by
  have BB := hide (bnew (Below.refl _ W) (.cells #[.int .u8 (r.1.toNat : Int), .int .u8 (r.2.toNat : Int)] 48))
  have t := two_alloc W (.int .u8 (r.1.toNat : Int)) (.int .u8 (r.2.toNat : Int)) 48
  obtain ⟨_, t0, t1⟩ := t
  go_enter Tryz.func87, Tryz.ntmps87
  go_wp2
  go_ret
  exact ⟨ret_bool (by first | rfl | (rw [UInt8.lt_iff_toNat_lt]) | (simp [UInt8.lt_iff_toNat_lt])), BB.out⟩

set_option maxRecDepth 20000 in
theorem in44 (r : UInt8 × UInt8) (x : UInt8) (b : Nat) (W : World) (hx : W.cell? ⟨b, 0, none⟩ = some (.int .u8 (x.toNat : Int))) :
    Calls Tryz.prog 44 #[.agg #[.int .u8 (r.1.toNat : Int), .int .u8 (r.2.toNat : Int)], .pointer (some ⟨b, 0, none⟩)] W fun e w' => e = .returned (.bool (decide (r.1 ≤ x) && decide (x ≤ r.2))) ∧ Below W.heap.size W w' := by
  have BB := hide (bnew (Below.refl _ W) (.cells #[.int .u8 (r.1.toNat : Int), .int .u8 (r.2.toNat : Int)] 48))
  have hlt : b < W.heap.size := World.block_lt_of_cell? _ _ hx
  have hx' := ((bnew (Below.refl _ W) (.cells #[.int .u8 (r.1.toNat : Int), .int .u8 (r.2.toNat : Int)] 48)).cell (p := ⟨b, 0, none⟩) hlt).trans hx
  have t := two_alloc W (.int .u8 (r.1.toNat : Int)) (.int .u8 (r.2.toNat : Int)) 48
  obtain ⟨_, t0, t1⟩ := t
  by_cases h1 : r.1 ≤ x
  · have l1 : (r.1.toNat : Int) ≤ (x.toNat : Int) := by have := UInt8.le_iff_toNat_le.1 h1; omega
    by_cases h2 : x ≤ r.2
    · have l2 : (x.toNat : Int) ≤ (r.2.toNat : Int) := by have := UInt8.le_iff_toNat_le.1 h2; omega
      have Hn := hide (show true = (decide (r.1 ≤ x) && decide (x ≤ r.2)) by simp [h1, h2])
      clear h1 h2 hx
      go_enter Tryz.func44, Tryz.ntmps44
      go_wp2
      go_ret
      exact ⟨ret_bool Hn.out, BB.out⟩
    · have l2 : ¬ (x.toNat : Int) ≤ (r.2.toNat : Int) := by rw [UInt8.le_iff_toNat_le] at h2; omega
      have Hn := hide (show false = (decide (r.1 ≤ x) && decide (x ≤ r.2)) by simp [h2])
      clear h1 h2 hx
      go_enter Tryz.func44, Tryz.ntmps44
      go_wp2
      go_ret
      exact ⟨ret_bool Hn.out, BB.out⟩
  · have l1 : ¬ (r.1.toNat : Int) ≤ (x.toNat : Int) := by rw [UInt8.le_iff_toNat_le] at h1; omega
    have Hn := hide (show false = (decide (r.1 ≤ x) && decide (x ≤ r.2)) by simp [h1])
    clear h1 hx
    go_enter Tryz.func44, Tryz.ntmps44
    go_wp2
    go_ret
    exact ⟨ret_bool Hn.out, BB.out⟩

set_option maxRecDepth 20000 in
theorem phas20 {W : World} {ok : Nat → Prop} {A : Option Addr} {n c : Nat} {set : List (UInt8 × UInt8)} (h : RgS W ok A n c set) (x : UInt8) (q : Bool) (hq : hasS set x = q) :
    Calls Tryz.prog 20 #[.slice A n c, .int .u8 (x.toNat : Int)] W fun e w' => e = .returned (.bool q) ∧ Below W.heap.size W w' := by
  have hb := bnew (Below.refl _ W) (.cells #[.int .u8 (x.toNat : Int)] 5)
  have hn := cell_of_one (heap_alloc_new W (.cells #[.int .u8 (x.toNat : Int)] 5))
  have BB := hide hb
  have HC := hide (containsf43 44 #[.pointer (some ⟨W.heap.size, 0, none⟩)] (fun r => decide (r.1 ≤ x) && decide (x ≤ r.2)) (h.below hb) run44
    (fun W' r hb' => in44 r x W.heap.size W' ((hb'.cell (p := ⟨W.heap.size, 0, none⟩) (by simp)).trans hn)) q hq)
  clear h hq hb hn
  go_enter Tryz.func20, Tryz.ntmps20
  go_wp2_with fail
  with_reducible refine HC.out.mono ?_
  rintro e w2 ⟨rfl, hb2⟩
  have B2 := hide (bgo BB.out hb2)
  clear hb2
  go_wp2
  go_ret
  exact ⟨rfl, B2.out⟩

theorem set_ok (set : List (UInt8 × UInt8)) : set.any (fun r => decide (r.2 < r.1)) = !set.all fun r => decide (r.1 ≤ r.2) := by
  induction set with
  | nil => rfl
  | cons r l ih =>
    rw [List.any_cons, List.all_cons, ih, Bool.not_and]
    congr 1
    rw [Bool.eq_iff_iff]
    simp [UInt8.lt_iff_toNat_lt, UInt8.le_iff_toNat_le]

set_option maxRecDepth 20000 in
theorem rightset70 {W : World} {ok : Nat → Prop} {A : Option Addr} {n c : Nat} {set : List (UInt8 × UInt8)} (h : RgS W ok A n c set) (q : Bool) (hq : (decide (0 < n) && set.all fun r => decide (r.1 ≤ r.2)) = q) :
    Calls Tryz.prog 70 #[.slice A n c] W fun e w' => e = .returned (.bool q) ∧ Below W.heap.size W w' := by
  have HC := hide (containsf43 87 #[] (fun r => decide (r.2 < r.1)) h run87 (fun W' r _ => rev87 r W') _ (set_ok set))
  have hnc := h.1
  have hcc := h.2.1
  clear h
  by_cases hn : 0 < n
  · have hn' : (0 : Int) < (n : Int) := by omega
    rw [decide_eq_true hn, Bool.true_and] at hq
    rw [hq] at HC
    clear hq
    go_enter Tryz.func70, Tryz.ntmps70
    go_wp2_with fail
    with_reducible refine HC.out.mono ?_
    rintro e w2 ⟨rfl, hb2⟩
    have B2 := hide hb2
    clear hb2
    go_wp2
    go_ret
    exact ⟨rfl, B2.out⟩
  · have hn' : ¬ (0 : Int) < (n : Int) := by omega
    rw [decide_eq_false hn, Bool.false_and] at hq
    have Hq := hide hq
    clear hq
    go_enter Tryz.func70, Tryz.ntmps70
    go_wp2_with fail
    go_ret
    exact ⟨ret_bool Hq.out, Below.refl _ _⟩

/-- The other case of a letter. -/
def other (c : UInt8) : UInt8 := if 97 ≤ c.toNat ∧ c.toNat ≤ 122 then UInt8.ofNat (c.toNat - 32) else if 65 ≤ c.toNat ∧ c.toNat ≤ 90 then UInt8.ofNat (c.toNat + 32) else c
theorem other_nat (c : UInt8) : (other c).toNat = if 97 ≤ c.toNat ∧ c.toNat ≤ 122 then c.toNat - 32 else if 65 ≤ c.toNat ∧ c.toNat ≤ 90 then c.toNat + 32 else c.toNat := by
  have := c.toNat_lt
  unfold other
  split
  · simp; omega
  · split
    · simp; omega
    · rfl

set_option maxRecDepth 20000 in
theorem other49 (c : UInt8) (W : World) : Calls Tryz.prog 49 #[.int .u8 (c.toNat : Int)] W fun e w' => e = .returned (.int .u8 ((other c).toNat : Int)) ∧ W = w' := by
  have hc := c.toNat_lt
  have ho := other_nat c
  obtain ⟨x, hx⟩ : ∃ x, c.toNat = x := ⟨_, rfl⟩
  rw [hx] at hc ho ⊢
  clear hx
  have Ho := hide ho
  clear ho
  by_cases h1 : 97 ≤ x
  · have l1 : (97 : Int) ≤ (x : Int) := by omega
    by_cases h2 : x ≤ 122
    · have l2 : (x : Int) ≤ 122 := by omega
      have Hn := hide (show ((x : Int) - 97 + 65) = ((other c).toNat : Int) by rw [Ho.out, if_pos ⟨h1, h2⟩]; omega)
      go_enter Tryz.func49, Tryz.ntmps49
      go_wp2
      go_ret
      exact ⟨ret_int Hn.out, rfl⟩
    · have l2 : ¬ (x : Int) ≤ 122 := by omega
      have l3 : (65 : Int) ≤ (x : Int) := by omega
      have l4 : ¬ (x : Int) ≤ 90 := by omega
      have Hn := hide (show (x : Int) = ((other c).toNat : Int) by rw [Ho.out, if_neg (by omega), if_neg (by omega)])
      go_enter Tryz.func49, Tryz.ntmps49
      go_wp2
      go_ret
      exact ⟨ret_int Hn.out, rfl⟩
  · have l1 : ¬ (97 : Int) ≤ (x : Int) := by omega
    by_cases h3 : 65 ≤ x
    · have l3 : (65 : Int) ≤ (x : Int) := by omega
      by_cases h4 : x ≤ 90
      · have l4 : (x : Int) ≤ 90 := by omega
        have Hn := hide (show ((x : Int) - 65 + 97) = ((other c).toNat : Int) by rw [Ho.out, if_neg (by omega), if_pos ⟨h3, h4⟩]; omega)
        go_enter Tryz.func49, Tryz.ntmps49
        go_wp2
        go_ret
        exact ⟨ret_int Hn.out, rfl⟩
      · have l4 : ¬ (x : Int) ≤ 90 := by omega
        have Hn := hide (show (x : Int) = ((other c).toNat : Int) by rw [Ho.out, if_neg (by omega), if_neg (by omega)])
        go_enter Tryz.func49, Tryz.ntmps49
        go_wp2
        go_ret
        exact ⟨ret_int Hn.out, rfl⟩
    · have l3 : ¬ (65 : Int) ≤ (x : Int) := by omega
      have Hn := hide (show (x : Int) = ((other c).toNat : Int) by rw [Ho.out, if_neg (by omega), if_neg (by omega)])
      go_enter Tryz.func49, Tryz.ntmps49
      go_wp2
      go_ret
      exact ⟨ret_int Hn.out, rfl⟩

set_option maxRecDepth 20000 in
theorem bounds52 (a b : Int) (ha : -9223372036854775808 ≤ a ∧ a ≤ 9223372036854775807) (hb : -9223372036854775808 ≤ b ∧ b ≤ 9223372036854775807) (W : World) (q : Bool) (hq : boundsR a b = q) :
    Calls Tryz.prog 52 #[.int .i64 a, .int .i64 b] W fun e w' => e = .returned (.bool q) ∧ W = w' := by
  unfold boundsR at hq
  by_cases h1 : a < 0
  · have Hn := hide (show false = q by rw [← hq]; exact (decide_eq_false (by omega)).symm)
    clear hq
    go_enter Tryz.func52, Tryz.ntmps52
    go_wp2
    go_ret
    exact ⟨ret_bool Hn.out, rfl⟩
  · by_cases h2 : 8 < a
    · have Hn := hide (show false = q by rw [← hq]; exact (decide_eq_false (by omega)).symm)
      clear hq
      go_enter Tryz.func52, Tryz.ntmps52
      go_wp2
      go_ret
      exact ⟨ret_bool Hn.out, rfl⟩
    · by_cases h3 : b = -1
      · have e3 : (b == -1) = true := beq_iff_eq.2 h3
        have Hn := hide (show true = q by rw [← hq]; exact (decide_eq_true (by omega)).symm)
        clear hq h3
        go_enter Tryz.func52, Tryz.ntmps52
        go_wp2
        go_ret
        exact ⟨ret_bool Hn.out, rfl⟩
      · have e3 : (b == -1) = false := beq_eq_false_iff_ne.2 h3
        obtain ⟨m, hm⟩ : ∃ m, max a 1 = m := ⟨_, rfl⟩
        by_cases h4 : m ≤ b
        · by_cases h5 : b ≤ 8
          · have Hn := hide (show true = q by rw [← hq]; exact (decide_eq_true (by omega)).symm)
            clear hq h3
            go_enter Tryz.func52, Tryz.ntmps52
            go_wp2
            all_goals
              go_ret
              exact ⟨ret_bool Hn.out, rfl⟩
          · have Hn := hide (show false = q by rw [← hq]; exact (decide_eq_false (by omega)).symm)
            clear hq h3
            go_enter Tryz.func52, Tryz.ntmps52
            go_wp2
            all_goals
              go_ret
              exact ⟨ret_bool Hn.out, rfl⟩
        · have Hn := hide (show false = q by rw [← hq]; exact (decide_eq_false (by omega)).symm)
          clear hq h3
          go_enter Tryz.func52, Tryz.ntmps52
          go_wp2
          all_goals
            go_ret
            exact ⟨ret_bool Hn.out, rfl⟩

/-! ### N2 -/

/-- What a node's fields are asked, of the tests' answers. -/
def fAlt (k1 k2 k3 k4 k5 k6 k7 z0 za zb zm rs m1 m2 : Bool) : Bool :=
  bif k1 then rs && (za && zb) && zm else bif k2 then z0 && (za && zb) else bif k3 then z0 && (za && zb) && m2 else bif k4 then z0 && m1 else bif k5 || k6 || k7 then z0 && (za && zb) && zm else false
theorem fields_alt (k a b : Int) (s : List (UInt8 × UInt8)) (l : List Rx) (n m : Nat) (hn : s.length = n) (hm : l.length = m) :
    fieldsR (.mk k s a b l) = fAlt (k == 1) (k == 2) (k == 3) (k == 4) (k == 5) (k == 6) (k == 7) ((n : Int) == 0) (a == 0) (b == 0) ((m : Int) == 0) (decide (0 < n) && s.all fun r => decide (r.1 ≤ r.2)) ((m : Int) == 1) (decide (2 ≤ (m : Int))) := by
  subst hn hm
  have e0 : ∀ n : Nat, ((n : Int) == 0) = decide (n = 0) := fun n => by rw [Bool.eq_iff_iff]; simp
  have e1 : ∀ n : Nat, ((n : Int) == 1) = decide (n = 1) := fun n => by rw [Bool.eq_iff_iff]; simp; omega
  have e2 : ∀ n : Nat, (decide (2 ≤ (n : Int))) = decide (2 ≤ n) := fun n => by rw [Bool.eq_iff_iff]; simp; omega
  have ab : (decide (a = 0 ∧ b = 0)) = ((a == 0) && (b == 0)) := by rw [Bool.eq_iff_iff]; simp
  have nil : s.length = 0 → (s.all fun r => decide (r.1 ≤ r.2)) = true := fun h => by rw [List.eq_nil_of_length_eq_zero h]; rfl
  simp only [fieldsR, fAlt, e0, e1, e2, ab]
  generalize ((a == 0) && (b == 0)) = nb
  have key : ∀ j : Int, (k == j) = decide (k = j) := fun j => by rw [Bool.eq_iff_iff]; simp
  simp only [key]
  generalize hall : (s.all fun r => decide (r.1 ≤ r.2)) = al at *
  by_cases h1 : k = 1
  · subst h1
    cases al <;> cases nb <;> simp
  · have hr : decide (1 ≤ k ∧ k ≤ 7) = (decide (k = 2) || decide (k = 3) || decide (k = 4) || (decide (k = 5) || decide (k = 6) || decide (k = 7))) := by
      rw [Bool.eq_iff_iff]
      simp
      omega
    rw [hr]
    by_cases hl : s.length = 0
    · rw [nil hl, hl]
      by_cases h2 : k = 2
      · subst h2; cases nb <;> simp
      · by_cases h3 : k = 3
        · subst h3; cases nb <;> simp
        · by_cases h4 : k = 4
          · subst h4; simp
          · have h5 : (decide (k = 5) || decide (k = 6) || decide (k = 7)) = (decide (k = 5) || decide (k = 6) || decide (k = 7)) := rfl
            generalize (decide (k = 5) || decide (k = 6) || decide (k = 7)) = q at *
            cases nb <;> cases q <;> simp [h1, h2, h3, h4]
    · have hp : 0 < s.length := by omega
      generalize (decide (k = 5) || decide (k = 6) || decide (k = 7)) = q at *
      cases q <;> cases nb <;> cases hd2 : decide (k = 2) <;> cases hd3 : decide (k = 3) <;> cases hd4 : decide (k = 4) <;> simp [h1, hl, hp]

set_option maxRecDepth 100000 in
set_option maxHeartbeats 6400000 in
theorem pfields51 {W : World} {ok : Nat → Prop} {v : Value} {r : Rx} (hv : RxV W ok v r) (q : Bool) (hq : fieldsR r = q) : Calls Tryz.prog 51 #[v] W fun e w' => e = .returned (.bool q) ∧ Below W.heap.size W w' := by
  cases hv with
  | mk k a b A B n c m d s vs l hset hvs hlen hk ha hb hr =>
  have hnc := hset.1
  have hcc := hset.2.1
  have hmd := hvs.1
  have hdd := hvs.2.1
  rw [fields_alt k a b s l n m hset.2.2.1 hlen] at hq
  obtain ⟨rs, hrs⟩ : ∃ x, (decide (0 < n) && s.all fun r => decide (r.1 ≤ r.2)) = x := ⟨_, rfl⟩
  rw [hrs] at hq
  have hB := bnew (Below.refl _ W) (.cells #[.int .i64 k, .slice A n c, .int .i64 a, .int .i64 b, .slice B m d] 25)
  obtain ⟨w0, hw0⟩ : ∃ w0, W.alloc (.cells #[.int .i64 k, .slice A n c, .int .i64 a, .int .i64 b, .slice B m d] 25) = w0 := ⟨_, rfl⟩
  have hF := five_new W (.int .i64 k) (.slice A n c) (.int .i64 a) (.int .i64 b) (.slice B m d) 25
  have hS := hset.below hB
  rw [hw0] at hB hF hS
  have BB := hide hB
  have HC := hide (fun j : Nat => rightset70 (W := w0.drewN j) (hS.below (Drawn.below ⟨j, rfl⟩ _)) rs hrs)
  obtain ⟨_, t0, t1, t2, t3, t4⟩ := hF
  obtain ⟨k1, hk1⟩ : ∃ x, (k == 1) = x := ⟨_, rfl⟩
  obtain ⟨k2, hk2⟩ : ∃ x, (k == 2) = x := ⟨_, rfl⟩
  obtain ⟨k3, hk3⟩ : ∃ x, (k == 3) = x := ⟨_, rfl⟩
  obtain ⟨k4, hk4⟩ : ∃ x, (k == 4) = x := ⟨_, rfl⟩
  obtain ⟨k5, hk5⟩ : ∃ x, (k == 5) = x := ⟨_, rfl⟩
  obtain ⟨k6, hk6⟩ : ∃ x, (k == 6) = x := ⟨_, rfl⟩
  obtain ⟨k7, hk7⟩ : ∃ x, (k == 7) = x := ⟨_, rfl⟩
  obtain ⟨z0, hz0⟩ : ∃ x, ((n : Int) == 0) = x := ⟨_, rfl⟩
  obtain ⟨za, hza⟩ : ∃ x, (a == 0) = x := ⟨_, rfl⟩
  obtain ⟨zb, hzb⟩ : ∃ x, (b == 0) = x := ⟨_, rfl⟩
  obtain ⟨zm, hzm⟩ : ∃ x, ((m : Int) == 0) = x := ⟨_, rfl⟩
  obtain ⟨m1, hm1⟩ : ∃ x, ((m : Int) == 1) = x := ⟨_, rfl⟩
  obtain ⟨m2, hm2⟩ : ∃ x, (decide (2 ≤ (m : Int))) = x := ⟨_, rfl⟩
  rw [hk1, hk2, hk3, hk4, hk5, hk6, hk7, hz0, hza, hzb, hzm, hm1, hm2] at hq
  have Hq := hide hq
  clear hq hset hvs hr hrs hB hS hlen
  have hd2 : decide ((2 : Int) ≤ (m : Int)) = m2 := hm2
  cases za with
  | true =>
    cases zb with
    | true =>
      cases k1 with
      | true =>
        cases rs with
        | true =>
          go_enter Tryz.func51, Tryz.ntmps51
          go_wp2
          go_quiet (fail)
          go_wp2_with fail
          with_reducible refine (HC.out _).mono ?_
          rintro e w2 ⟨rfl, hb2⟩
          have B2 := hide (bgo (bgo BB.out (Drawn.below ⟨_, rfl⟩ _)) hb2)
          clear hb2
          go_wp2
          go_ret
          exact ⟨ret_bool Hq.out, B2.out⟩
        | false =>
          go_enter Tryz.func51, Tryz.ntmps51
          go_wp2
          go_quiet (fail)
          go_wp2_with fail
          with_reducible refine (HC.out _).mono ?_
          rintro e w2 ⟨rfl, hb2⟩
          have B2 := hide (bgo (bgo BB.out (Drawn.below ⟨_, rfl⟩ _)) hb2)
          clear hb2
          go_wp2
          go_ret
          exact ⟨ret_bool Hq.out, B2.out⟩
      | false =>
        cases k2 with
        | true =>
          cases z0 with
          | true =>
            go_enter Tryz.func51, Tryz.ntmps51
            go_wp2
            go_quiet (fail)
            go_wp2_with fail
            go_ret
            exact ⟨ret_bool Hq.out, bgo BB.out (Drawn.below ⟨_, rfl⟩ _)⟩
          | false =>
            go_enter Tryz.func51, Tryz.ntmps51
            go_wp2
            go_quiet (fail)
            go_wp2_with fail
            go_ret
            exact ⟨ret_bool Hq.out, bgo BB.out (Drawn.below ⟨_, rfl⟩ _)⟩
        | false =>
          cases k3 with
          | true =>
            cases z0 with
            | true =>
              go_enter Tryz.func51, Tryz.ntmps51
              go_wp2
              go_quiet (fail)
              go_wp2_with fail
              go_ret
              exact ⟨ret_bool Hq.out, bgo BB.out (Drawn.below ⟨_, rfl⟩ _)⟩
            | false =>
              go_enter Tryz.func51, Tryz.ntmps51
              go_wp2
              go_quiet (fail)
              go_wp2_with fail
              go_ret
              exact ⟨ret_bool Hq.out, bgo BB.out (Drawn.below ⟨_, rfl⟩ _)⟩
          | false =>
            cases k4 with
            | true =>
              cases z0 with
              | true =>
                go_enter Tryz.func51, Tryz.ntmps51
                go_wp2
                go_quiet (fail)
                go_wp2_with fail
                go_ret
                exact ⟨ret_bool Hq.out, bgo BB.out (Drawn.below ⟨_, rfl⟩ _)⟩
              | false =>
                go_enter Tryz.func51, Tryz.ntmps51
                go_wp2
                go_quiet (fail)
                go_wp2_with fail
                go_ret
                exact ⟨ret_bool Hq.out, bgo BB.out (Drawn.below ⟨_, rfl⟩ _)⟩
            | false =>
              cases k5 with
              | true =>
                cases z0 with
                | true =>
                  go_enter Tryz.func51, Tryz.ntmps51
                  go_wp2
                  go_quiet (fail)
                  go_wp2_with fail
                  go_ret
                  exact ⟨ret_bool Hq.out, bgo BB.out (Drawn.below ⟨_, rfl⟩ _)⟩
                | false =>
                  go_enter Tryz.func51, Tryz.ntmps51
                  go_wp2
                  go_quiet (fail)
                  go_wp2_with fail
                  go_ret
                  exact ⟨ret_bool Hq.out, bgo BB.out (Drawn.below ⟨_, rfl⟩ _)⟩
              | false =>
                cases k6 with
                | true =>
                  cases z0 with
                  | true =>
                    go_enter Tryz.func51, Tryz.ntmps51
                    go_wp2
                    go_quiet (fail)
                    go_wp2_with fail
                    go_ret
                    exact ⟨ret_bool Hq.out, bgo BB.out (Drawn.below ⟨_, rfl⟩ _)⟩
                  | false =>
                    go_enter Tryz.func51, Tryz.ntmps51
                    go_wp2
                    go_quiet (fail)
                    go_wp2_with fail
                    go_ret
                    exact ⟨ret_bool Hq.out, bgo BB.out (Drawn.below ⟨_, rfl⟩ _)⟩
                | false =>
                  cases k7 with
                  | true =>
                    cases z0 with
                    | true =>
                      go_enter Tryz.func51, Tryz.ntmps51
                      go_wp2
                      go_quiet (fail)
                      go_wp2_with fail
                      go_ret
                      exact ⟨ret_bool Hq.out, bgo BB.out (Drawn.below ⟨_, rfl⟩ _)⟩
                    | false =>
                      go_enter Tryz.func51, Tryz.ntmps51
                      go_wp2
                      go_quiet (fail)
                      go_wp2_with fail
                      go_ret
                      exact ⟨ret_bool Hq.out, bgo BB.out (Drawn.below ⟨_, rfl⟩ _)⟩
                  | false =>
                    go_enter Tryz.func51, Tryz.ntmps51
                    go_wp2
                    go_quiet (fail)
                    go_wp2_with fail
                    go_ret
                    exact ⟨ret_bool Hq.out, bgo BB.out (Drawn.below ⟨_, rfl⟩ _)⟩
    | false =>
      cases k1 with
      | true =>
        cases rs with
        | true =>
          go_enter Tryz.func51, Tryz.ntmps51
          go_wp2
          go_quiet (fail)
          go_wp2_with fail
          with_reducible refine (HC.out _).mono ?_
          rintro e w2 ⟨rfl, hb2⟩
          have B2 := hide (bgo (bgo BB.out (Drawn.below ⟨_, rfl⟩ _)) hb2)
          clear hb2
          go_wp2
          go_ret
          exact ⟨ret_bool Hq.out, B2.out⟩
        | false =>
          go_enter Tryz.func51, Tryz.ntmps51
          go_wp2
          go_quiet (fail)
          go_wp2_with fail
          with_reducible refine (HC.out _).mono ?_
          rintro e w2 ⟨rfl, hb2⟩
          have B2 := hide (bgo (bgo BB.out (Drawn.below ⟨_, rfl⟩ _)) hb2)
          clear hb2
          go_wp2
          go_ret
          exact ⟨ret_bool Hq.out, B2.out⟩
      | false =>
        cases k2 with
        | true =>
          cases z0 with
          | true =>
            go_enter Tryz.func51, Tryz.ntmps51
            go_wp2
            go_quiet (fail)
            go_wp2_with fail
            go_ret
            exact ⟨ret_bool Hq.out, bgo BB.out (Drawn.below ⟨_, rfl⟩ _)⟩
          | false =>
            go_enter Tryz.func51, Tryz.ntmps51
            go_wp2
            go_quiet (fail)
            go_wp2_with fail
            go_ret
            exact ⟨ret_bool Hq.out, bgo BB.out (Drawn.below ⟨_, rfl⟩ _)⟩
        | false =>
          cases k3 with
          | true =>
            cases z0 with
            | true =>
              go_enter Tryz.func51, Tryz.ntmps51
              go_wp2
              go_quiet (fail)
              go_wp2_with fail
              go_ret
              exact ⟨ret_bool Hq.out, bgo BB.out (Drawn.below ⟨_, rfl⟩ _)⟩
            | false =>
              go_enter Tryz.func51, Tryz.ntmps51
              go_wp2
              go_quiet (fail)
              go_wp2_with fail
              go_ret
              exact ⟨ret_bool Hq.out, bgo BB.out (Drawn.below ⟨_, rfl⟩ _)⟩
          | false =>
            cases k4 with
            | true =>
              cases z0 with
              | true =>
                go_enter Tryz.func51, Tryz.ntmps51
                go_wp2
                go_quiet (fail)
                go_wp2_with fail
                go_ret
                exact ⟨ret_bool Hq.out, bgo BB.out (Drawn.below ⟨_, rfl⟩ _)⟩
              | false =>
                go_enter Tryz.func51, Tryz.ntmps51
                go_wp2
                go_quiet (fail)
                go_wp2_with fail
                go_ret
                exact ⟨ret_bool Hq.out, bgo BB.out (Drawn.below ⟨_, rfl⟩ _)⟩
            | false =>
              cases k5 with
              | true =>
                cases z0 with
                | true =>
                  go_enter Tryz.func51, Tryz.ntmps51
                  go_wp2
                  go_quiet (fail)
                  go_wp2_with fail
                  go_ret
                  exact ⟨ret_bool Hq.out, bgo BB.out (Drawn.below ⟨_, rfl⟩ _)⟩
                | false =>
                  go_enter Tryz.func51, Tryz.ntmps51
                  go_wp2
                  go_quiet (fail)
                  go_wp2_with fail
                  go_ret
                  exact ⟨ret_bool Hq.out, bgo BB.out (Drawn.below ⟨_, rfl⟩ _)⟩
              | false =>
                cases k6 with
                | true =>
                  cases z0 with
                  | true =>
                    go_enter Tryz.func51, Tryz.ntmps51
                    go_wp2
                    go_quiet (fail)
                    go_wp2_with fail
                    go_ret
                    exact ⟨ret_bool Hq.out, bgo BB.out (Drawn.below ⟨_, rfl⟩ _)⟩
                  | false =>
                    go_enter Tryz.func51, Tryz.ntmps51
                    go_wp2
                    go_quiet (fail)
                    go_wp2_with fail
                    go_ret
                    exact ⟨ret_bool Hq.out, bgo BB.out (Drawn.below ⟨_, rfl⟩ _)⟩
                | false =>
                  cases k7 with
                  | true =>
                    cases z0 with
                    | true =>
                      go_enter Tryz.func51, Tryz.ntmps51
                      go_wp2
                      go_quiet (fail)
                      go_wp2_with fail
                      go_ret
                      exact ⟨ret_bool Hq.out, bgo BB.out (Drawn.below ⟨_, rfl⟩ _)⟩
                    | false =>
                      go_enter Tryz.func51, Tryz.ntmps51
                      go_wp2
                      go_quiet (fail)
                      go_wp2_with fail
                      go_ret
                      exact ⟨ret_bool Hq.out, bgo BB.out (Drawn.below ⟨_, rfl⟩ _)⟩
                  | false =>
                    go_enter Tryz.func51, Tryz.ntmps51
                    go_wp2
                    go_quiet (fail)
                    go_wp2_with fail
                    go_ret
                    exact ⟨ret_bool Hq.out, bgo BB.out (Drawn.below ⟨_, rfl⟩ _)⟩
  | false =>
    cases zb with
    | true =>
      cases k1 with
      | true =>
        cases rs with
        | true =>
          go_enter Tryz.func51, Tryz.ntmps51
          go_wp2
          go_quiet (fail)
          go_wp2_with fail
          with_reducible refine (HC.out _).mono ?_
          rintro e w2 ⟨rfl, hb2⟩
          have B2 := hide (bgo (bgo BB.out (Drawn.below ⟨_, rfl⟩ _)) hb2)
          clear hb2
          go_wp2
          go_ret
          exact ⟨ret_bool Hq.out, B2.out⟩
        | false =>
          go_enter Tryz.func51, Tryz.ntmps51
          go_wp2
          go_quiet (fail)
          go_wp2_with fail
          with_reducible refine (HC.out _).mono ?_
          rintro e w2 ⟨rfl, hb2⟩
          have B2 := hide (bgo (bgo BB.out (Drawn.below ⟨_, rfl⟩ _)) hb2)
          clear hb2
          go_wp2
          go_ret
          exact ⟨ret_bool Hq.out, B2.out⟩
      | false =>
        cases k2 with
        | true =>
          cases z0 with
          | true =>
            go_enter Tryz.func51, Tryz.ntmps51
            go_wp2
            go_quiet (fail)
            go_wp2_with fail
            go_ret
            exact ⟨ret_bool Hq.out, bgo BB.out (Drawn.below ⟨_, rfl⟩ _)⟩
          | false =>
            go_enter Tryz.func51, Tryz.ntmps51
            go_wp2
            go_quiet (fail)
            go_wp2_with fail
            go_ret
            exact ⟨ret_bool Hq.out, bgo BB.out (Drawn.below ⟨_, rfl⟩ _)⟩
        | false =>
          cases k3 with
          | true =>
            cases z0 with
            | true =>
              go_enter Tryz.func51, Tryz.ntmps51
              go_wp2
              go_quiet (fail)
              go_wp2_with fail
              go_ret
              exact ⟨ret_bool Hq.out, bgo BB.out (Drawn.below ⟨_, rfl⟩ _)⟩
            | false =>
              go_enter Tryz.func51, Tryz.ntmps51
              go_wp2
              go_quiet (fail)
              go_wp2_with fail
              go_ret
              exact ⟨ret_bool Hq.out, bgo BB.out (Drawn.below ⟨_, rfl⟩ _)⟩
          | false =>
            cases k4 with
            | true =>
              cases z0 with
              | true =>
                go_enter Tryz.func51, Tryz.ntmps51
                go_wp2
                go_quiet (fail)
                go_wp2_with fail
                go_ret
                exact ⟨ret_bool Hq.out, bgo BB.out (Drawn.below ⟨_, rfl⟩ _)⟩
              | false =>
                go_enter Tryz.func51, Tryz.ntmps51
                go_wp2
                go_quiet (fail)
                go_wp2_with fail
                go_ret
                exact ⟨ret_bool Hq.out, bgo BB.out (Drawn.below ⟨_, rfl⟩ _)⟩
            | false =>
              cases k5 with
              | true =>
                cases z0 with
                | true =>
                  go_enter Tryz.func51, Tryz.ntmps51
                  go_wp2
                  go_quiet (fail)
                  go_wp2_with fail
                  go_ret
                  exact ⟨ret_bool Hq.out, bgo BB.out (Drawn.below ⟨_, rfl⟩ _)⟩
                | false =>
                  go_enter Tryz.func51, Tryz.ntmps51
                  go_wp2
                  go_quiet (fail)
                  go_wp2_with fail
                  go_ret
                  exact ⟨ret_bool Hq.out, bgo BB.out (Drawn.below ⟨_, rfl⟩ _)⟩
              | false =>
                cases k6 with
                | true =>
                  cases z0 with
                  | true =>
                    go_enter Tryz.func51, Tryz.ntmps51
                    go_wp2
                    go_quiet (fail)
                    go_wp2_with fail
                    go_ret
                    exact ⟨ret_bool Hq.out, bgo BB.out (Drawn.below ⟨_, rfl⟩ _)⟩
                  | false =>
                    go_enter Tryz.func51, Tryz.ntmps51
                    go_wp2
                    go_quiet (fail)
                    go_wp2_with fail
                    go_ret
                    exact ⟨ret_bool Hq.out, bgo BB.out (Drawn.below ⟨_, rfl⟩ _)⟩
                | false =>
                  cases k7 with
                  | true =>
                    cases z0 with
                    | true =>
                      go_enter Tryz.func51, Tryz.ntmps51
                      go_wp2
                      go_quiet (fail)
                      go_wp2_with fail
                      go_ret
                      exact ⟨ret_bool Hq.out, bgo BB.out (Drawn.below ⟨_, rfl⟩ _)⟩
                    | false =>
                      go_enter Tryz.func51, Tryz.ntmps51
                      go_wp2
                      go_quiet (fail)
                      go_wp2_with fail
                      go_ret
                      exact ⟨ret_bool Hq.out, bgo BB.out (Drawn.below ⟨_, rfl⟩ _)⟩
                  | false =>
                    go_enter Tryz.func51, Tryz.ntmps51
                    go_wp2
                    go_quiet (fail)
                    go_wp2_with fail
                    go_ret
                    exact ⟨ret_bool Hq.out, bgo BB.out (Drawn.below ⟨_, rfl⟩ _)⟩
    | false =>
      cases k1 with
      | true =>
        cases rs with
        | true =>
          go_enter Tryz.func51, Tryz.ntmps51
          go_wp2
          go_quiet (fail)
          go_wp2_with fail
          with_reducible refine (HC.out _).mono ?_
          rintro e w2 ⟨rfl, hb2⟩
          have B2 := hide (bgo (bgo BB.out (Drawn.below ⟨_, rfl⟩ _)) hb2)
          clear hb2
          go_wp2
          go_ret
          exact ⟨ret_bool Hq.out, B2.out⟩
        | false =>
          go_enter Tryz.func51, Tryz.ntmps51
          go_wp2
          go_quiet (fail)
          go_wp2_with fail
          with_reducible refine (HC.out _).mono ?_
          rintro e w2 ⟨rfl, hb2⟩
          have B2 := hide (bgo (bgo BB.out (Drawn.below ⟨_, rfl⟩ _)) hb2)
          clear hb2
          go_wp2
          go_ret
          exact ⟨ret_bool Hq.out, B2.out⟩
      | false =>
        cases k2 with
        | true =>
          cases z0 with
          | true =>
            go_enter Tryz.func51, Tryz.ntmps51
            go_wp2
            go_quiet (fail)
            go_wp2_with fail
            go_ret
            exact ⟨ret_bool Hq.out, bgo BB.out (Drawn.below ⟨_, rfl⟩ _)⟩
          | false =>
            go_enter Tryz.func51, Tryz.ntmps51
            go_wp2
            go_quiet (fail)
            go_wp2_with fail
            go_ret
            exact ⟨ret_bool Hq.out, bgo BB.out (Drawn.below ⟨_, rfl⟩ _)⟩
        | false =>
          cases k3 with
          | true =>
            cases z0 with
            | true =>
              go_enter Tryz.func51, Tryz.ntmps51
              go_wp2
              go_quiet (fail)
              go_wp2_with fail
              go_ret
              exact ⟨ret_bool Hq.out, bgo BB.out (Drawn.below ⟨_, rfl⟩ _)⟩
            | false =>
              go_enter Tryz.func51, Tryz.ntmps51
              go_wp2
              go_quiet (fail)
              go_wp2_with fail
              go_ret
              exact ⟨ret_bool Hq.out, bgo BB.out (Drawn.below ⟨_, rfl⟩ _)⟩
          | false =>
            cases k4 with
            | true =>
              cases z0 with
              | true =>
                go_enter Tryz.func51, Tryz.ntmps51
                go_wp2
                go_quiet (fail)
                go_wp2_with fail
                go_ret
                exact ⟨ret_bool Hq.out, bgo BB.out (Drawn.below ⟨_, rfl⟩ _)⟩
              | false =>
                go_enter Tryz.func51, Tryz.ntmps51
                go_wp2
                go_quiet (fail)
                go_wp2_with fail
                go_ret
                exact ⟨ret_bool Hq.out, bgo BB.out (Drawn.below ⟨_, rfl⟩ _)⟩
            | false =>
              cases k5 with
              | true =>
                cases z0 with
                | true =>
                  go_enter Tryz.func51, Tryz.ntmps51
                  go_wp2
                  go_quiet (fail)
                  go_wp2_with fail
                  go_ret
                  exact ⟨ret_bool Hq.out, bgo BB.out (Drawn.below ⟨_, rfl⟩ _)⟩
                | false =>
                  go_enter Tryz.func51, Tryz.ntmps51
                  go_wp2
                  go_quiet (fail)
                  go_wp2_with fail
                  go_ret
                  exact ⟨ret_bool Hq.out, bgo BB.out (Drawn.below ⟨_, rfl⟩ _)⟩
              | false =>
                cases k6 with
                | true =>
                  cases z0 with
                  | true =>
                    go_enter Tryz.func51, Tryz.ntmps51
                    go_wp2
                    go_quiet (fail)
                    go_wp2_with fail
                    go_ret
                    exact ⟨ret_bool Hq.out, bgo BB.out (Drawn.below ⟨_, rfl⟩ _)⟩
                  | false =>
                    go_enter Tryz.func51, Tryz.ntmps51
                    go_wp2
                    go_quiet (fail)
                    go_wp2_with fail
                    go_ret
                    exact ⟨ret_bool Hq.out, bgo BB.out (Drawn.below ⟨_, rfl⟩ _)⟩
                | false =>
                  cases k7 with
                  | true =>
                    cases z0 with
                    | true =>
                      go_enter Tryz.func51, Tryz.ntmps51
                      go_wp2
                      go_quiet (fail)
                      go_wp2_with fail
                      go_ret
                      exact ⟨ret_bool Hq.out, bgo BB.out (Drawn.below ⟨_, rfl⟩ _)⟩
                    | false =>
                      go_enter Tryz.func51, Tryz.ntmps51
                      go_wp2
                      go_quiet (fail)
                      go_wp2_with fail
                      go_ret
                      exact ⟨ret_bool Hq.out, bgo BB.out (Drawn.below ⟨_, rfl⟩ _)⟩
                  | false =>
                    go_enter Tryz.func51, Tryz.ntmps51
                    go_wp2
                    go_quiet (fail)
                    go_wp2_with fail
                    go_ret
                    exact ⟨ret_bool Hq.out, bgo BB.out (Drawn.below ⟨_, rfl⟩ _)⟩

/-! ### N3 -/

theorem ret_pair {p q R S : Int} (h1 : p = R) (h2 : q = S) : Ending.returned (.tuple #[.int .i64 p, .int .i64 q]) = Ending.returned (.tuple #[.int .i64 R, .int .i64 S]) := by rw [h1, h2]
theorem RxV.nine {W : World} {ok : Nat → Prop} {v : Value} {r : Rx} (h : RxV W ok v r) : ∃ (k : Int) (A : Option Addr) (n c : Nat) (a b : Int) (B : Option Addr) (m d : Nat), v = .agg #[.int .i64 k, .slice A n c, .int .i64 a, .int .i64 b, .slice B m d] := by
  cases h
  exact ⟨_, _, _, _, _, _, _, _, _, rfl⟩
/-- The slice at B of m expressions is l. -/
def SubsS (W : World) (ok : Nat → Prop) (B : Option Addr) (m d : Nat) (l : List Rx) : Prop :=
  m ≤ d ∧ d ≤ 9223372036854775807 ∧ l.length = m ∧ ∀ i x, l[i]? = some x → ∃ (g o : Nat) (k : Int) (A : Option Addr) (n c : Nat) (a b : Int) (B' : Option Addr) (m' d' : Nat), B = some ⟨g, o, none⟩ ∧ ok g ∧
    W.cell? ⟨g, o + i * 5, none⟩ = some (.int .i64 k) ∧ W.cell? ⟨g, o + i * 5 + 1, none⟩ = some (.slice A n c) ∧ W.cell? ⟨g, o + i * 5 + 2, none⟩ = some (.int .i64 a) ∧ W.cell? ⟨g, o + i * 5 + 3, none⟩ = some (.int .i64 b) ∧ W.cell? ⟨g, o + i * 5 + 4, none⟩ = some (.slice B' m' d') ∧
    RxV W ok (.agg #[.int .i64 k, .slice A n c, .int .i64 a, .int .i64 b, .slice B' m' d']) x
theorem SubsS.of {W : World} {ok : Nat → Prop} {B : Option Addr} {m d : Nat} {vs : List Value} {l : List Rx} (hvs : VsS W ok B m d vs) (hlen : l.length = m) (hr : ∀ (i : Nat) (v : Value) (x : Rx), vs[i]? = some v → l[i]? = some x → RxV W ok v x) : SubsS W ok B m d l := by
  refine ⟨hvs.1, hvs.2.1, hlen, fun i x hx => ?_⟩
  have hi : i < vs.length := by rw [hvs.2.2.1, ← hlen]; exact (List.getElem?_eq_some_iff.1 hx).1
  have hv := List.getElem?_eq_getElem hi
  obtain ⟨g, o, c0, c1, c2, c3, c4, hB, hg, e, h0, h1, h2, h3, h4⟩ := hvs.2.2.2 i _ hv
  have hx := hr i _ x hv hx
  rw [e] at hx
  obtain ⟨k, A, n, c, a, b, B', m', d', e'⟩ := hx.nine
  simp only [Value.agg.injEq, Array.mk.injEq, List.cons.injEq, and_true] at e'
  obtain ⟨rfl, rfl, rfl, rfl, rfl⟩ := e'
  exact ⟨g, o, k, A, n, c, a, b, B', m', d', hB, hg, h0, h1, h2, h3, h4, hx⟩
theorem SubsS.below {W W' : World} {ok : Nat → Prop} {B : Option Addr} {m d : Nat} {l : List Rx} (h : SubsS W ok B m d l) (hb : Below W.heap.size W W') : SubsS W' ok B m d l := by
  refine ⟨h.1, h.2.1, h.2.2.1, fun i x hx => ?_⟩
  obtain ⟨g, o, k, A, n, c, a, b, B', m', d', hB, hg, h0, h1, h2, h3, h4, hr⟩ := h.2.2.2 i x hx
  have hlt : g < W.heap.size := World.block_lt_of_cell? _ _ h0
  have key : ∀ (j : Nat) (u : Value), W.cell? ⟨g, j, none⟩ = some u → W'.cell? ⟨g, j, none⟩ = some u := fun j u hu => (hb.cell (p := ⟨g, j, none⟩) hlt).trans hu
  exact ⟨g, o, k, A, n, c, a, b, B', m', d', hB, hg, key _ _ h0, key _ _ h1, key _ _ h2, key _ _ h3, key _ _ h4, hr.kept hb⟩
theorem SubsS.at_ {W : World} {ok : Nat → Prop} {B : Option Addr} {m d : Nat} {l : List Rx} (h : SubsS W ok B m d l) {i : Nat} (hi : i < m) :
    ∃ (x : Rx) (g o : Nat) (k : Int) (A : Option Addr) (n c : Nat) (a b : Int) (B' : Option Addr) (m' d' : Nat), l[i]? = some x ∧ B = some ⟨g, o, none⟩ ∧
    W.cell? ⟨g, o + i * 5, none⟩ = some (.int .i64 k) ∧ W.cell? ⟨g, o + i * 5 + 1, none⟩ = some (.slice A n c) ∧ W.cell? ⟨g, o + i * 5 + 2, none⟩ = some (.int .i64 a) ∧ W.cell? ⟨g, o + i * 5 + 3, none⟩ = some (.int .i64 b) ∧ W.cell? ⟨g, o + i * 5 + 4, none⟩ = some (.slice B' m' d') ∧
    RxV W ok (.agg #[.int .i64 k, .slice A n c, .int .i64 a, .int .i64 b, .slice B' m' d']) x := by
  have hl : i < l.length := by rw [h.2.2.1]; exact hi
  have hx := List.getElem?_eq_getElem hl
  obtain ⟨g, o, k, A, n, c, a, b, B', m', d', hB, _, r⟩ := h.2.2.2 i _ hx
  exact ⟨_, g, o, k, A, n, c, a, b, B', m', d', hx, hB, r⟩

set_option maxRecDepth 100000 in
set_option maxHeartbeats 12800000 in
theorem first31 : ∀ (r : Rx) (W : World) (ok : Nat → Prop) (v : Value), RxV W ok v r → Calls Tryz.prog 31 #[v] W fun e w' => e = .returned (.int .i64 (nodeR r)) ∧ Below W.heap.size W w' := by
  intro r
  induction r using Rx.ind with
  | h k s a b l ih =>
    intro W ok v hv
    have hv0 := hv
    cases hv with
    | mk _ _ _ A B n c m d _ vs _ hset hvs hlen hk ha hb hr =>
    have hmd := hvs.1
    have hdd := hvs.2.1
    have hB := bnew (Below.refl _ W) (.cells #[.int .i64 k, .slice A n c, .int .i64 a, .int .i64 b, .slice B m d] 25)
    have BB := hide hB
    have Hs := hide ((SubsS.of hvs hlen hr).below hB)
    have Hlen := hide hlen
    have F := hide (five_new W (.int .i64 k) (.slice A n c) (.int .i64 a) (.int .i64 b) (.slice B m d) 25)
    have V := hide (hv0.kept hB)
    clear hset hvs hr hB hlen hv0
    cases hf : fieldsR (.mk k s a b l) with
    | false =>
      have Hn := hide (node_fields hf)
      have HC := hide (pfields51 V.out false hf)
      obtain ⟨_, t0, t1, t2, t3, t4⟩ := F.out
      clear hf
      go_enter Tryz.func31, Tryz.ntmps31
      go_wp2_with fail
      with_reducible refine HC.out.mono ?_
      rintro e w2 ⟨rfl, hb2⟩
      have B2 := hide (bgo BB.out hb2)
      clear hb2 V F t0 t1 t2 t3 t4
      go_wp2
      go_ret
      exact ⟨ret_int Hn.out.symm, B2.out⟩
    | true =>
      have HC := hide (pfields51 V.out true hf)
      by_cases hk4 : k = 4
      · have e4 : (k == 4) = true := by rw [hk4]; rfl
        cases hbd : boundsR a b with
        | false =>
          have Hn := hide (node_bounds hf hk4 hbd)
          have HD := hide (fun W => bounds52 a b ha hb W false hbd)
          obtain ⟨_, t0, t1, t2, t3, t4⟩ := F.out
          clear hf hk4 hbd ha hb hk
          go_enter Tryz.func31, Tryz.ntmps31
          go_wp2_with fail
          with_reducible refine HC.out.mono ?_
          rintro e w2 ⟨rfl, hb2⟩
          have B2 := hide (bgo BB.out hb2)
          clear t0 t1 t2 t3 t4
          obtain ⟨_, t0, t1, t2, t3, t4⟩ := F.out.keep hb2
          clear hb2 V F
          go_wp2_with fail
          with_reducible refine (HD.out _).mono ?_
          rintro e w5 ⟨rfl, rfl⟩
          go_wp2
          go_ret
          exact ⟨ret_int Hn.out.symm, B2.out⟩
        | true =>
          have Hnode := hide (node_subs hf (by rw [hbd]; simp))
          have HD := hide (fun W => bounds52 a b ha hb W true hbd)
          obtain ⟨_, t0, t1, t2, t3, t4⟩ := F.out
          clear hf hk4 hbd ha hb hk
          go_enter Tryz.func31, Tryz.ntmps31
          go_wp2_with fail
          with_reducible refine HC.out.mono ?_
          rintro e w2 ⟨rfl, hb2⟩
          have B2 := hide (bgo BB.out hb2)
          have Hs2 := hide (Hs.out.below hb2)
          clear t0 t1 t2 t3 t4
          obtain ⟨_, t0, t1, t2, t3, t4⟩ := F.out.keep hb2
          clear hb2 V F
          go_wp2_with fail
          with_reducible refine (HD.out _).mono ?_
          rintro e w5 ⟨rfl, rfl⟩
          go_wp2
          clear t0 t1 t2 t3 t4
          go_loopw [23] (fun x wr => ∃ i : Nat, i ≤ m ∧ x = .int .i64 (i : Int) ∧ (∀ y ∈ l.take i, nodeR y = 0) ∧ Below w2.heap.size w2 wr) (fun x _ => m - (intOf x).toNat)
          case atStart => exact ⟨0, Nat.zero_le _, rfl, fun y hy => (by simp at hy), Below.refl _ _⟩
          case round =>
            obtain ⟨i, hi, rfl, hm, hbel⟩ := hrel
            obtain ⟨w3, hw3⟩ : ∃ w3, w3 = wr := ⟨wr, rfl⟩
            subst hw3
            have Hm := hide hm
            have B3 := hide hbel
            have B4 := hide (bgo B2.out hbel)
            clear hm
            by_cases hlt : i < m
            · have hlt' : (i : Int) < (m : Int) := by omega
              obtain ⟨x, g, o, q0, qA, qn, qc, q1, q2, qB, qm, qd, hxl, rfl, x0, x1, x2, x3, x4, rx⟩ := (Hs2.out.below hbel).at_ hlt
              have hmem : x ∈ l := List.mem_of_getElem? hxl
              have hb5 := bnew (Below.refl _ w3) (.cells #[.int .i64 q0, .slice qA qn qc, .int .i64 q1, .int .i64 q2, .slice qB qm qd] 25)
              have hfv := five_new w3 (.int .i64 q0) (.slice qA qn qc) (.int .i64 q1) (.int .i64 q2) (.slice qB qm qd) 25
              obtain ⟨-, y0, y1, y2, y3, y4⟩ := hfv
              have HR := rx.kept hb5
              have B5 := hide (B3.out.trans (hb5.mono B3.out.size))
              obtain ⟨y, hy⟩ : ∃ y, nodeR x = y := ⟨_, rfl⟩
              have HC := hide (ih x hmem _ ok _ HR)
              rw [hy] at HC
              by_cases hy0 : y = 0
              · have hq : (y != 0) = false := int_eq hy0
                have Hn := hide (show ∀ z ∈ l.take (i + 1), nodeR z = 0 from fun z hz => by
                  rw [rx_take hxl, List.mem_append, List.mem_singleton] at hz
                  rcases hz with hz | rfl
                  · exact Hm.out z hz
                  · rw [hy, hy0])
                clear hxl rx hmem hy hy0 hbel hb5 HR
                go_wp2_with fail
                with_reducible refine HC.out.mono ?_
                rintro e w4 ⟨rfl, hb4⟩
                have B6 := hide (B5.out.trans (hb4.mono B5.out.size))
                clear hb4 y0 y1 y2 y3 y4 x0 x1 x2 x3 x4
                go_wp2
                go_roundw
                case rel => exact ⟨i + 1, by omega, by go_num, Hn.out, B6.out⟩
                case measure => simp [intOf]; omega
              · have hq : (y != 0) = true := int_ne hy0
                have Hn := hide (show nodeR (.mk k s a b l) = y by rw [Hnode.out, ← hy]; exact nodeL_at hxl Hm.out (by rw [hy]; exact hy0))
                clear hxl rx hmem hy hy0 hbel hb5 HR
                go_wp2_with fail
                with_reducible refine HC.out.mono ?_
                rintro e w4 ⟨rfl, hb4⟩
                have B6 := hide (bgo (bgo B2.out B5.out) hb4)
                clear hb4 y0 y1 y2 y3 y4 x0 x1 x2 x3 x4
                go_wp2
                go_ret
                exact ⟨ret_int Hn.out.symm, B6.out⟩
            · have hlt' : ¬ (i : Int) < (m : Int) := by omega
              have hall := Hm.out
              rw [List.take_of_length_le (by rw [Hlen.out]; omega)] at hall
              have Hn := hide (show nodeR (.mk k s a b l) = 0 by rw [Hnode.out]; exact nodeL_all hall)
              clear hall hbel
              go_wp2
              go_ret
              exact ⟨ret_int Hn.out.symm, B4.out⟩
      · have e4 : (k == 4) = false := beq_eq_false_iff_ne.2 hk4
        have Hnode := hide (node_subs hf (fun h => hk4 h.1))
        obtain ⟨_, t0, t1, t2, t3, t4⟩ := F.out
        clear hf hk4 ha hb hk
        go_enter Tryz.func31, Tryz.ntmps31
        go_wp2_with fail
        with_reducible refine HC.out.mono ?_
        rintro e w2 ⟨rfl, hb2⟩
        have B2 := hide (bgo BB.out hb2)
        have Hs2 := hide (Hs.out.below hb2)
        clear t0 t1 t2 t3 t4
        obtain ⟨_, t0, t1, t2, t3, t4⟩ := F.out.keep hb2
        clear hb2 V F
        go_wp2
        clear t0 t1 t2 t3 t4
        go_loopw [23] (fun x wr => ∃ i : Nat, i ≤ m ∧ x = .int .i64 (i : Int) ∧ (∀ y ∈ l.take i, nodeR y = 0) ∧ Below w2.heap.size w2 wr) (fun x _ => m - (intOf x).toNat)
        case atStart => exact ⟨0, Nat.zero_le _, rfl, fun y hy => (by simp at hy), Below.refl _ _⟩
        case round =>
          obtain ⟨i, hi, rfl, hm, hbel⟩ := hrel
          obtain ⟨w3, hw3⟩ : ∃ w3, w3 = wr := ⟨wr, rfl⟩
          subst hw3
          have Hm := hide hm
          have B3 := hide hbel
          have B4 := hide (bgo B2.out hbel)
          clear hm
          by_cases hlt : i < m
          · have hlt' : (i : Int) < (m : Int) := by omega
            obtain ⟨x, g, o, q0, qA, qn, qc, q1, q2, qB, qm, qd, hxl, rfl, x0, x1, x2, x3, x4, rx⟩ := (Hs2.out.below hbel).at_ hlt
            have hmem : x ∈ l := List.mem_of_getElem? hxl
            have hb5 := bnew (Below.refl _ w3) (.cells #[.int .i64 q0, .slice qA qn qc, .int .i64 q1, .int .i64 q2, .slice qB qm qd] 25)
            have hfv := five_new w3 (.int .i64 q0) (.slice qA qn qc) (.int .i64 q1) (.int .i64 q2) (.slice qB qm qd) 25
            obtain ⟨-, y0, y1, y2, y3, y4⟩ := hfv
            have HR := rx.kept hb5
            have B5 := hide (B3.out.trans (hb5.mono B3.out.size))
            obtain ⟨y, hy⟩ : ∃ y, nodeR x = y := ⟨_, rfl⟩
            have HC := hide (ih x hmem _ ok _ HR)
            rw [hy] at HC
            by_cases hy0 : y = 0
            · have hq : (y != 0) = false := int_eq hy0
              have Hn := hide (show ∀ z ∈ l.take (i + 1), nodeR z = 0 from fun z hz => by
                rw [rx_take hxl, List.mem_append, List.mem_singleton] at hz
                rcases hz with hz | rfl
                · exact Hm.out z hz
                · rw [hy, hy0])
              clear hxl rx hmem hy hy0 hbel hb5 HR
              go_wp2_with fail
              with_reducible refine HC.out.mono ?_
              rintro e w4 ⟨rfl, hb4⟩
              have B6 := hide (B5.out.trans (hb4.mono B5.out.size))
              clear hb4 y0 y1 y2 y3 y4 x0 x1 x2 x3 x4
              go_wp2
              go_roundw
              case rel => exact ⟨i + 1, by omega, by go_num, Hn.out, B6.out⟩
              case measure => simp [intOf]; omega
            · have hq : (y != 0) = true := int_ne hy0
              have Hn := hide (show nodeR (.mk k s a b l) = y by rw [Hnode.out, ← hy]; exact nodeL_at hxl Hm.out (by rw [hy]; exact hy0))
              clear hxl rx hmem hy hy0 hbel hb5 HR
              go_wp2_with fail
              with_reducible refine HC.out.mono ?_
              rintro e w4 ⟨rfl, hb4⟩
              have B6 := hide (bgo (bgo B2.out B5.out) hb4)
              clear hb4 y0 y1 y2 y3 y4 x0 x1 x2 x3 x4
              go_wp2
              go_ret
              exact ⟨ret_int Hn.out.symm, B6.out⟩
          · have hlt' : ¬ (i : Int) < (m : Int) := by omega
            have hall := Hm.out
            rw [List.take_of_length_le (by rw [Hlen.out]; omega)] at hall
            have Hn := hide (show nodeR (.mk k s a b l) = 0 by rw [Hnode.out]; exact nodeL_all hall)
            clear hall hbel
            go_wp2
            go_ret
            exact ⟨ret_int Hn.out.symm, B4.out⟩


theorem sizeL_len : ∀ l : List Rx, l.length ≤ sizeL l := by
  intro l
  induction l with
  | nil => simp
  | cons x l ih => simp only [sizeL, List.length_cons]; have : 1 ≤ sizeR x := (by cases x; unfold sizeR; omega); omega

set_option maxRecDepth 100000 in
set_option maxHeartbeats 6400000 in
theorem psize32 : ∀ (r : Rx) (W : World) (ok : Nat → Prop) (v : Value), RxV W ok v r → sizeR r ≤ 1000000 → depthR r ≤ 1000000 → Calls Tryz.prog 32 #[v] W fun e w' => e = .returned (.tuple #[.int .i64 (sizeR r : Nat), .int .i64 (depthR r : Nat)]) ∧ Below W.heap.size W w' := by
  intro r
  induction r using Rx.ind with
  | h k s a b l ih =>
    intro W ok v hv hsz hdp
    have hv0 := hv
    cases hv with
    | mk _ _ _ A B n c m d _ vs _ hset hvs hlen hk ha hb hr =>
    have hmd := hvs.1
    have hdd := hvs.2.1
    have hB := bnew (Below.refl _ W) (.cells #[.int .i64 k, .slice A n c, .int .i64 a, .int .i64 b, .slice B m d] 25)
    have BB := hide hB
    have Hs := hide ((SubsS.of hvs hlen hr).below hB)
    have Hlen := hide hlen
    have F := hide (five_new W (.int .i64 k) (.slice A n c) (.int .i64 a) (.int .i64 b) (.slice B m d) 25)
    have hl : sizeL l ≤ 1000000 := by unfold sizeR at hsz; omega
    have hld : depthL l ≤ 1000000 := by unfold depthR at hdp; omega
    have Hres := hide (show sizeR (.mk k s a b l) = 1 + sizeL l from rfl)
    have Hresd := hide (show depthR (.mk k s a b l) = depthL l + 1 from rfl)
    have hml : m ≤ 1000000 := by have := sizeL_len l; omega
    have f := F.out
    obtain ⟨w2, hw2⟩ : ∃ w2, W.alloc (.cells #[.int .i64 k, .slice A n c, .int .i64 a, .int .i64 b, .slice B m d] 25) = w2 := ⟨_, rfl⟩
    rw [hw2] at Hs BB f
    obtain ⟨_, t0, t1, t2, t3, t4⟩ := f
    have Hs2 := Hs
    clear hset hvs hr hB hlen hsz hdp hv0 F
    go_enter Tryz.func32, Tryz.ntmps32
    go_wp2
    clear t0 t1 t2 t3 t4
    go_loopw [4, 5, 13] (fun y u x wr => ∃ (i z p : Nat), i ≤ m ∧ x = .int .i64 (i : Int) ∧ y = .int .i64 (z : Int) ∧ u = .int .i64 (p : Int) ∧ z = 1 + sizeL (l.take i) ∧ p = depthL (l.take i) ∧ Below w2.heap.size w2 wr) (fun _ _ x _ => m - (intOf x).toNat)
    case atStart => exact ⟨0, 1, 0, Nat.zero_le _, rfl, rfl, rfl, rfl, rfl, Below.refl _ _⟩
    case round =>
      obtain ⟨i, z, p, hi, rfl, rfl, rfl, hz, hp, hbel⟩ := hrel
      obtain ⟨w3, hw3⟩ : ∃ w3, w3 = wr := ⟨wr, rfl⟩
      subst hw3
      have B3 := hide hbel
      have B4 := hide (bgo BB.out hbel)
      have htk := sizeL_take l i
      have htd := depthL_take l i
      have hzb : z ≤ 1000001 := by omega
      have hpb : p ≤ 1000001 := by omega
      have Hz := hide hz
      have Hpp := hide hp
      clear hz htk hp htd
      by_cases hlt : i < m
      · have hlt' : (i : Int) < (m : Int) := by omega
        obtain ⟨x, g, o, q0, qA, qn, qc, q1, q2, qB, qm, qd, hxl, rfl, x0, x1, x2, x3, x4, rx⟩ := (Hs2.out.below hbel).at_ hlt
        have hmem : x ∈ l := List.mem_of_getElem? hxl
        have hb5 := bnew (Below.refl _ w3) (.cells #[.int .i64 q0, .slice qA qn qc, .int .i64 q1, .int .i64 q2, .slice qB qm qd] 25)
        have hfv := five_new w3 (.int .i64 q0) (.slice qA qn qc) (.int .i64 q1) (.int .i64 q2) (.slice qB qm qd) 25
        obtain ⟨-, y0, y1, y2, y3, y4⟩ := hfv
        have HR := rx.kept hb5
        have B5 := hide (B3.out.trans (hb5.mono B3.out.size))
        have hxs := sizeL_mem hmem
        have hxd := depthL_mem hmem
        obtain ⟨y, hy⟩ : ∃ y, sizeR x = y := ⟨_, rfl⟩
        obtain ⟨t, ht⟩ : ∃ t, depthR x = t := ⟨_, rfl⟩
        have HC := hide (ih x hmem _ ok _ HR (by omega) (by omega))
        rw [hy, ht] at HC
        have hyb : y ≤ 1000000 := by omega
        have htb : t ≤ 1000000 := by omega
        have Hn := hide (show z + y = 1 + sizeL (l.take (i + 1)) by rw [rx_take hxl, sizeL_app, hy, Hz.out]; omega)
        have Hnd := hide (show max p t = depthL (l.take (i + 1)) by rw [rx_take hxl, depthL_app, ht, Hpp.out])
        clear hxl rx hmem hy ht hbel hb5 HR hxs hxd
        go_wp2_with fail
        with_reducible refine HC.out.mono ?_
        rintro e w4 ⟨rfl, hb4⟩
        have B6 := hide (B5.out.trans (hb4.mono B5.out.size))
        clear hb4 y0 y1 y2 y3 y4 x0 x1 x2 x3 x4
        go_wp2
        go_roundw
        case rel => exact ⟨i + 1, z + y, max p t, by omega, by go_num, by go_num, by first | go_num | (congr 1; omega), Hn.out, Hnd.out, B6.out⟩
        case measure => simp [intOf]; omega
      · have hlt' : ¬ (i : Int) < (m : Int) := by omega
        have hall := Hz.out
        have hall2 := Hpp.out
        rw [List.take_of_length_le (by rw [Hlen.out]; omega)] at hall hall2
        have Hn := hide (show (z : Int) = ((sizeR (.mk k s a b l) : Nat) : Int) by rw [Hres.out, hall])
        have Hn2 := hide (show (p : Int) + 1 = ((depthR (.mk k s a b l) : Nat) : Int) by rw [Hresd.out, hall2]; omega)
        clear hall hall2 hbel
        go_wp2
        go_ret2
        exact ⟨ret_pair Hn.out Hn2.out, B4.out⟩

set_option maxRecDepth 100000 in
set_option maxHeartbeats 6400000 in
theorem pright12 {W : World} {ok : Nat → Prop} {v : Value} {r : Rx} (hv : RxV W ok v r) (hs : sizeR r ≤ 1000000) (hd : depthR r ≤ 1000000) : Calls Tryz.prog 12 #[v] W fun e w' => e = .returned (.int .i64 (rightR r)) ∧ Below W.heap.size W w' := by
  have hv0 := hv
  cases hv with
  | mk k a b A B n c m d s vs l hset hvs hlen hk ha hb hr =>
  have hB := bnew (Below.refl _ W) (.cells #[.int .i64 k, .slice A n c, .int .i64 a, .int .i64 b, .slice B m d] 25)
  have BB := hide hB
  have F := hide (five_new W (.int .i64 k) (.slice A n c) (.int .i64 a) (.int .i64 b) (.slice B m d) 25)
  have V := hide (hv0.kept hB)
  obtain ⟨r, hr'⟩ : ∃ r, Rx.mk k s a b l = r := ⟨_, rfl⟩
  rw [hr'] at hv0 V hs hd ⊢
  have HC1 := hide (first31 r _ ok _ V.out)
  have HC2 := hide (fun W' (hb : Below (W.alloc (.cells #[.int .i64 k, .slice A n c, .int .i64 a, .int .i64 b, .slice B m d] 25)).heap.size (W.alloc (.cells #[.int .i64 k, .slice A n c, .int .i64 a, .int .i64 b, .slice B m d] 25)) W') => psize32 r W' ok _ (V.out.kept hb) hs hd)
  obtain ⟨_, t0, t1, t2, t3, t4⟩ := F.out
  clear hset hvs hr hB hlen hv0 hr' hk ha hb
  obtain ⟨y, hy⟩ : ∃ y, nodeR r = y := ⟨_, rfl⟩
  obtain ⟨p, hp⟩ : ∃ p, sizeR r = p := ⟨_, rfl⟩
  obtain ⟨q, hq⟩ : ∃ q, depthR r = q := ⟨_, rfl⟩
  have hrr : rightR r = if y = 0 then (if 40 < p ∨ 12 < q then 4 else 0) else y := by unfold rightR; rw [hy, hp, hq]
  rw [hy] at HC1
  rw [hp, hq] at HC2
  rw [hp] at hs
  rw [hq] at hd
  clear hy hp hq
  by_cases hy0 : y = 0
  · have hq0 : (y != 0) = false := int_eq hy0
    rw [if_pos hy0] at hrr
    clear hy0
    have hpq : (40 < p) ∨ (¬ 40 < p ∧ 12 < q) ∨ (¬ 40 < p ∧ ¬ 12 < q) := by omega
    rcases hpq with h40 | ⟨h40, h12⟩ | ⟨h40, h12⟩
    · have Hn := hide (show rightR r = 4 by rw [hrr, if_pos (Or.inl h40)])
      have l40 : (40 : Int) < (p : Int) := by omega
      clear hrr
      go_enter Tryz.func12, Tryz.ntmps12
      go_wp2_with fail
      with_reducible refine HC1.out.mono ?_
      rintro e w2 ⟨rfl, hb2⟩
      have B2 := hide (bgo BB.out hb2)
      have HD := hide (HC2.out _ hb2)
      clear t0 t1 t2 t3 t4
      obtain ⟨_, t0, t1, t2, t3, t4⟩ := F.out.keep hb2
      clear hb2 V F HC1 HC2
      go_wp2_with fail
      with_reducible refine HD.out.mono ?_
      rintro e w3 ⟨rfl, hb3⟩
      have B3 := hide (bgo B2.out hb3)
      clear hb3
      go_wp2
      go_ret
      exact ⟨ret_int Hn.out.symm, B3.out⟩
    · have Hn := hide (show rightR r = 4 by rw [hrr, if_pos (Or.inr h12)])
      have l40 : ¬ (40 : Int) < (p : Int) := by omega
      have l12 : (12 : Int) < (q : Int) := by omega
      clear hrr
      go_enter Tryz.func12, Tryz.ntmps12
      go_wp2_with fail
      with_reducible refine HC1.out.mono ?_
      rintro e w2 ⟨rfl, hb2⟩
      have B2 := hide (bgo BB.out hb2)
      have HD := hide (HC2.out _ hb2)
      clear t0 t1 t2 t3 t4
      obtain ⟨_, t0, t1, t2, t3, t4⟩ := F.out.keep hb2
      clear hb2 V F HC1 HC2
      go_wp2_with fail
      with_reducible refine HD.out.mono ?_
      rintro e w3 ⟨rfl, hb3⟩
      have B3 := hide (bgo B2.out hb3)
      clear hb3
      go_wp2
      go_ret
      exact ⟨ret_int Hn.out.symm, B3.out⟩
    · have Hn := hide (show rightR r = 0 by rw [hrr, if_neg (by omega)])
      have l40 : ¬ (40 : Int) < (p : Int) := by omega
      have l12 : ¬ (12 : Int) < (q : Int) := by omega
      clear hrr
      go_enter Tryz.func12, Tryz.ntmps12
      go_wp2_with fail
      with_reducible refine HC1.out.mono ?_
      rintro e w2 ⟨rfl, hb2⟩
      have B2 := hide (bgo BB.out hb2)
      have HD := hide (HC2.out _ hb2)
      clear t0 t1 t2 t3 t4
      obtain ⟨_, t0, t1, t2, t3, t4⟩ := F.out.keep hb2
      clear hb2 V F HC1 HC2
      go_wp2_with fail
      with_reducible refine HD.out.mono ?_
      rintro e w3 ⟨rfl, hb3⟩
      have B3 := hide (bgo B2.out hb3)
      clear hb3
      go_wp2
      go_ret
      exact ⟨ret_int Hn.out.symm, B3.out⟩
  · have hq0 : (y != 0) = true := int_ne hy0
    rw [if_neg hy0] at hrr
    have Hn := hide hrr
    clear hrr hy0
    go_enter Tryz.func12, Tryz.ntmps12
    go_wp2_with fail
    with_reducible refine HC1.out.mono ?_
    rintro e w2 ⟨rfl, hb2⟩
    have B2 := hide (bgo BB.out hb2)
    clear hb2 V F t0 t1 t2 t3 t4
    go_wp2
    go_ret
    exact ⟨ret_int Hn.out.symm, B2.out⟩

/-! ### N4 -/

set_option maxRecDepth 20000 in
set_option maxHeartbeats 1600000 in
theorem equal36 {W : World} {ok ok' : Nat → Prop} {A B : Option Addr} {n c m d : Nat} {a b : List (UInt8 × UInt8)} (h : RgS W ok A n c a) (h' : RgS W ok' B m d b) (r : Bool) (hr : decide (a = b) = r) :
    Calls Tryz.prog 36 #[.slice A n c, .slice B m d] W fun e w' => e = .returned (.bool r) ∧ Drawn W w' := by
  have hnc := h.1
  have hcc := h.2.1
  have hmd := h'.1
  have hdd := h'.2.1
  have ha := h.2.2.1
  have hb := h'.2.2.1
  subst hr
  by_cases hnm : n = m
  · subst hnm
    have H := hide h
    have H' := hide h'
    have Ha := hide ha
    have Hb := hide hb
    clear h h' ha hb
    go_enter Tryz.func36, Tryz.ntmps36
    go_wp2
    go_loopw [13] (fun x wr => ∃ k : Nat, k ≤ n ∧ x = .int .i64 (k : Int) ∧ a.take k = b.take k ∧ Drawn W wr) (fun x _ => n - (intOf x).toNat)
    case atStart => exact ⟨0, Nat.zero_le _, rfl, rfl, Drawn.refl _⟩
    case round =>
      obtain ⟨k, hk, rfl, hm, hd⟩ := hrel
      have Hm := hide hm
      have Hd := hide hd
      have hbel := hd.below W.heap.size
      clear hm hd
      by_cases hlt : k < n
      · have hlt' : (k : Int) < (n : Int) := by omega
        obtain ⟨g, o, x, rfl, hx, x0, x1⟩ := (H.out.below hbel).at_ hlt
        obtain ⟨g', o', y, rfl, hy, y0, y1⟩ := (H'.out.below hbel).at_ hlt
        by_cases e0 : x.1 = y.1
        · have q0 : ((x.1.toNat : Int) == (y.1.toNat : Int)) = true := by rw [e0]; simp
          by_cases e1 : x.2 = y.2
          · have q1 : ((x.2.toNat : Int) == (y.2.toNat : Int)) = true := by rw [e1]; simp
            have Hn := hide (set_next Hm.out hx hy (Prod.ext e0 e1))
            clear hx hy e0 e1 hbel
            go_wp2
            go_quiet (fail)
            go_wp2
            go_roundw
            case rel => exact ⟨k + 1, by omega, by go_num, Hn.out, Hd.out.more _⟩
            case measure => simp [intOf]; omega
          · have q1 : ((x.2.toNat : Int) == (y.2.toNat : Int)) = false := by have := byte_ne e1; simpa [bne] using this
            have Hn := hide (decide_eq_false (set_differ hx hy fun e => e1 (congrArg Prod.snd e)))
            clear hx hy e0 e1 hbel
            go_wp2
            go_quiet (fail)
            go_wp2
            go_ret
            exact ⟨ret_bool Hn.out.symm, Hd.out.more _⟩
        · have q0 : ((x.1.toNat : Int) == (y.1.toNat : Int)) = false := by have := byte_ne e0; simpa [bne] using this
          have Hn := hide (decide_eq_false (set_differ hx hy fun e => e0 (congrArg Prod.fst e)))
          clear hx hy e0 hbel
          go_wp2
          go_quiet (fail)
          go_wp2
          go_ret
          exact ⟨ret_bool Hn.out.symm, Hd.out.more _⟩
      · have hall := Hm.out
        rw [List.take_of_length_le (by rw [Ha.out]; omega), List.take_of_length_le (by rw [Hb.out]; omega)] at hall
        have Hn := hide (decide_eq_true hall)
        clear hall hbel
        go_wp2
        go_ret
        exact ⟨ret_bool Hn.out.symm, Hd.out⟩
  · have hq : ((n : Int) != (m : Int)) = true := by rw [bne_iff_ne]; omega
    have Hn := hide (decide_eq_false (show ¬ a = b from fun e => hnm (by rw [← ha, ← hb, e])))
    clear h h' ha hb hnm
    go_enter Tryz.func36, Tryz.ntmps36
    go_wp2
    go_ret
    exact ⟨ret_bool Hn.out.symm, Drawn.refl _⟩

theorem run14 (xs : Array Value) (W : World) : (callFunc 14 xs).run Tryz.prog W = .ok (.enter 14 xs) W := by kernel_rfl
set_option maxRecDepth 20000 in
set_option maxHeartbeats 3200000 in
theorem equalf37 {W : World} {ok ok' : Nat → Prop} {B B' : Option Addr} {m d m' d' : Nat} {l l' : List Rx} (h : SubsS W ok B m d l) (h' : SubsS W ok' B' m' d' l')
    (hp : ∀ x ∈ l, ∀ (W' : World) (v v' : Value) (y : Rx), RxV W' ok v x → RxV W' ok' v' y → Calls Tryz.prog 14 #[v, v'] W' fun e w' => e = .returned (.bool (sameR x y)) ∧ Below W'.heap.size W' w')
    (q : Bool) (hq : q = true ↔ l = l') :
    Calls Tryz.prog 37 #[.slice B m d, .slice B' m' d', .func (.func 14) #[] #[]] W fun e w' => e = .returned (.bool q) ∧ Below W.heap.size W w' := by
  have hmd := h.1
  have hdd := h.2.1
  have hmd' := h'.1
  have hdd' := h'.2.1
  have hl := h.2.2.1
  have hl' := h'.2.2.1
  have Hno := hide (show ¬ l = l' → q = false from fun h => by cases q with
    | false => rfl
    | true => exact absurd (hq.1 rfl) h)
  have Hyes := hide hq.2
  have Hs := hide h
  have Hs' := hide h'
  have Hp := hide hp
  have hcf := run14
  have Hl := hide hl
  have Hl' := hide hl'
  by_cases hnm : m = m'
  · have hq : ((m : Int) != (m' : Int)) = false := int_eq (by omega)
    have hmm1 : m ≤ m' := by omega
    have hmm2 : m' ≤ m := by omega
    clear h h' hp hl hl' hnm
    go_enter Tryz.func37, Tryz.ntmps37
    go_wp2
    go_loopw [17] (fun x wr => ∃ k : Nat, k ≤ m ∧ x = .int .i64 (k : Int) ∧ l.take k = l'.take k ∧ Below W.heap.size W wr) (fun x _ => m - (intOf x).toNat)
    case atStart => exact ⟨0, Nat.zero_le _, rfl, rfl, Below.refl _ _⟩
    case round =>
      obtain ⟨i, hi, rfl, hm, hbel⟩ := hrel
      obtain ⟨w3, hw3⟩ : ∃ w3, w3 = wr := ⟨wr, rfl⟩
      subst hw3
      have Hm := hide hm
      have B3 := hide hbel
      clear hm
      by_cases hlt : i < m
      · have hlt' : (i : Int) < (m : Int) := by omega
        obtain ⟨x, g, o, q0, qA, qn, qc, q1, q2, qB, qm, qd, hxl, rfl, x0, x1, x2, x3, x4, rx⟩ := (Hs.out.below hbel).at_ hlt
        have hmem : x ∈ l := List.mem_of_getElem? hxl
        obtain ⟨w4, hw4⟩ : ∃ w4, w3.alloc (.cells #[.int .i64 q0, .slice qA qn qc, .int .i64 q1, .int .i64 q2, .slice qB qm qd] 25) = w4 := ⟨_, rfl⟩
        have hb4 : Below w3.heap.size w3 w4 := by rw [← hw4]; exact bnew (Below.refl _ w3) _
        have hsz4 : w4.heap.size = w3.heap.size + 1 := by rw [← hw4]; simp
        have hf4 : Five w4 w3.heap.size (.int .i64 q0) (.slice qA qn qc) (.int .i64 q1) (.int .i64 q2) (.slice qB qm qd) := by rw [← hw4]; exact five_new w3 _ _ _ _ _ 25
        obtain ⟨y, g', o', p0, pA, pn, pc, p1, p2, pB, pm, pd, hyl, rfl, z0, z1, z2, z3, z4, ry⟩ := (Hs'.out.below (hbel.trans (hb4.mono hbel.size))).at_ (show i < m' by omega)
        have hb5 := bnew (Below.refl _ w4) (.cells #[.int .i64 p0, .slice pA pn pc, .int .i64 p1, .int .i64 p2, .slice pB pm pd] 25)
        have hf5 := five_new w4 (.int .i64 p0) (.slice pA pn pc) (.int .i64 p1) (.int .i64 p2) (.slice pB pm pd) 25
        have hf6 := hf4.keep hb5
        have rx5 := (rx.kept hb4).kept hb5
        have ry5 := ry.kept hb5
        have B5 := hide (hbel.trans ((bgo hb4 hb5).mono hbel.size))
        have HC := hide (Hp.out x hmem _ _ _ y rx5 ry5)
        rw [hsz4] at hf5
        rw [← hw4] at z0 z1 z2 z3 z4 hf5 hf6 HC B5
        obtain ⟨-, y0, y1, y2, y3, y4⟩ := hf5
        obtain ⟨-, u0, u1, u2, u3, u4⟩ := hf6
        have hi' : (i : Int) < (m' : Int) := by omega
        cases hs : sameR x y with
        | true =>
          have Hn := hide (rx_next Hm.out hxl hyl ((same_iff x y).1 hs))
          rw [hs] at HC
          clear hs hxl hyl rx ry rx5 ry5 hmem hb4 hb5 hbel hw4 hf4 hsz4
          go_wp2_with fail
          with_reducible refine HC.out.mono ?_
          rintro e w6 ⟨rfl, hb6⟩
          have B6 := hide (B5.out.trans (hb6.mono B5.out.size))
          clear hb6
          go_wp2
          go_roundw
          case rel => exact ⟨i + 1, by omega, by go_num, Hn.out, B6.out⟩
          case measure => simp [intOf]; omega
        | false =>
          have hne : ¬ x = y := fun e => by rw [(same_iff x y).2 e] at hs; cases hs
          have Hn := hide (Hno.out fun e => hne (by
            rw [e, hyl] at hxl
            exact (Option.some.inj hxl).symm))
          rw [hs] at HC
          clear hs hxl hyl rx ry rx5 ry5 hmem hb4 hb5 hbel hw4 hf4 hsz4 hne
          go_wp2_with fail
          with_reducible refine HC.out.mono ?_
          rintro e w6 ⟨rfl, hb6⟩
          have B6 := hide (B5.out.trans (hb6.mono B5.out.size))
          clear hb6
          go_wp2
          go_ret
          exact ⟨ret_bool Hn.out.symm, B6.out⟩
      · have hall := Hm.out
        rw [List.take_of_length_le (by rw [Hl.out]; omega), List.take_of_length_le (by rw [Hl'.out]; omega)] at hall
        have Hn := hide (Hyes.out hall)
        clear hall hbel
        go_wp2
        go_ret
        exact ⟨ret_bool Hn.out.symm, B3.out⟩
  · have hq : ((m : Int) != (m' : Int)) = true := int_ne (by omega)
    have Hn := hide (Hno.out fun e => hnm (by rw [← hl, ← hl', e]))
    clear h h' hp hl hl' hnm
    go_enter Tryz.func37, Tryz.ntmps37
    go_wp2
    go_ret
    exact ⟨ret_bool Hn.out.symm, Below.refl _ _⟩

theorem int_beq {a b : Int} (h : a = b) : (a == b) = true := beq_iff_eq.2 h
theorem int_bne {a b : Int} (h : a ≠ b) : (a == b) = false := beq_eq_false_iff_ne.2 h
set_option maxRecDepth 100000 in
set_option maxHeartbeats 6400000 in
theorem psame14 : ∀ (r : Rx) (W : World) (ok ok' : Nat → Prop) (v v' : Value) (r' : Rx), RxV W ok v r → RxV W ok' v' r' → ∀ q : Bool, (q = true ↔ r = r') →
    Calls Tryz.prog 14 #[v, v'] W fun e w' => e = .returned (.bool q) ∧ Below W.heap.size W w' := by
  intro r
  induction r using Rx.ind with
  | h k s a b l ih =>
    intro W ok ok' v v' r' hv hv' q hq
    cases hv with
    | mk _ _ _ A B n c m d _ vs _ hset hvs hlen hk ha hb hr =>
    cases hv' with
    | mk k' a' b' A' B' n' c' m' d' s' vs' l' hset' hvs' hlen' hk' ha' hb' hr' =>
    have Hno := hide (show (¬ k = k' ∨ ¬ a = a' ∨ ¬ b = b' ∨ ¬ s = s') → q = false from fun h => by
      cases q with
      | false => rfl
      | true =>
        have e := hq.1 rfl
        injection e with e1 e2 e3 e4 e5
        rcases h with h | h | h | h
        · exact absurd e1 h
        · exact absurd e3 h
        · exact absurd e4 h
        · exact absurd e2 h)
    have Hyes := hide (show k = k' → a = a' → b = b' → s = s' → (q = true ↔ l = l') from fun h1 h2 h3 h4 => by subst h1 h2 h3 h4; rw [hq]; simp)
    have hB2 := bnew (bnew (Below.refl _ W) (.cells #[.int .i64 k, .slice A n c, .int .i64 a, .int .i64 b, .slice B m d] 25)) (.cells #[.int .i64 k', .slice A' n' c', .int .i64 a', .int .i64 b', .slice B' m' d'] 25)
    obtain ⟨w0, hw0⟩ : ∃ w0, (W.alloc (.cells #[.int .i64 k, .slice A n c, .int .i64 a, .int .i64 b, .slice B m d] 25)).alloc (.cells #[.int .i64 k', .slice A' n' c', .int .i64 a', .int .i64 b', .slice B' m' d'] 25) = w0 := ⟨_, rfl⟩
    have f1 := (five_new W (.int .i64 k) (.slice A n c) (.int .i64 a) (.int .i64 b) (.slice B m d) 25).keep (bnew (Below.refl _ _) (.cells #[.int .i64 k', .slice A' n' c', .int .i64 a', .int .i64 b', .slice B' m' d'] 25))
    have f2 := five_new (W.alloc (.cells #[.int .i64 k, .slice A n c, .int .i64 a, .int .i64 b, .slice B m d] 25)) (.int .i64 k') (.slice A' n' c') (.int .i64 a') (.int .i64 b') (.slice B' m' d') 25
    rw [show (W.alloc (.cells #[.int .i64 k, .slice A n c, .int .i64 a, .int .i64 b, .slice B m d] 25)).heap.size = W.heap.size + 1 by simp] at f2
    rw [hw0] at hB2 f1 f2
    have S := hset.below hB2
    have S' := hset'.below hB2
    have BB := hide hB2
    have F1 := hide f1
    have F2 := hide f2
    have T := hide ((SubsS.of hvs hlen hr).below hB2)
    have T' := hide ((SubsS.of hvs' hlen' hr').below hB2)
    have HE := hide (fun x => equal36 S S' x)
    obtain ⟨_, t0, t1, t2, t3, t4⟩ := f1
    obtain ⟨_, y0, y1, y2, y3, y4⟩ := f2
    have IH := hide (fun (x : Rx) (hx : x ∈ l) (W' : World) (u u' : Value) (y : Rx) (h : RxV W' ok u x) (h' : RxV W' ok' u' y) => ih x hx W' ok ok' u u' y h h' (sameR x y) (same_iff x y))
    clear hset hset' hvs hvs' hr hr' hB2 hq S S' hlen hlen' ih
    by_cases ek : k = k'
    · have qk := int_beq ek
      by_cases es : s = s'
      · have HC := hide (HE.out true (decide_eq_true es))
        by_cases ea : a = a'
        · have qa := int_beq ea
          by_cases eb : b = b'
          · have qb := int_beq eb
            have Hq := hide (Hyes.out ek ea eb es)
            clear ek ea eb es Hno Hyes HE
            go_enter Tryz.func14, Tryz.ntmps14
            go_wp2_with fail
            with_reducible refine HC.out.mono ?_
            rintro e w2 ⟨rfl, hd⟩
            have hb2 := DrawnBel hd
            have B2 := hide (bgo BB.out hb2)
            have HD := hide (equalf37 (T.out.below hb2) (T'.out.below hb2) IH.out q Hq.out)
            clear t0 t1 t2 t3 t4 y0 y1 y2 y3 y4
            obtain ⟨_, t0, t1, t2, t3, t4⟩ := F1.out.keep hb2
            obtain ⟨_, y0, y1, y2, y3, y4⟩ := F2.out.keep hb2
            clear hd hb2
            go_wp2_with fail
            with_reducible refine HD.out.mono ?_
            rintro e w5 ⟨rfl, hb5⟩
            have B5 := hide (bgo B2.out hb5)
            clear hb5
            go_wp2
            go_ret
            exact ⟨rfl, B5.out⟩
          · have qb := int_bne eb
            have Hn := hide (Hno.out (Or.inr (Or.inr (Or.inl eb))))
            clear ek ea eb es Hno Hyes HE
            go_enter Tryz.func14, Tryz.ntmps14
            go_wp2_with fail
            with_reducible refine HC.out.mono ?_
            rintro e w2 ⟨rfl, hd⟩
            have hb2 := DrawnBel hd
            have B2 := hide (bgo BB.out hb2)
            clear t0 t1 t2 t3 t4 y0 y1 y2 y3 y4
            obtain ⟨_, t0, t1, t2, t3, t4⟩ := F1.out.keep hb2
            obtain ⟨_, y0, y1, y2, y3, y4⟩ := F2.out.keep hb2
            clear hd hb2
            go_wp2_with fail
            go_ret
            exact ⟨ret_bool Hn.out.symm, B2.out⟩
        · have qa := int_bne ea
          have Hn := hide (Hno.out (Or.inr (Or.inl ea)))
          clear ek ea es Hno Hyes HE
          go_enter Tryz.func14, Tryz.ntmps14
          go_wp2_with fail
          with_reducible refine HC.out.mono ?_
          rintro e w2 ⟨rfl, hd⟩
          have hb2 := DrawnBel hd
          have B2 := hide (bgo BB.out hb2)
          clear t0 t1 t2 t3 t4 y0 y1 y2 y3 y4
          obtain ⟨_, t0, t1, t2, t3, t4⟩ := F1.out.keep hb2
          obtain ⟨_, y0, y1, y2, y3, y4⟩ := F2.out.keep hb2
          clear hd hb2
          go_wp2_with fail
          go_ret
          exact ⟨ret_bool Hn.out.symm, B2.out⟩
      · have HC := hide (HE.out false (decide_eq_false es))
        have Hn := hide (Hno.out (Or.inr (Or.inr (Or.inr es))))
        clear ek es Hno Hyes HE
        go_enter Tryz.func14, Tryz.ntmps14
        go_wp2_with fail
        with_reducible refine HC.out.mono ?_
        rintro e w2 ⟨rfl, hd⟩
        have B2 := hide (bgo BB.out (DrawnBel hd))
        clear hd
        go_wp2_with fail
        go_ret
        exact ⟨ret_bool Hn.out.symm, B2.out⟩
    · have qk := int_bne ek
      have Hn := hide (Hno.out (Or.inl ek))
      clear ek Hno Hyes HE
      go_enter Tryz.func14, Tryz.ntmps14
      go_wp2_with fail
      go_ret
      exact ⟨ret_bool Hn.out.symm, BB.out⟩

end Go.Proofs.YtmiegjefmebpdaaGreatDoor
