/- TopRegex: N1. -/
import Derived.Test.YtlnbjdlooghpeaaGreatDoorTGk
namespace Go.Proofs.YtlnbjdlooghpeaaGreatDoor
open Go.RowKit
theorem any_take {α : Type} {l : List α} {k : Nat} {r : α} (p : α → Bool) (h : l[k]? = some r) : (l.take (k + 1)).any p = ((l.take k).any p || p r) := by
  obtain ⟨h1, e⟩ := List.getElem?_eq_some_iff.1 h
  rw [List.take_succ_eq_append_getElem h1, List.any_append, e]
  simp
theorem any_at {α : Type} {l : List α} {k : Nat} {r : α} (p : α → Bool) (h : l[k]? = some r) (hp : p r = true) : l.any p = true := List.any_eq_true.2 ⟨r, List.mem_of_getElem? h, hp⟩
theorem run85 (xs : Array Value) (W : World) : (callFunc 95 xs).run Tryz.prog W = .ok (.enter 95 xs) W := by kernel_rfl
theorem run92 (xs : Array Value) (W : World) : (callFunc 149 xs).run Tryz.prog W = .ok (.enter 149 xs) W := by kernel_rfl
set_option maxRecDepth 20000 in
set_option maxHeartbeats 1600000 in
theorem indexf93 (N : Nat) (caps : Array Value) (p : UInt8 × UInt8 → Bool) {W : World} {ok : Nat → Prop} {A : Option Addr} {n c : Nat} {set : List (UInt8 × UInt8)} (h : RgS W ok A n c set)
    (hcf : ∀ (xs : Array Value) (W : World), (callFunc N xs).run Tryz.prog W = .ok (.enter N xs) W)
    (hp : ∀ (W' : World) (r : UInt8 × UInt8), Below W.heap.size W W' → Calls Tryz.prog N (#[.agg #[.int .u8 (r.1.toNat : Int), .int .u8 (r.2.toNat : Int)]] ++ caps) W' fun e w' => e = .returned (.bool (p r)) ∧ Below W'.heap.size W' w')
    (q : Bool) (hq : set.any p = q) :
    Calls Tryz.prog 123 #[.slice A n c, .func (.func N) #[] caps] W fun e w' => ∃ z : Int, e = .returned (.int .i64 z) ∧ decide (0 ≤ z) = q ∧ Below W.heap.size W w' := by
  have hnc := h.1
  have hcc := h.2.1
  have Hlen := hide h.2.2.1
  have H := hide h
  have Hp := hide hp
  have Hq := hide hq
  clear h hq hp
  go_enter Tryz.func123, Tryz.ntmps123
  go_wp2
  go_loopw [8] (fun y wr => ∃ k : Nat, k ≤ n ∧ y = .int .i64 (k : Int) ∧ (set.take k).any p = false ∧ Below W.heap.size W wr) (fun y _ => n - (intOf y).toNat)
  case atStart => exact ⟨0, Nat.zero_le _, rfl, rfl, Below.refl _ _⟩
  case round =>
    obtain ⟨k, hk, rfl, hm, hb⟩ := hrel
    obtain ⟨w2, hw2⟩ : ∃ w2, w2 = wr := ⟨wr, rfl⟩
    subst hw2
    have B := hide hb
    by_cases hlt : k < n
    · obtain ⟨g, o, r, rfl, hr, c0, c1⟩ := (H.out.below hb).at_ hlt
      have ht := any_take p hr
      rw [hm, Bool.false_or] at ht
      have HC := hide (Hp.out w2 r hb)
      cases hpr : p r with
      | true =>
        have Hy := hide (show true = q by rw [← Hq.out, any_at p hr hpr])
        rw [hpr] at HC
        clear hm ht hr hpr hb
        go_wp2_with fail
        with_reducible refine HC.out.mono ?_
        rintro e w3 ⟨rfl, hb3⟩
        have B3 := hide (bgo B.out hb3)
        clear hb3
        go_wp2
        go_ret
        exact ⟨_, rfl, by rw [← Hy.out]; exact decide_eq_true (by omega), B3.out⟩
      | false =>
        have Hn := hide (show (set.take (k + 1)).any p = false by rw [ht, hpr])
        rw [hpr] at HC
        clear hm ht hr hpr hb
        go_wp2_with fail
        with_reducible refine HC.out.mono ?_
        rintro e w3 ⟨rfl, hb3⟩
        have B3 := hide (bgo B.out hb3)
        clear hb3
        go_wp2
        go_roundw
        case rel => exact ⟨k + 1, by omega, by go_num, Hn.out, B3.out⟩
        case measure => simp [intOf]; omega
    · rw [List.take_of_length_le (by rw [Hlen.out]; omega)] at hm
      have Hn := hide (show false = q by rw [← Hq.out]; exact hm.symm)
      clear hm hb
      go_wp2
      go_ret
      exact ⟨_, rfl, by rw [← Hn.out]; rfl, B.out⟩
set_option maxRecDepth 20000 in
theorem containsf84 (N : Nat) (caps : Array Value) (p : UInt8 × UInt8 → Bool) {W : World} {ok : Nat → Prop} {A : Option Addr} {n c : Nat} {set : List (UInt8 × UInt8)} (h : RgS W ok A n c set)
    (hcf : ∀ (xs : Array Value) (W : World), (callFunc N xs).run Tryz.prog W = .ok (.enter N xs) W)
    (hp : ∀ (W' : World) (r : UInt8 × UInt8), Below W.heap.size W W' → Calls Tryz.prog N (#[.agg #[.int .u8 (r.1.toNat : Int), .int .u8 (r.2.toNat : Int)]] ++ caps) W' fun e w' => e = .returned (.bool (p r)) ∧ Below W'.heap.size W' w')
    (q : Bool) (hq : set.any p = q) :
    Calls Tryz.prog 94 #[.slice A n c, .func (.func N) #[] caps] W fun e w' => e = .returned (.bool q) ∧ Below W.heap.size W w' := by
  have HC := hide (indexf93 N caps p h hcf hp q hq)
  clear h hq hp
  go_enter Tryz.func94, Tryz.ntmps94
  go_wp2_with fail
  with_reducible refine HC.out.mono ?_
  rintro e w2 ⟨z, rfl, hz, hb⟩
  have Hz := hide hz
  have B := hide hb
  clear hz hb
  go_wp2
  go_ret
  exact ⟨ret_bool Hz.out, B.out⟩
set_option maxRecDepth 20000 in
theorem rev92 (r : UInt8 × UInt8) (W : World) : Calls Tryz.prog 149 #[.agg #[.int .u8 (r.1.toNat : Int), .int .u8 (r.2.toNat : Int)]] W fun e w' => e = .returned (.bool (decide (r.2 < r.1))) ∧ Below W.heap.size W w' := by
  have BB := hide (bnew (Below.refl _ W) (.cells #[.int .u8 (r.1.toNat : Int), .int .u8 (r.2.toNat : Int)] 88))
  have t := two_alloc W (.int .u8 (r.1.toNat : Int)) (.int .u8 (r.2.toNat : Int)) 88
  obtain ⟨_, t0, t1⟩ := t
  go_enter Tryz.func149, Tryz.ntmps149
  go_wp2
  go_ret
  exact ⟨ret_bool (by first | rfl | (rw [UInt8.lt_iff_toNat_lt]) | (simp [UInt8.lt_iff_toNat_lt])), BB.out⟩
set_option maxRecDepth 20000 in
theorem in85 (r : UInt8 × UInt8) (x : UInt8) (b : Nat) (W : World) (hx : W.cell? ⟨b, 0, none⟩ = some (.int .u8 (x.toNat : Int))) :
    Calls Tryz.prog 95 #[.agg #[.int .u8 (r.1.toNat : Int), .int .u8 (r.2.toNat : Int)], .pointer (some ⟨b, 0, none⟩)] W fun e w' => e = .returned (.bool (decide (r.1 ≤ x) && decide (x ≤ r.2))) ∧ Below W.heap.size W w' := by
  have BB := hide (bnew (Below.refl _ W) (.cells #[.int .u8 (r.1.toNat : Int), .int .u8 (r.2.toNat : Int)] 88))
  have hlt : b < W.heap.size := World.block_lt_of_cell? _ _ hx
  have hx' := ((bnew (Below.refl _ W) (.cells #[.int .u8 (r.1.toNat : Int), .int .u8 (r.2.toNat : Int)] 88)).cell (p := ⟨b, 0, none⟩) hlt).trans hx
  have t := two_alloc W (.int .u8 (r.1.toNat : Int)) (.int .u8 (r.2.toNat : Int)) 88
  obtain ⟨_, t0, t1⟩ := t
  by_cases h1 : r.1 ≤ x
  · have l1 : (r.1.toNat : Int) ≤ (x.toNat : Int) := by have := UInt8.le_iff_toNat_le.1 h1; omega
    by_cases h2 : x ≤ r.2
    · have l2 : (x.toNat : Int) ≤ (r.2.toNat : Int) := by have := UInt8.le_iff_toNat_le.1 h2; omega
      have Hn := hide (show true = (decide (r.1 ≤ x) && decide (x ≤ r.2)) by simp [h1, h2])
      clear h1 h2 hx
      go_enter Tryz.func95, Tryz.ntmps95
      go_wp2
      go_ret
      exact ⟨ret_bool Hn.out, BB.out⟩
    · have l2 : ¬ (x.toNat : Int) ≤ (r.2.toNat : Int) := by rw [UInt8.le_iff_toNat_le] at h2; omega
      have Hn := hide (show false = (decide (r.1 ≤ x) && decide (x ≤ r.2)) by simp [h2])
      clear h1 h2 hx
      go_enter Tryz.func95, Tryz.ntmps95
      go_wp2
      go_ret
      exact ⟨ret_bool Hn.out, BB.out⟩
  · have l1 : ¬ (r.1.toNat : Int) ≤ (x.toNat : Int) := by rw [UInt8.le_iff_toNat_le] at h1; omega
    have Hn := hide (show false = (decide (r.1 ≤ x) && decide (x ≤ r.2)) by simp [h1])
    clear h1 hx
    go_enter Tryz.func95, Tryz.ntmps95
    go_wp2
    go_ret
    exact ⟨ret_bool Hn.out, BB.out⟩
set_option maxRecDepth 20000 in
theorem phas72 {W : World} {ok : Nat → Prop} {A : Option Addr} {n c : Nat} {set : List (UInt8 × UInt8)} (h : RgS W ok A n c set) (x : UInt8) (q : Bool) (hq : hasS set x = q) :
    Calls Tryz.prog 49 #[.slice A n c, .int .u8 (x.toNat : Int)] W fun e w' => e = .returned (.bool q) ∧ Below W.heap.size W w' := by
  have hb := bnew (Below.refl _ W) (.cells #[.int .u8 (x.toNat : Int)] 5)
  have hn := cell_of_one (heap_alloc_new W (.cells #[.int .u8 (x.toNat : Int)] 5))
  have BB := hide hb
  have HC := hide (containsf84 95 #[.pointer (some ⟨W.heap.size, 0, none⟩)] (fun r => decide (r.1 ≤ x) && decide (x ≤ r.2)) (h.below hb) run85
    (fun W' r hb' => in85 r x W.heap.size W' ((hb'.cell (p := ⟨W.heap.size, 0, none⟩) (by simp)).trans hn)) q hq)
  clear h hq hb hn
  go_enter Tryz.func49, Tryz.ntmps49
  go_wp2_with fail
  with_reducible refine HC.out.mono ?_
  rintro e w2 ⟨rfl, hb2⟩
  have B2 := hide (bgo BB.out hb2)
  clear hb2
  go_wp2
  go_ret
  exact ⟨rfl, B2.out⟩
theorem set_ok (set : List (UInt8 × UInt8)) : set.any (fun r => decide (r.2 < r.1)) = !set.all fun r => decide (r.1 ≤ r.2) := by
  induction set with
  | nil => rfl
  | cons r l ih =>
    rw [List.any_cons, List.all_cons, ih, Bool.not_and]
    congr 1
    rw [Bool.eq_iff_iff]
    simp [UInt8.lt_iff_toNat_lt, UInt8.le_iff_toNat_le]
set_option maxRecDepth 20000 in
theorem rightset83 {W : World} {ok : Nat → Prop} {A : Option Addr} {n c : Nat} {set : List (UInt8 × UInt8)} (h : RgS W ok A n c set) (q : Bool) (hq : (decide (0 < n) && set.all fun r => decide (r.1 ≤ r.2)) = q) :
    Calls Tryz.prog 124 #[.slice A n c] W fun e w' => e = .returned (.bool q) ∧ Below W.heap.size W w' := by
  have HC := hide (containsf84 149 #[] (fun r => decide (r.2 < r.1)) h run92 (fun W' r _ => rev92 r W') _ (set_ok set))
  have hnc := h.1
  have hcc := h.2.1
  clear h
  by_cases hn : 0 < n
  · have hn' : (0 : Int) < (n : Int) := by omega
    rw [decide_eq_true hn, Bool.true_and] at hq
    rw [hq] at HC
    clear hq
    go_enter Tryz.func124, Tryz.ntmps124
    go_wp2_with fail
    with_reducible refine HC.out.mono ?_
    rintro e w2 ⟨rfl, hb2⟩
    have B2 := hide hb2
    clear hb2
    go_wp2
    go_ret
    exact ⟨rfl, B2.out⟩
  · have hn' : ¬ (0 : Int) < (n : Int) := by omega
    rw [decide_eq_false hn, Bool.false_and] at hq
    have Hq := hide hq
    clear hq
    go_enter Tryz.func124, Tryz.ntmps124
    go_wp2_with fail
    go_ret
    exact ⟨ret_bool Hq.out, Below.refl _ _⟩
set_option maxRecDepth 20000 in
theorem bounds71 (a b : Int) (ha : -9223372036854775808 ≤ a ∧ a ≤ 9223372036854775807) (hb : -9223372036854775808 ≤ b ∧ b ≤ 9223372036854775807) (W : World) (q : Bool) (hq : boundsR a b = q) :
    Calls Tryz.prog 99 #[.int .i64 a, .int .i64 b] W fun e w' => e = .returned (.bool q) ∧ W = w' := by
  unfold boundsR at hq
  by_cases h1 : a < 0
  · have Hn := hide (show false = q by rw [← hq]; exact (decide_eq_false (by omega)).symm)
    clear hq
    go_enter Tryz.func99, Tryz.ntmps99
    go_wp2
    go_ret
    exact ⟨ret_bool Hn.out, rfl⟩
  · by_cases h2 : 8 < a
    · have Hn := hide (show false = q by rw [← hq]; exact (decide_eq_false (by omega)).symm)
      clear hq
      go_enter Tryz.func99, Tryz.ntmps99
      go_wp2
      go_ret
      exact ⟨ret_bool Hn.out, rfl⟩
    · by_cases h3 : b = -1
      · have e3 : (b == -1) = true := beq_iff_eq.2 h3
        have Hn := hide (show true = q by rw [← hq]; exact (decide_eq_true (by omega)).symm)
        clear hq h3
        go_enter Tryz.func99, Tryz.ntmps99
        go_wp2
        go_ret
        exact ⟨ret_bool Hn.out, rfl⟩
      · have e3 : (b == -1) = false := beq_eq_false_iff_ne.2 h3
        obtain ⟨m, hm⟩ : ∃ m, max a 1 = m := ⟨_, rfl⟩
        by_cases h4 : m ≤ b
        · by_cases h5 : b ≤ 8
          · have Hn := hide (show true = q by rw [← hq]; exact (decide_eq_true (by omega)).symm)
            clear hq h3
            go_enter Tryz.func99, Tryz.ntmps99
            go_wp2
            all_goals
              go_ret
              exact ⟨ret_bool Hn.out, rfl⟩
          · have Hn := hide (show false = q by rw [← hq]; exact (decide_eq_false (by omega)).symm)
            clear hq h3
            go_enter Tryz.func99, Tryz.ntmps99
            go_wp2
            all_goals
              go_ret
              exact ⟨ret_bool Hn.out, rfl⟩
        · have Hn := hide (show false = q by rw [← hq]; exact (decide_eq_false (by omega)).symm)
          clear hq h3
          go_enter Tryz.func99, Tryz.ntmps99
          go_wp2
          all_goals
            go_ret
            exact ⟨ret_bool Hn.out, rfl⟩
end Go.Proofs.YtlnbjdlooghpeaaGreatDoor
