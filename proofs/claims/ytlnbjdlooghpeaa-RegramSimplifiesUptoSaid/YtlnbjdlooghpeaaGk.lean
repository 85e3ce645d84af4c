/- Layer 9: K3, K4, K5. -/
import Derived.Test.YtlnbjdlooghpeaaBa
/-! ### K3 -/
namespace Go.Proofs.Ytlnbjdlooghpeaa
open Go.RowKit

theorem has_take {set : List (UInt8 × UInt8)} {k : Nat} {r : UInt8 × UInt8} (h : set[k]? = some r) (c : UInt8) : hasS (set.take (k + 1)) c = (hasS (set.take k) c || (decide (r.1 ≤ c) && decide (c ≤ r.2))) := by
  obtain ⟨h1, e⟩ := List.getElem?_eq_some_iff.1 h
  rw [List.take_succ_eq_append_getElem h1, has_app, e]
  simp [hasS]
theorem has_mem {set : List (UInt8 × UInt8)} {k : Nat} {r : UInt8 × UInt8} (h : set[k]? = some r) (c : UInt8) (h1 : r.1 ≤ c) (h2 : c ≤ r.2) : hasS set c = true := by
  unfold hasS
  rw [List.any_eq_true]
  exact ⟨r, List.mem_of_getElem? h, by simp [h1, h2]⟩
set_option maxRecDepth 20000 in
set_option maxHeartbeats 1600000 in
theorem has63 {W : World} {ok : Nat → Prop} {A : Option Addr} {n c : Nat} {set : List (UInt8 × UInt8)} (h : RgS W ok A n c set) (x : UInt8) (q : Bool) (hq : hasS set x = q) :
    Calls Try.prog 75 #[.slice A n c, .int .u8 (x.toNat : Int)] W fun e w' => e = .returned (.bool q) ∧ W = w' := by
  have hnc := h.1
  have hcc := h.2.1
  have Hlen := hide h.2.2.1
  have H := hide h
  have Hq := hide hq
  clear h hq
  go_enter Try.func75, Try.ntmps75
  go_wp2
  go_loop [5] (fun y => ∃ k : Nat, k ≤ n ∧ y = .int .i64 (k : Int) ∧ hasS (set.take k) x = false) (fun y => n - (intOf y).toNat)
  case atStart => exact ⟨0, Nat.zero_le _, rfl, rfl⟩
  case round =>
    obtain ⟨k, hk, rfl, hm⟩ := hrel
    by_cases hlt : k < n
    · obtain ⟨g, o, r, rfl, hr, c0, c1⟩ := H.out.at_ hlt
      have ht := has_take hr x
      rw [hm, Bool.false_or] at ht
      by_cases h1 : r.1 ≤ x
      · have l1 : (r.1.toNat : Int) ≤ (x.toNat : Int) := by have := UInt8.le_iff_toNat_le.1 h1; omega
        by_cases h2 : x ≤ r.2
        · have l2 : (x.toNat : Int) ≤ (r.2.toNat : Int) := by have := UInt8.le_iff_toNat_le.1 h2; omega
          have Hy := hide (show q = true by rw [← Hq.out]; exact has_mem hr x h1 h2)
          clear hm ht hr h1 h2
          go_wp2
          go_ret
          exact ⟨ret_bool Hy.out.symm, rfl⟩
        · have l2 : ¬ (x.toNat : Int) ≤ (r.2.toNat : Int) := by rw [UInt8.le_iff_toNat_le] at h2; omega
          have Hn := hide (show hasS (set.take (k + 1)) x = false by rw [ht]; simp [h2])
          clear hm ht hr h1 h2
          go_wp2
          go_round
          case rel => exact ⟨k + 1, by omega, by go_num, Hn.out⟩
          case measure => simp [intOf]; omega
      · have l1 : ¬ (r.1.toNat : Int) ≤ (x.toNat : Int) := by rw [UInt8.le_iff_toNat_le] at h1; omega
        have Hn := hide (show hasS (set.take (k + 1)) x = false by rw [ht]; simp [h1])
        clear hm ht hr h1
        go_wp2
        go_round
        case rel => exact ⟨k + 1, by omega, by go_num, Hn.out⟩
        case measure => simp [intOf]; omega
    · rw [List.take_of_length_le (by rw [Hlen.out]; omega)] at hm
      have Hn := hide (show q = false by rw [← Hq.out]; exact hm)
      clear hm
      go_wp2
      go_ret
      exact ⟨ret_bool Hn.out.symm, rfl⟩

/-! ### fields -/
theorem fields_no {k a b : Int} {s : List (UInt8 × UInt8)} {l : List Rx} (h : ¬ (1 ≤ k ∧ k ≤ 7) ∨ ¬ (k = 1 ↔ 0 < s.length) ∨ ¬ (∀ r ∈ s, r.1 ≤ r.2) ∨ ¬ (k = 4 ∨ (a = 0 ∧ b = 0))) : fieldsR (.mk k s a b l) = false := by
  cases hf : fieldsR (.mk k s a b l) with
  | false => rfl
  | true =>
    obtain ⟨h1, h2, h3, h4, _⟩ := fields_of hf
    rcases h with h | h | h | h
    · exact absurd h1 h
    · exact absurd (h2.trans List.length_pos_iff.symm) h
    · exact absurd h3 h
    · refine absurd ?_ h
      by_cases hk : k = 4
      · exact Or.inl hk
      · exact Or.inr (h4 hk)
theorem fields_yes {k a b : Int} {s : List (UInt8 × UInt8)} {l : List Rx} (h1 : 1 ≤ k ∧ k ≤ 7) (h2 : k = 1 ↔ 0 < s.length) (h3 : ∀ r ∈ s, r.1 ≤ r.2) (h4 : k = 4 ∨ (a = 0 ∧ b = 0)) :
    fieldsR (.mk k s a b l) = (if k = 4 then decide (l.length = 1) else if k = 3 then decide (2 ≤ l.length) else decide (k = 2) || decide (l.length = 0)) := by
  simp only [fieldsR]
  rw [decide_eq_true h1, List.all_eq_true.2 fun r hr => decide_eq_true (h3 r hr)]
  have e1 : (decide (k = 1) == decide (0 < s.length)) = true := by
    rw [beq_iff_eq]
    exact decide_eq_decide.2 h2
  have e2 : (decide (k = 4) || decide (a = 0 ∧ b = 0)) = true := by
    rcases h4 with h4 | h4
    · simp [h4]
    · simp [h4]
  rw [e1, e2]
  simp
theorem all_take {s : List (UInt8 × UInt8)} {k : Nat} {r : UInt8 × UInt8} (h : s[k]? = some r) (hm : ∀ x ∈ s.take k, x.1 ≤ x.2) (hr : r.1 ≤ r.2) : ∀ x ∈ s.take (k + 1), x.1 ≤ x.2 := by
  obtain ⟨h1, e⟩ := List.getElem?_eq_some_iff.1 h
  rw [List.take_succ_eq_append_getElem h1, e]
  intro x hx
  rw [List.mem_append, List.mem_singleton] at hx
  rcases hx with hx | rfl
  · exact hm x hx
  · exact hr

set_option maxRecDepth 100000 in
set_option maxHeartbeats 6400000 in
theorem fields69 {W : World} {ok : Nat → Prop} {v : Value} {r : Rx} (hv : RxV W ok v r) (q : Bool) (hq : fieldsR r = q) : Calls Try.prog 74 #[v] W fun e w' => e = .returned (.bool q) ∧ Below W.heap.size W w' := by
  cases hv with
  | mk k a b A B n c m d s vs l hset hvs hlen hk ha hb hr =>
  have hnc := hset.1
  have hcc := hset.2.1
  have hmd := hvs.1
  have hdd := hvs.2.1
  have hsl := hset.2.2.1
  have Hsl := hide hsl
  have hB := bnew (Below.refl _ W) (.cells #[.int .i64 k, .slice A n c, .int .i64 a, .int .i64 b, .slice B m d] 25)
  have S := hide (hset.below hB)
  have BB := hide hB
  have F := hide (five_new W (.int .i64 k) (.slice A n c) (.int .i64 a) (.int .i64 b) (.slice B m d) 25)
  have Hno := hide (show (¬ (1 ≤ k ∧ k ≤ 7) ∨ ¬ (k = 1 ↔ 0 < n) ∨ ¬ (∀ r ∈ s, r.1 ≤ r.2) ∨ ¬ (k = 4 ∨ (a = 0 ∧ b = 0))) → q = false from fun h => by rw [← hq]; exact fields_no (by rw [hsl]; exact h))
  have Hyes := hide (show (1 ≤ k ∧ k ≤ 7) → (k = 1 ↔ 0 < n) → (∀ r ∈ s, r.1 ≤ r.2) → (k = 4 ∨ (a = 0 ∧ b = 0)) → (if k = 4 then decide (m = 1) else if k = 3 then decide (2 ≤ m) else decide (k = 2) || decide (m = 0)) = q from
    fun h1 h2 h3 h4 => by rw [← hq, fields_yes h1 (by rw [hsl]; exact h2) h3 h4, hlen])
  clear hset hvs hr hB hq hsl hlen
  by_cases h1 : 1 ≤ k ∧ k ≤ 7
  · obtain ⟨h1a, h1b⟩ := h1
    by_cases h2 : k = 1 ↔ 0 < n
    · have q2 : (!((k == 1) == decide (0 < n))) = false := by
        have : (k == 1) = decide (0 < n) := by
          rw [Bool.eq_iff_iff, beq_iff_eq, decide_eq_true_eq, h2]
        rw [this]
        cases decide (0 < n) <;> rfl
      have H2 := hide h2
      clear h2
      go_enter Try.func74, Try.ntmps74
      go_wp2
      go_loopw [3] (fun x wr => ∃ i : Nat, i ≤ n ∧ x = .int .i64 (i : Int) ∧ (∀ r ∈ s.take i, r.1 ≤ r.2) ∧ Drawn (W.alloc (.cells #[.int .i64 k, .slice A n c, .int .i64 a, .int .i64 b, .slice B m d] 25)) wr) (fun x _ => n - (intOf x).toNat)
      case atStart => exact ⟨0, Nat.zero_le _, rfl, fun r hr => by simp at hr, Drawn.refl _⟩
      case round =>
        obtain ⟨i, hi, rfl, hm, hd⟩ := hrel
        have hbel := DrawnBel hd
        obtain ⟨_, t0, t1, t2, t3, t4⟩ := F.out.keep hbel
        have Hm := hide hm
        have Dr := hide hd
        have B3 := hide (bgo BB.out hbel)
        clear hm hd
        by_cases hlt : i < n
        · obtain ⟨g, o, r, rfl, hr, c0, c1⟩ := (S.out.below hbel).at_ hlt
          have hin : (i : Int) < (n : Int) := by omega
          by_cases hle : r.1 ≤ r.2
          · have l1 : decide (r.2.toNat < r.1.toNat) = false := decide_eq_false (by have := UInt8.le_iff_toNat_le.1 hle; omega)
            have l2 : decide (r.2 < r.1) = false := decide_eq_false (by rw [UInt8.lt_iff_toNat_lt]; have := UInt8.le_iff_toNat_le.1 hle; omega)
            have Hn := hide (all_take hr Hm.out hle)
            clear hr hle hbel
            go_wp2
            go_quiet (fail)
            go_wp2
            go_roundw
            case rel => exact ⟨i + 1, by omega, by go_num, Hn.out, Dr.out.more _⟩
            case measure => simp [intOf]; omega
          · have l1 : decide (r.2.toNat < r.1.toNat) = true := decide_eq_true (by rw [UInt8.le_iff_toNat_le] at hle; omega)
            have l2 : decide (r.2 < r.1) = true := decide_eq_true (by rw [UInt8.lt_iff_toNat_lt]; rw [UInt8.le_iff_toNat_le] at hle; omega)
            have Hn := hide (Hno.out (Or.inr (Or.inr (Or.inl fun h => hle (h r (List.mem_of_getElem? hr))))))
            clear hr hle hbel
            go_wp2
            go_quiet (fail)
            go_wp2
            go_ret
            exact ⟨ret_bool Hn.out.symm, bgo B3.out (Drawn.below ⟨_, rfl⟩ _)⟩
        · have hall := Hm.out
          rw [List.take_of_length_le (by rw [Hsl.out]; omega)] at hall
          have Hall := hide hall
          clear hall hbel
          by_cases h4 : k = 4
          · have y := Hyes.out ⟨h1a, h1b⟩ H2.out Hall.out (Or.inl h4)
            rw [if_pos h4] at y
            have Y := hide y
            have e4 : (k != 4) = false := int_eq h4
            have e4' : (k == 4) = true := by rw [h4]; rfl
            obtain ⟨z, hz⟩ : ∃ z, ((m : Int) == 1) = z := ⟨_, rfl⟩
            have Z := hide (show z = q by
              rw [← Y.out, ← hz]
              rw [Bool.eq_iff_iff, beq_iff_eq, decide_eq_true_eq]
              omega)
            clear y h4
            go_wp2
            go_ret
            exact ⟨ret_bool Z.out, B3.out⟩
          · have e4 : (k != 4) = true := int_ne h4
            have e4' : (k == 4) = false := beq_eq_false_iff_ne.2 h4
            by_cases ha0 : a = 0
            · have ea : (a != 0) = false := int_eq ha0
              by_cases hb0 : b = 0
              · have eb : (b != 0) = false := int_eq hb0
                have y := Hyes.out ⟨h1a, h1b⟩ H2.out Hall.out (Or.inr ⟨ha0, hb0⟩)
                rw [if_neg h4] at y
                by_cases h3 : k = 3
                · rw [if_pos h3] at y
                  have Y := hide y
                  have e3 : (k == 3) = true := by rw [h3]; rfl
                  have Z := hide (show decide ((2 : Int) ≤ (m : Int)) = q by
                    rw [← Y.out]
                    exact decide_eq_decide.2 (by omega))
                  clear y h4 ha0 hb0 h3
                  go_wp2
                  go_ret
                  exact ⟨ret_bool (by rw [← Z.out]), B3.out⟩
                · rw [if_neg h3] at y
                  have e3 : (k == 3) = false := beq_eq_false_iff_ne.2 h3
                  by_cases hk2 : k = 2
                  · have Y := hide (show true = q by rw [← y, hk2]; rfl)
                    have e2 : (k == 2) = true := by rw [hk2]; rfl
                    clear y h4 ha0 hb0 h3 hk2
                    go_wp2
                    go_ret
                    exact ⟨ret_bool Y.out, B3.out⟩
                  · have e2 : (k == 2) = false := beq_eq_false_iff_ne.2 hk2
                    obtain ⟨z, hz⟩ : ∃ z, ((m : Int) == 0) = z := ⟨_, rfl⟩
                    have Z := hide (show z = q by
                      rw [← y, ← hz, decide_eq_false hk2, Bool.false_or]
                      rw [Bool.eq_iff_iff, beq_iff_eq, decide_eq_true_eq]
                      omega)
                    clear y h4 ha0 hb0 h3 hk2
                    go_wp2
                    go_ret
                    exact ⟨ret_bool Z.out, B3.out⟩
              · have eb : (b != 0) = true := int_ne hb0
                have Hn := hide (Hno.out (Or.inr (Or.inr (Or.inr fun h => by
                  rcases h with h | h
                  · exact h4 h
                  · exact hb0 h.2))))
                clear h4 ha0 hb0
                go_wp2
                go_ret
                exact ⟨ret_bool Hn.out.symm, B3.out⟩
            · have ea : (a != 0) = true := int_ne ha0
              have Hn := hide (Hno.out (Or.inr (Or.inr (Or.inr fun h => by
                rcases h with h | h
                · exact h4 h
                · exact ha0 h.1))))
              clear h4 ha0
              go_wp2
              go_ret
              exact ⟨ret_bool Hn.out.symm, B3.out⟩
    · have q2 : (!((k == 1) == decide (0 < n))) = true := by
        have e : ¬ (k == 1) = decide (0 < n) := fun e => h2 (by
          rw [Bool.eq_iff_iff, beq_iff_eq, decide_eq_true_eq] at e
          exact e)
        cases h1 : (k == 1) <;> cases h2 : decide (0 < n) <;> first | rfl | (exact absurd (by rw [h1, h2]) e)
      have Hn := hide (Hno.out (Or.inr (Or.inl h2)))
      clear h2
      go_enter Try.func74, Try.ntmps74
      go_wp2
      go_ret
      exact ⟨ret_bool Hn.out.symm, BB.out⟩
  · have Hn := hide (Hno.out (Or.inl h1))
    by_cases h1a : k < 1
    · clear h1
      go_enter Try.func74, Try.ntmps74
      go_wp2
      go_ret
      exact ⟨ret_bool Hn.out.symm, BB.out⟩
    · have h1b : 7 < k := by omega
      clear h1
      go_enter Try.func74, Try.ntmps74
      go_wp2
      go_ret
      exact ⟨ret_bool Hn.out.symm, BB.out⟩

end Go.Proofs.Ytlnbjdlooghpeaa
/-! ### K4 -/
namespace Go.Proofs.Ytlnbjdlooghpeaa
open Go.RowKit

theorem rx_take {l : List Rx} {i : Nat} {x : Rx} (h : l[i]? = some x) : l.take (i + 1) = l.take i ++ [x] := by
  obtain ⟨h1, e⟩ := List.getElem?_eq_some_iff.1 h
  rw [List.take_succ_eq_append_getElem h1, e]
theorem nodeL_all : ∀ {l : List Rx}, (∀ x ∈ l, nodeR x = 0) → nodeL l = 0
  | [], _ => rfl
  | x :: l, h => by unfold nodeL; rw [if_pos (h x (by simp))]; exact nodeL_all fun y hy => h y (by simp [hy])
theorem nodeL_at : ∀ {l : List Rx} {i : Nat} {x : Rx}, l[i]? = some x → (∀ y ∈ l.take i, nodeR y = 0) → nodeR x ≠ 0 → nodeL l = nodeR x
  | [], i, x, h, _, _ => by simp at h
  | y :: l, 0, x, h, _, hx => by
    simp at h
    subst h
    unfold nodeL
    rw [if_neg hx]
  | y :: l, i + 1, x, h, hm, hx => by
    simp at h
    unfold nodeL
    rw [if_pos (hm y (by simp))]
    exact nodeL_at h (fun z hz => hm z (by simp [hz])) hx
theorem sizeL_app (a : List Rx) (x : Rx) : sizeL (a ++ [x]) = sizeL a + sizeR x := by
  induction a with
  | nil => simp [sizeL]
  | cons y a ih => simp only [List.cons_append, sizeL]; rw [ih]; omega
theorem depthL_app (a : List Rx) (x : Rx) : depthL (a ++ [x]) = max (depthL a) (depthR x) := by
  induction a with
  | nil => simp [depthL]
  | cons y a ih => simp only [List.cons_append, depthL]; rw [ih]; omega
theorem sizeL_mem {l : List Rx} {x : Rx} (h : x ∈ l) : sizeR x ≤ sizeL l := by
  induction l with
  | nil => simp at h
  | cons y l ih =>
    unfold sizeL
    rcases List.mem_cons.1 h with rfl | h
    · omega
    · have := ih h; omega
theorem sizeL_take (l : List Rx) (i : Nat) : sizeL (l.take i) ≤ sizeL l := by
  induction l generalizing i with
  | nil => simp [sizeL]
  | cons y l ih =>
    cases i with
    | zero => simp [sizeL]
    | succ i => simp only [List.take_succ_cons, sizeL]; have := ih i; omega
theorem depthL_mem {l : List Rx} {x : Rx} (h : x ∈ l) : depthR x ≤ depthL l := by
  induction l with
  | nil => simp at h
  | cons y l ih =>
    unfold depthL
    rcases List.mem_cons.1 h with rfl | h
    · omega
    · have := ih h; omega
theorem depthL_take (l : List Rx) (i : Nat) : depthL (l.take i) ≤ depthL l := by
  induction l generalizing i with
  | nil => simp [depthL]
  | cons y l ih =>
    cases i with
    | zero => simp [depthL]
    | succ i => simp only [List.take_succ_cons, depthL]; have := ih i; omega
theorem node_range (r : Rx) : nodeR r = 0 ∨ nodeR r = 1 ∨ nodeR r = 2 := by
  induction r using Rx.ind with
  | h k s a b l ih =>
    have : ∀ m : List Rx, (∀ x ∈ m, nodeR x = 0 ∨ nodeR x = 1 ∨ nodeR x = 2) → nodeL m = 0 ∨ nodeL m = 1 ∨ nodeL m = 2 := by
      intro m
      induction m with
      | nil => intro _; exact Or.inl rfl
      | cons x m ihm =>
        intro h
        unfold nodeL
        split
        · exact ihm fun y hy => h y (by simp [hy])
        · exact h x (by simp)
    unfold nodeR
    split
    · exact Or.inr (Or.inl rfl)
    · split
      · exact Or.inr (Or.inr rfl)
      · exact this l ih

set_option maxRecDepth 100000 in
set_option maxHeartbeats 6400000 in
theorem size41 : ∀ (r : Rx) (W : World) (ok : Nat → Prop) (v : Value), RxV W ok v r → sizeR r ≤ 1000000 → Calls Try.prog 52 #[v] W fun e w' => e = .returned (.int .i64 (sizeR r : Nat)) ∧ Below W.heap.size W w' := by
  intro r
  induction r using Rx.ind with
  | h k s a b l ih =>
    intro W ok v hv hsz
    cases hv with
    | mk _ _ _ A B n c m d _ vs _ hset hvs hlen hk ha hb hr =>
    have hmd := hvs.1
    have hdd := hvs.2.1
    have Hvs := hide hvs
    have Hlen := hide hlen
    have Hr := hide hr
    have hB := bnew (Below.refl _ W) (.cells #[.int .i64 k, .slice A n c, .int .i64 a, .int .i64 b, .slice B m d] 25)
    have BB := hide hB
    have F := hide (five_new W (.int .i64 k) (.slice A n c) (.int .i64 a) (.int .i64 b) (.slice B m d) 25)
    have hl : sizeL l ≤ 1000000 := by unfold sizeR at hsz; omega
    have Hres := hide (show sizeR (.mk k s a b l) = 1 + sizeL l from rfl)
    have hml : m ≤ 1000000 := by
      have : ∀ l : List Rx, l.length ≤ sizeL l := by
        intro l
        induction l with
        | nil => simp
        | cons x l ih => simp only [sizeL, List.length_cons]; have : 1 ≤ sizeR x := (by cases x; unfold sizeR; omega); omega
      have := this l
      omega
    clear hset hvs hr hB hlen hsz
    go_enter Try.func52, Try.ntmps52
    go_wp2
    go_loopw [3, 4] (fun y x wr => ∃ (i z : Nat), i ≤ m ∧ x = .int .i64 (i : Int) ∧ y = .int .i64 (z : Int) ∧ z = 1 + sizeL (l.take i) ∧ Below (W.alloc (.cells #[.int .i64 k, .slice A n c, .int .i64 a, .int .i64 b, .slice B m d] 25)).heap.size (W.alloc (.cells #[.int .i64 k, .slice A n c, .int .i64 a, .int .i64 b, .slice B m d] 25)) wr) (fun _ x _ => m - (intOf x).toNat)
    case atStart => exact ⟨0, 1, Nat.zero_le _, rfl, rfl, rfl, Below.refl _ _⟩
    case round =>
      obtain ⟨i, z, hi, rfl, rfl, hz, hbel⟩ := hrel
      obtain ⟨w3, hw3⟩ : ∃ w3, w3 = wr := ⟨wr, rfl⟩
      subst hw3
      obtain ⟨_, t0, t1, t2, t3, t4⟩ := F.out.keep hbel
      have B3 := hide hbel
      have B4 := hide (bgo BB.out hbel)
      have htk := sizeL_take l i
      have hzb : z ≤ 1000001 := by omega
      have Hz := hide hz
      clear hz htk
      by_cases hlt : i < m
      · obtain ⟨g, o, c0, c1, c2, c3, c4, rfl, hx, x0, x1, x2, x3, x4⟩ := (Hvs.out.below B4.out).at_ hlt
        have hil : i < l.length := by rw [Hlen.out]; exact hlt
        have hxl := List.getElem?_eq_getElem hil
        have rx := Hr.out i _ _ hx hxl
        obtain ⟨x, hxe⟩ : ∃ x, l[i] = x := ⟨_, rfl⟩
        rw [hxe] at hxl rx
        have hmem : x ∈ l := List.mem_of_getElem? hxl
        have hxs := sizeL_mem hmem
        obtain ⟨y, hy⟩ : ∃ y, sizeR x = y := ⟨_, rfl⟩
        have HC := hide (ih x hmem w3 ok _ (rx.kept B4.out) (by omega))
        rw [hy] at HC
        have hyb : y ≤ 1000000 := by omega
        have Hn := hide (show z + y = 1 + sizeL (l.take (i + 1)) by rw [rx_take hxl, sizeL_app, hy, Hz.out]; omega)
        clear hx hxl rx hxe hmem hxs hy hbel
        go_wp2_with fail
        with_reducible refine HC.out.mono ?_
        rintro e w4 ⟨rfl, hb4⟩
        have B6 := hide (B3.out.trans (hb4.mono B3.out.size))
        clear hb4
        go_wp2
        go_roundw
        case rel => exact ⟨i + 1, z + y, by omega, by go_num, by go_num, Hn.out, B6.out⟩
        case measure => simp [intOf]; omega
      · have hall := Hz.out
        rw [List.take_of_length_le (by rw [Hlen.out]; omega)] at hall
        have Hn := hide (show (z : Int) = ((sizeR (.mk k s a b l) : Nat) : Int) by rw [Hres.out, hall])
        clear hall hbel
        go_wp2
        go_ret
        exact ⟨ret_int Hn.out, B4.out⟩

set_option maxRecDepth 100000 in
set_option maxHeartbeats 6400000 in
theorem depth42 : ∀ (r : Rx) (W : World) (ok : Nat → Prop) (v : Value), RxV W ok v r → depthR r ≤ 1000000 → Calls Try.prog 53 #[v] W fun e w' => e = .returned (.int .i64 (depthR r : Nat)) ∧ Below W.heap.size W w' := by
  intro r
  induction r using Rx.ind with
  | h k s a b l ih =>
    intro W ok v hv hsz
    cases hv with
    | mk _ _ _ A B n c m d _ vs _ hset hvs hlen hk ha hb hr =>
    have hmd := hvs.1
    have hdd := hvs.2.1
    have Hvs := hide hvs
    have Hlen := hide hlen
    have Hr := hide hr
    have hB := bnew (Below.refl _ W) (.cells #[.int .i64 k, .slice A n c, .int .i64 a, .int .i64 b, .slice B m d] 25)
    have BB := hide hB
    have F := hide (five_new W (.int .i64 k) (.slice A n c) (.int .i64 a) (.int .i64 b) (.slice B m d) 25)
    have hl : depthL l ≤ 1000000 := by unfold depthR at hsz; omega
    have Hres := hide (show depthR (.mk k s a b l) = depthL l + 1 from rfl)
    clear hset hvs hr hB hlen hsz
    go_enter Try.func53, Try.ntmps53
    go_wp2
    go_loopw [3, 4] (fun y x wr => ∃ (i z : Nat), i ≤ m ∧ x = .int .i64 (i : Int) ∧ y = .int .i64 (z : Int) ∧ z = depthL (l.take i) ∧ Below (W.alloc (.cells #[.int .i64 k, .slice A n c, .int .i64 a, .int .i64 b, .slice B m d] 25)).heap.size (W.alloc (.cells #[.int .i64 k, .slice A n c, .int .i64 a, .int .i64 b, .slice B m d] 25)) wr) (fun _ x _ => m - (intOf x).toNat)
    case atStart => exact ⟨0, 0, Nat.zero_le _, rfl, rfl, rfl, Below.refl _ _⟩
    case round =>
      obtain ⟨i, z, hi, rfl, rfl, hz, hbel⟩ := hrel
      obtain ⟨w3, hw3⟩ : ∃ w3, w3 = wr := ⟨wr, rfl⟩
      subst hw3
      obtain ⟨_, t0, t1, t2, t3, t4⟩ := F.out.keep hbel
      have B3 := hide hbel
      have B4 := hide (bgo BB.out hbel)
      have htk := depthL_take l i
      have hzb : z ≤ 1000001 := by omega
      have Hz := hide hz
      clear hz htk
      by_cases hlt : i < m
      · obtain ⟨g, o, c0, c1, c2, c3, c4, rfl, hx, x0, x1, x2, x3, x4⟩ := (Hvs.out.below B4.out).at_ hlt
        have hil : i < l.length := by rw [Hlen.out]; exact hlt
        have hxl := List.getElem?_eq_getElem hil
        have rx := Hr.out i _ _ hx hxl
        obtain ⟨x, hxe⟩ : ∃ x, l[i] = x := ⟨_, rfl⟩
        rw [hxe] at hxl rx
        have hmem : x ∈ l := List.mem_of_getElem? hxl
        have hxs := depthL_mem hmem
        obtain ⟨y, hy⟩ : ∃ y, depthR x = y := ⟨_, rfl⟩
        have HC := hide (ih x hmem w3 ok _ (rx.kept B4.out) (by omega))
        rw [hy] at HC
        have hyb : y ≤ 1000000 := by omega
        have Hn := hide (show max z y = depthL (l.take (i + 1)) by rw [rx_take hxl, depthL_app, hy, Hz.out])
        clear hx hxl rx hxe hmem hxs hy hbel
        by_cases hgt : z < y
        · have Hn2 := hide (show y = depthL (l.take (i + 1)) by rw [← Hn.out]; omega)
          go_wp2_with fail
          with_reducible refine HC.out.mono ?_
          rintro e w4 ⟨rfl, hb4⟩
          have B6 := hide (B3.out.trans (hb4.mono B3.out.size))
          clear hb4
          go_wp2
          go_roundw
          case rel => exact ⟨i + 1, y, by omega, by go_num, rfl, Hn2.out, B6.out⟩
          case measure => simp [intOf]; omega
        · have Hn2 := hide (show z = depthL (l.take (i + 1)) by rw [← Hn.out]; omega)
          go_wp2_with fail
          with_reducible refine HC.out.mono ?_
          rintro e w4 ⟨rfl, hb4⟩
          have B6 := hide (B3.out.trans (hb4.mono B3.out.size))
          clear hb4
          go_wp2
          go_roundw
          case rel => exact ⟨i + 1, z, by omega, by go_num, rfl, Hn2.out, B6.out⟩
          case measure => simp [intOf]; omega
      · have hall := Hz.out
        rw [List.take_of_length_le (by rw [Hlen.out]; omega)] at hall
        have Hn := hide (show (z : Int) + 1 = ((depthR (.mk k s a b l) : Nat) : Int) by rw [Hres.out, hall]; omega)
        clear hall hbel
        go_wp2
        go_ret
        exact ⟨ret_int Hn.out, B4.out⟩

end Go.Proofs.Ytlnbjdlooghpeaa
/-! ### K5 -/
namespace Go.Proofs.Ytlnbjdlooghpeaa
open Go.RowKit

theorem node_fields {k a b : Int} {s : List (UInt8 × UInt8)} {l : List Rx} (h : fieldsR (.mk k s a b l) = false) : nodeR (.mk k s a b l) = 1 := by unfold nodeR; rw [if_pos h]
theorem node_bounds {k a b : Int} {s : List (UInt8 × UInt8)} {l : List Rx} (h : fieldsR (.mk k s a b l) = true) (hk : k = 4) (hb : boundsR a b = false) : nodeR (.mk k s a b l) = 2 := by unfold nodeR; rw [if_neg (by rw [h]; simp), if_pos ⟨hk, hb⟩]
theorem node_subs {k a b : Int} {s : List (UInt8 × UInt8)} {l : List Rx} (h : fieldsR (.mk k s a b l) = true) (hb : ¬ (k = 4 ∧ boundsR a b = false)) : nodeR (.mk k s a b l) = nodeL l := by unfold nodeR; rw [if_neg (by rw [h]; simp), if_neg hb]

set_option maxRecDepth 100000 in
set_option maxHeartbeats 12800000 in
theorem node40 : ∀ (r : Rx) (W : World) (ok : Nat → Prop) (v : Value), RxV W ok v r → Calls Try.prog 51 #[v] W fun e w' => e = .returned (.int .i64 (nodeR r)) ∧ Below W.heap.size W w' := by
  intro r
  induction r using Rx.ind with
  | h k s a b l ih =>
    intro W ok v hv
    have hv0 := hv
    cases hv with
    | mk _ _ _ A B n c m d _ vs _ hset hvs hlen hk ha hb hr =>
    have hmd := hvs.1
    have hdd := hvs.2.1
    have Hvs := hide hvs
    have Hlen := hide hlen
    have Hr := hide hr
    have hB := bnew (Below.refl _ W) (.cells #[.int .i64 k, .slice A n c, .int .i64 a, .int .i64 b, .slice B m d] 25)
    have BB := hide hB
    have F := hide (five_new W (.int .i64 k) (.slice A n c) (.int .i64 a) (.int .i64 b) (.slice B m d) 25)
    have V := hide (hv0.kept hB)
    clear hset hvs hr hB hlen hv0
    cases hf : fieldsR (.mk k s a b l) with
    | false =>
      have Hn := hide (node_fields hf)
      have Hf := hide hf
      clear hf
      go_enter Try.func51, Try.ntmps51
      go_wp2_with fail
      with_reducible refine (fields69 V.out false Hf.out).mono ?_
      rintro e w2 ⟨rfl, hb2⟩
      have B2 := hide (bgo BB.out hb2)
      clear hb2 V F
      go_wp2
      go_ret
      exact ⟨ret_int Hn.out.symm, B2.out⟩
    | true =>
      have Hf := hide hf
      by_cases hbad : k = 4 ∧ boundsR a b = false
      · have Hn := hide (node_bounds hf hbad.1 hbad.2)
        have e4 : (k == 4) = true := by rw [hbad.1]; rfl
        have hbb := hbad.2
        unfold boundsR at hbb
        rw [decide_eq_false_iff_not] at hbb
        have hcase : (a < 0 ∨ 8 < a) ∨ (0 ≤ a ∧ a ≤ 8 ∧ b ≠ -1 ∧ b < 1) ∨ (0 ≤ a ∧ a ≤ 8 ∧ b ≠ -1 ∧ 1 ≤ b ∧ 8 < b) ∨ (0 ≤ a ∧ a ≤ 8 ∧ b ≠ -1 ∧ 1 ≤ b ∧ b ≤ 8 ∧ b < a) := by omega
        have hcase2 : (a < 0) ∨ (¬ a < 0 ∧ 8 < a) ∨ (¬ a < 0 ∧ ¬ 8 < a ∧ (b != -1) = true ∧ b < 1) ∨ (¬ a < 0 ∧ ¬ 8 < a ∧ (b != -1) = true ∧ ¬ b < 1 ∧ 8 < b) ∨ (¬ a < 0 ∧ ¬ 8 < a ∧ (b != -1) = true ∧ ¬ b < 1 ∧ ¬ 8 < b ∧ b < a) := by
          rcases hcase with (h | h) | ⟨h1, h2, h3, h4⟩ | ⟨h1, h2, h3, h4, h5⟩ | ⟨h1, h2, h3, h4, h5, h6⟩
          · exact Or.inl h
          · exact Or.inr (Or.inl ⟨by omega, h⟩)
          · exact Or.inr (Or.inr (Or.inl ⟨by omega, by omega, int_ne h3, h4⟩))
          · exact Or.inr (Or.inr (Or.inr (Or.inl ⟨by omega, by omega, int_ne h3, by omega, h5⟩)))
          · exact Or.inr (Or.inr (Or.inr (Or.inr ⟨by omega, by omega, int_ne h3, by omega, by omega, h6⟩)))
        clear hf hbad hbb hcase
        go_enter Try.func51, Try.ntmps51
        go_wp2_with fail
        with_reducible refine (fields69 V.out true Hf.out).mono ?_
        rintro e w2 ⟨rfl, hb2⟩
        have B2 := hide (bgo BB.out hb2)
        obtain ⟨_, t0, t1, t2, t3, t4⟩ := F.out.keep hb2
        clear hb2 V F
        rcases hcase2 with h | ⟨h1, h⟩ | ⟨h1, h2, h3, h⟩ | ⟨h1, h2, h3, h4, h⟩ | ⟨h1, h2, h3, h4, h5, h⟩
        all_goals
          go_wp2
          go_ret
          exact ⟨ret_int Hn.out.symm, B2.out⟩
      · have hnode := node_subs hf hbad
        have Hnode := hide hnode
        have hcase : ((k == 4) = false) ∨ ((k == 4) = true ∧ ¬ a < 0 ∧ ¬ 8 < a ∧ (b != -1) = false) ∨ ((k == 4) = true ∧ ¬ a < 0 ∧ ¬ 8 < a ∧ (b != -1) = true ∧ ¬ b < 1 ∧ ¬ 8 < b ∧ ¬ b < a) := by
          by_cases hk4 : k = 4
          · have hb1 : boundsR a b = true := by
              cases h : boundsR a b with
              | true => rfl
              | false => exact absurd ⟨hk4, h⟩ hbad
            unfold boundsR at hb1
            rw [decide_eq_true_eq] at hb1
            obtain ⟨h1, h2, h3⟩ := hb1
            have e4 : (k == 4) = true := by rw [hk4]; rfl
            by_cases hb' : b = -1
            · exact Or.inr (Or.inl ⟨e4, by omega, by omega, int_eq hb'⟩)
            · exact Or.inr (Or.inr ⟨e4, by omega, by omega, int_ne hb', by omega, by omega, by omega⟩)
          · exact Or.inl (beq_eq_false_iff_ne.2 hk4)
        clear hf hbad hnode
        go_enter Try.func51, Try.ntmps51
        go_wp2_with fail
        with_reducible refine (fields69 V.out true Hf.out).mono ?_
        rintro e w2 ⟨rfl, hb2⟩
        have B2 := hide (bgo BB.out hb2)
        have G := hide (F.out.keep hb2)
        obtain ⟨_, t0, t1, t2, t3, t4⟩ := F.out.keep hb2
        clear hb2 V F
        rcases hcase with h | ⟨h1, h2, h3, h4⟩ | ⟨h1, h2, h3, h4, h5, h6, h7⟩
        all_goals
          go_wp2
          clear t0 t1 t2 t3 t4
          go_loopw [3] (fun x wr => ∃ i : Nat, i ≤ m ∧ x = .int .i64 (i : Int) ∧ (∀ y ∈ l.take i, nodeR y = 0) ∧ Below w2.heap.size w2 wr) (fun x _ => m - (intOf x).toNat)
          case atStart => exact ⟨0, Nat.zero_le _, rfl, fun y hy => (by simp at hy), Below.refl _ _⟩
          case round =>
            obtain ⟨i, hi, rfl, hm, hbel⟩ := hrel
            obtain ⟨w3, hw3⟩ : ∃ w3, w3 = wr := ⟨wr, rfl⟩
            subst hw3
            obtain ⟨_, t0, t1, t2, t3, t4⟩ := G.out.keep hbel
            have Hm := hide hm
            have B3 := hide hbel
            have B4 := hide (bgo B2.out hbel)
            clear hm
            by_cases hlt : i < m
            · obtain ⟨g, o, c0, c1, c2, c3, c4, rfl, hx, x0, x1, x2, x3, x4⟩ := (Hvs.out.below B4.out).at_ hlt
              have hil : i < l.length := by rw [Hlen.out]; exact hlt
              have hxl := List.getElem?_eq_getElem hil
              have rx := Hr.out i _ _ hx hxl
              obtain ⟨x, hxe⟩ : ∃ x, l[i] = x := ⟨_, rfl⟩
              rw [hxe] at hxl rx
              have hmem : x ∈ l := List.mem_of_getElem? hxl
              obtain ⟨y, hy⟩ : ∃ y, nodeR x = y := ⟨_, rfl⟩
              have HC := hide (ih x hmem w3 ok _ (rx.kept B4.out))
              rw [hy] at HC
              by_cases hy0 : y = 0
              · have hq : (y != 0) = false := int_eq hy0
                have Hn := hide (show ∀ z ∈ l.take (i + 1), nodeR z = 0 from fun z hz => by
                  rw [rx_take hxl, List.mem_append, List.mem_singleton] at hz
                  rcases hz with hz | rfl
                  · exact Hm.out z hz
                  · rw [hy, hy0])
                clear hx hxl rx hxe hmem hy hy0 hbel
                go_wp2_with fail
                with_reducible refine HC.out.mono ?_
                rintro e w4 ⟨rfl, hb4⟩
                have B6 := hide (B3.out.trans (hb4.mono B3.out.size))
                clear hb4
                go_wp2
                go_roundw
                case rel => exact ⟨i + 1, by omega, by go_num, Hn.out, B6.out⟩
                case measure => simp [intOf]; omega
              · have hq : (y != 0) = true := int_ne hy0
                have Hn := hide (show nodeR (.mk k s a b l) = y by rw [Hnode.out, ← hy]; exact nodeL_at hxl Hm.out (by rw [hy]; exact hy0))
                clear hx hxl rx hxe hmem hy hy0 hbel
                go_wp2_with fail
                with_reducible refine HC.out.mono ?_
                rintro e w4 ⟨rfl, hb4⟩
                have B6 := hide (bgo B4.out hb4)
                clear hb4
                go_wp2
                go_ret
                exact ⟨ret_int Hn.out.symm, B6.out⟩
            · have hall := Hm.out
              rw [List.take_of_length_le (by rw [Hlen.out]; omega)] at hall
              have Hn := hide (show nodeR (.mk k s a b l) = 0 by rw [Hnode.out]; exact nodeL_all hall)
              clear hall hbel
              go_wp2
              go_ret
              exact ⟨ret_int Hn.out.symm, B4.out⟩

set_option maxRecDepth 100000 in
set_option maxHeartbeats 6400000 in
theorem rright24 {W : World} {ok : Nat → Prop} {v : Value} {r : Rx} (hv : RxV W ok v r) (hs : sizeR r ≤ 1000000) (hd : depthR r ≤ 1000000) : Calls Try.prog 29 #[v] W fun e w' => e = .returned (.int .i64 (rightR r)) ∧ Below W.heap.size W w' := by
  have hv0 := hv
  cases hv with
  | mk k a b A B n c m d s vs l hset hvs hlen hk ha hb hr =>
  have hB := bnew (Below.refl _ W) (.cells #[.int .i64 k, .slice A n c, .int .i64 a, .int .i64 b, .slice B m d] 25)
  have BB := hide hB
  have F := hide (five_new W (.int .i64 k) (.slice A n c) (.int .i64 a) (.int .i64 b) (.slice B m d) 25)
  have V := hide (hv0.kept hB)
  obtain ⟨r, hr'⟩ : ∃ r, Rx.mk k s a b l = r := ⟨_, rfl⟩
  rw [hr'] at hv0 V hs hd ⊢
  have Hs := hide hs
  have Hd := hide hd
  clear hset hvs hr hB hlen hv0 hr' hk ha hb
  obtain ⟨y, hy⟩ : ∃ y, nodeR r = y := ⟨_, rfl⟩
  obtain ⟨p, hp⟩ : ∃ p, sizeR r = p := ⟨_, rfl⟩
  obtain ⟨q, hq⟩ : ∃ q, depthR r = q := ⟨_, rfl⟩
  have hrr : rightR r = if y = 0 then (if 40 < p ∨ 12 < q then 4 else 0) else y := by unfold rightR; rw [hy, hp, hq]
  have Hy := hide hy
  have Hp := hide hp
  have Hq := hide hq
  rw [hp] at hs
  rw [hq] at hd
  clear hy hp hq
  by_cases hy0 : y = 0
  · have hq0 : (y != 0) = false := int_eq hy0
    rw [if_pos hy0] at hrr
    clear hy0
    by_cases h40 : 40 < p
    · have Hn := hide (show rightR r = 4 by rw [hrr, if_pos (Or.inl h40)])
      clear hrr
      go_enter Try.func29, Try.ntmps29
      go_wp2_with fail
      with_reducible refine (node40 r _ ok _ V.out).mono ?_
      rw [Hy.out]
      rintro e w2 ⟨rfl, hb2⟩
      have B2 := hide (bgo BB.out hb2)
      have V2 := hide (V.out.kept hb2)
      obtain ⟨_, t0, t1, t2, t3, t4⟩ := F.out.keep hb2
      clear hb2 V F
      go_wp2_with fail
      with_reducible refine (size41 r _ ok _ V2.out Hs.out).mono ?_
      rw [Hp.out]
      rintro e w3 ⟨rfl, hb3⟩
      have B3 := hide (bgo B2.out hb3)
      clear hb3
      go_wp2
      go_ret
      exact ⟨ret_int Hn.out.symm, B3.out⟩
    · by_cases h12 : 12 < q
      · have Hn := hide (show rightR r = 4 by rw [hrr, if_pos (Or.inr h12)])
        clear hrr
        go_enter Try.func29, Try.ntmps29
        go_wp2_with fail
        with_reducible refine (node40 r _ ok _ V.out).mono ?_
        rw [Hy.out]
        rintro e w2 ⟨rfl, hb2⟩
        have B2 := hide (bgo BB.out hb2)
        have V2 := hide (V.out.kept hb2)
        have F2 := hide (F.out.keep hb2)
        obtain ⟨_, t0, t1, t2, t3, t4⟩ := F.out.keep hb2
        clear hb2 V F
        go_wp2_with fail
        with_reducible refine (size41 r _ ok _ V2.out Hs.out).mono ?_
        rw [Hp.out]
        rintro e w3 ⟨rfl, hb3⟩
        have B3 := hide (bgo B2.out hb3)
        have V3 := hide (V2.out.kept hb3)
        obtain ⟨_, y0, y1, y2, y3, y4⟩ := F2.out.keep hb3
        clear hb3 V2 F2 t0 t1 t2 t3 t4
        go_wp2_with fail
        with_reducible refine (depth42 r _ ok _ V3.out Hd.out).mono ?_
        rw [Hq.out]
        rintro e w4 ⟨rfl, hb4⟩
        have B4 := hide (bgo B3.out hb4)
        clear hb4
        go_wp2
        go_ret
        exact ⟨ret_int Hn.out.symm, B4.out⟩
      · have Hn := hide (show rightR r = 0 by rw [hrr, if_neg (by omega)])
        clear hrr
        go_enter Try.func29, Try.ntmps29
        go_wp2_with fail
        with_reducible refine (node40 r _ ok _ V.out).mono ?_
        rw [Hy.out]
        rintro e w2 ⟨rfl, hb2⟩
        have B2 := hide (bgo BB.out hb2)
        have V2 := hide (V.out.kept hb2)
        have F2 := hide (F.out.keep hb2)
        obtain ⟨_, t0, t1, t2, t3, t4⟩ := F.out.keep hb2
        clear hb2 V F
        go_wp2_with fail
        with_reducible refine (size41 r _ ok _ V2.out Hs.out).mono ?_
        rw [Hp.out]
        rintro e w3 ⟨rfl, hb3⟩
        have B3 := hide (bgo B2.out hb3)
        have V3 := hide (V2.out.kept hb3)
        obtain ⟨_, y0, y1, y2, y3, y4⟩ := F2.out.keep hb3
        clear hb3 V2 F2 t0 t1 t2 t3 t4
        go_wp2_with fail
        with_reducible refine (depth42 r _ ok _ V3.out Hd.out).mono ?_
        rw [Hq.out]
        rintro e w4 ⟨rfl, hb4⟩
        have B4 := hide (bgo B3.out hb4)
        clear hb4
        go_wp2
        go_ret
        exact ⟨ret_int Hn.out.symm, B4.out⟩
  · have hq0 : (y != 0) = true := int_ne hy0
    rw [if_neg hy0] at hrr
    have Hn := hide hrr
    clear hrr hy0
    go_enter Try.func29, Try.ntmps29
    go_wp2_with fail
    with_reducible refine (node40 r _ ok _ V.out).mono ?_
    rw [Hy.out]
    rintro e w2 ⟨rfl, hb2⟩
    have B2 := hide (bgo BB.out hb2)
    clear hb2 V F
    go_wp2
    go_ret
    exact ⟨ret_int Hn.out.symm, B2.out⟩

end Go.Proofs.Ytlnbjdlooghpeaa
