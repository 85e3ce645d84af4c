/- Layer 9: C1, C2, C3, C4. -/
import Derived.Test.YtkghbhcjgogaeaaDoorGo
import Derived.Test.YtkghbhcjgogaeaaDoorN1
import Derived.Laws.Tables
import Derived.Test.YtkghbhcjgogaeaaDoorGt
/-! ### C1 -/
namespace Go.Proofs.YtkghbhcjgogaeaaDoor
open Go.RowKit

theorem word_val (c : UInt8) : wordC c = ((decide (97 ≤ (c.toNat : Int)) && decide ((c.toNat : Int) ≤ 122)) || (decide (65 ≤ (c.toNat : Int)) && decide ((c.toNat : Int) ≤ 90)) || (decide (48 ≤ (c.toNat : Int)) && decide ((c.toNat : Int) ≤ 57)) || decide ((c.toNat : Int) = 95)) := by
  have e1 : ∀ n : UInt8, (decide (n ≤ c)) = decide ((n.toNat : Int) ≤ (c.toNat : Int)) := fun n => by rw [Bool.eq_iff_iff]; simp [UInt8.le_iff_toNat_le]
  have e2 : ∀ n : UInt8, (decide (c ≤ n)) = decide ((c.toNat : Int) ≤ (n.toNat : Int)) := fun n => by rw [Bool.eq_iff_iff]; simp [UInt8.le_iff_toNat_le]
  have e3 : (decide (c = 95)) = decide ((c.toNat : Int) = 95) := by rw [Bool.eq_iff_iff]; simp [← UInt8.toNat_inj]; omega
  unfold wordC
  rw [e1, e1, e1, e2, e2, e2, e3]
  rfl
set_option maxRecDepth 100000 in
set_option maxHeartbeats 4000000 in
theorem word48 (c : UInt8) (W : World) : Calls Tryd.prog 48 #[.int .u8 (c.toNat : Int)] W fun e w' => e = .returned (.bool (wordC c)) ∧ W = w' := by
  obtain ⟨q, hq⟩ : ∃ q, wordC c = q := ⟨_, rfl⟩
  have Hw := hide (word_val c)
  have hc := c.toNat_lt
  rw [hq] at Hw ⊢
  obtain ⟨z, hz⟩ : ∃ z : Int, (c.toNat : Int) = z := ⟨_, rfl⟩
  have h0 : 0 ≤ z := by omega
  have h1 : z ≤ 255 := by omega
  rw [hz] at Hw ⊢
  clear hz hq hc
  go_enter Tryd.func48, Tryd.ntmps48
  go_wp2
  all_goals (go_ret; exact ⟨ret_bool (by rw [Hw.out, Bool.eq_iff_iff]; simp; omega), rfl⟩)

theorem byte10 (c : UInt8) : ((c.toNat : Int) == 10) = decide (c = 10) := by
  rw [Bool.eq_iff_iff]
  simp [← UInt8.toNat_inj]
  omega
theorem get_at (s : ByteArray) (i : Nat) (h : i < s.size) : s.data.toList[i]? = some s[i] := by
  rw [List.getElem?_eq_getElem (by simpa using h)]
  rfl
theorem lf46 (s : ByteArray) (i b : Nat) (W : World) (hi : i < s.size) (_hs : s.size ≤ 100000) (hc : W.cell? ⟨b, 0, none⟩ = some (.string s)) :
    Calls Tryd.prog 46 #[.int .i64 (i : Int), .pointer (some ⟨b, 0, none⟩)] W fun e w' => e = .returned (.bool (decide (s.data.toList[i]? = some 10))) ∧ W = w' := by
  obtain ⟨q, hq⟩ : ∃ q, decide (s.data.toList[i]? = some 10) = q := ⟨_, rfl⟩
  have Hq := hide (show ((s[i].toNat : Int) == 10) = q by rw [← hq, get_at s i hi, byte10]; simp)
  rw [hq]
  clear hq
  go_enter Tryd.func46, Tryd.ntmps46
  go_wp2
  go_ret
  exact ⟨ret_bool Hq.out, rfl⟩
theorem in47_in (s : ByteArray) (i b : Nat) (W : World) (hi : i < s.size) (_hs : s.size ≤ 100000) (hc : W.cell? ⟨b, 0, none⟩ = some (.string s)) :
    Calls Tryd.prog 47 #[.int .i64 (i : Int), .pointer (some ⟨b, 0, none⟩)] W fun e w' => e = .returned (.bool (wordB s.data.toList i)) ∧ W = w' := by
  obtain ⟨q, hq⟩ : ∃ q, wordB s.data.toList i = q := ⟨_, rfl⟩
  have HC := hide (fun w => word48 s[i] w)
  have e : wordC s[i] = q := by rw [← hq]; unfold wordB; rw [get_at s i hi]
  rw [hq]
  rw [e] at HC
  clear hq e
  go_enter Tryd.func47, Tryd.ntmps47
  go_wp2_with (go_at_call 48; refine (HC.out _).mono ?_; rintro e w' ⟨rfl, rfl⟩)
  go_ret
  exact ⟨rfl, rfl⟩
theorem in47_neg (s : ByteArray) (b : Nat) (W : World) (_hs : s.size ≤ 100000) (_hc : W.cell? ⟨b, 0, none⟩ = some (.string s)) :
    Calls Tryd.prog 47 #[.int .i64 (-1), .pointer (some ⟨b, 0, none⟩)] W fun e w' => e = .returned (.bool false) ∧ W = w' := by
  go_enter Tryd.func47, Tryd.ntmps47
  go_wp2
  go_ret
  exact ⟨rfl, rfl⟩
theorem in47_end (s : ByteArray) (b i : Nat) (W : World) (hi : s.size ≤ i) (_hi2 : i ≤ 100000) (hc : W.cell? ⟨b, 0, none⟩ = some (.string s)) :
    Calls Tryd.prog 47 #[.int .i64 (i : Int), .pointer (some ⟨b, 0, none⟩)] W fun e w' => e = .returned (.bool false) ∧ W = w' := by
  go_enter Tryd.func47, Tryd.ntmps47
  go_wp2
  go_ret
  exact ⟨rfl, rfl⟩
theorem in47 (s : ByteArray) (b i : Nat) (W : World) (hi : i ≤ s.size) (hs : s.size ≤ 100000) (hc : W.cell? ⟨b, 0, none⟩ = some (.string s)) :
    Calls Tryd.prog 47 #[.int .i64 (i : Int), .pointer (some ⟨b, 0, none⟩)] W fun e w' => e = .returned (.bool (wordB s.data.toList i)) ∧ W = w' := by
  by_cases h : i < s.size
  · exact in47_in s i b W h hs hc
  · rw [word_out _ _ (by simp; omega)]
    exact in47_end s b i W (by omega) (by omega) hc
theorem in47_before (s : ByteArray) (b i : Nat) (z : Int) (hz : z = (i : Int) - 1) (W : World) (hi : i ≤ s.size) (hs : s.size ≤ 100000) (hc : W.cell? ⟨b, 0, none⟩ = some (.string s)) :
    Calls Tryd.prog 47 #[.int .i64 z, .pointer (some ⟨b, 0, none⟩)] W fun e w' => e = .returned (.bool (if i = 0 then false else wordB s.data.toList (i - 1))) ∧ W = w' := by
  by_cases h : i = 0
  · subst h
    rw [if_pos rfl, hz]
    exact in47_neg s b W hs hc
  · rw [if_neg h, hz, show (i : Int) - 1 = ((i - 1 : Nat) : Int) by omega]
    exact in47 s b (i - 1) W (by omega) hs hc

/-- The value is a function that says for each offset up to N whether P holds. -/
def CondOK (N : Nat) (W : World) (hv : Value) (P : Nat → Bool) : Prop :=
  ∃ K caps, hv = .func (.func K) #[] caps ∧ (∀ xs W, (callFunc K xs).run Tryd.prog W = .ok (.enter K xs) W) ∧
    ∀ W' i, Below W.heap.size W W' → i ≤ N → Calls Tryd.prog K (#[.int .i64 (i : Int)] ++ caps) W' fun e w' => e = .returned (.bool (P i)) ∧ Below W'.heap.size W' w'
theorem run51 (xs : Array Value) (W : World) : (callFunc 51 xs).run Tryd.prog W = .ok (.enter 51 xs) W := by kernel_rfl
theorem run56 (xs : Array Value) (W : World) : (callFunc 56 xs).run Tryd.prog W = .ok (.enter 56 xs) W := by kernel_rfl
theorem run57 (xs : Array Value) (W : World) : (callFunc 57 xs).run Tryd.prog W = .ok (.enter 57 xs) W := by kernel_rfl
theorem run58 (xs : Array Value) (W : World) : (callFunc 58 xs).run Tryd.prog W = .ok (.enter 58 xs) W := by kernel_rfl

theorem cond56 (s : ByteArray) (b b' i : Nat) (W : World) (hi : i ≤ s.size) (hs : s.size ≤ 100000) (hc : W.cell? ⟨b, 0, none⟩ = some (.string s)) (hc' : W.cell? ⟨b', 0, none⟩ = some (.func (.func 46) #[] #[.pointer (some ⟨b, 0, none⟩)])) :
    Calls Tryd.prog 56 #[.int .i64 (i : Int), .pointer (some ⟨b', 0, none⟩)] W fun e w' => e = .returned (.bool (standsB 5 s.data.toList i)) ∧ W = w' := by
  have hst : standsB 5 s.data.toList i = (decide (i = 0) || decide (s.data.toList[i - 1]? = some 10)) := rfl
  obtain ⟨q, hq⟩ : ∃ q, standsB 5 s.data.toList i = q := ⟨_, rfl⟩
  rw [hq] at hst ⊢
  by_cases h : i = 0
  · subst h
    have Hq := hide (show true = q by rw [hst]; simp)
    clear hst hq
    go_enter Tryd.func56, Tryd.ntmps56
    go_wp2
    go_ret
    exact ⟨ret_bool Hq.out, rfl⟩
  · have h0 : ((i : Int) == 0) = false := beq_eq_false_iff_ne.2 (by omega)
    have HC := hide (fun w => lf46 s (i - 1) b w (by omega) hs)
    have e : decide (s.data.toList[i - 1]? = some 10) = q := by rw [hst]; simp [h]
    rw [e] at HC
    have hi1 : 1 ≤ (i : Int) := by omega
    have hz : (i : Int) - 1 = ((i - 1 : Nat) : Int) := by omega
    have Hz := hide hz
    clear hst hq e h hz
    go_enter Tryd.func56, Tryd.ntmps56
    go_wp2_with fail
    rw [Hz.out]
    refine (HC.out _ hc).mono ?_
    rintro e w' ⟨rfl, rfl⟩
    go_wp2
    go_ret
    exact ⟨rfl, rfl⟩
theorem cond57 (s : ByteArray) (b b' i : Nat) (W : World) (hi : i ≤ s.size) (hs : s.size ≤ 100000) (hc : W.cell? ⟨b, 0, none⟩ = some (.string s)) (hc' : W.cell? ⟨b', 0, none⟩ = some (.func (.func 46) #[] #[.pointer (some ⟨b, 0, none⟩)])) :
    Calls Tryd.prog 57 #[.int .i64 (i : Int), .pointer (some ⟨b, 0, none⟩), .pointer (some ⟨b', 0, none⟩)] W fun e w' => e = .returned (.bool (standsB 6 s.data.toList i)) ∧ W = w' := by
  have hst : standsB 6 s.data.toList i = (decide (i = s.data.toList.length) || decide (s.data.toList[i]? = some 10)) := rfl
  rw [size_list] at hst
  obtain ⟨q, hq⟩ : ∃ q, standsB 6 s.data.toList i = q := ⟨_, rfl⟩
  rw [hq] at hst ⊢
  by_cases h : i = s.size
  · have h0 : ((i : Int) == (s.size : Int)) = true := by rw [h]; simp
    have Hq := hide (show true = q by rw [hst]; simp [h])
    clear hst hq h
    go_enter Tryd.func57, Tryd.ntmps57
    go_wp2
    go_ret
    exact ⟨ret_bool Hq.out, rfl⟩
  · have h0 : ((i : Int) == (s.size : Int)) = false := beq_eq_false_iff_ne.2 (by omega)
    have HC := hide (fun w => lf46 s i b w (by omega) hs)
    have e : decide (s.data.toList[i]? = some 10) = q := by rw [hst]; simp [h]
    rw [e] at HC
    clear hst hq e h
    go_enter Tryd.func57, Tryd.ntmps57
    go_wp2_with (go_at_call 46; refine (HC.out _ hc).mono ?_; rintro e w' ⟨rfl, rfl⟩)
    go_ret
    exact ⟨rfl, rfl⟩
set_option maxRecDepth 100000 in
set_option maxHeartbeats 1000000 in
theorem cond58 (s : ByteArray) (b b' i : Nat) (k : Int) (h5 : k ≠ 5) (h6 : k ≠ 6) (W : World) (hi : i ≤ s.size) (hs : s.size ≤ 100000) (hc : W.cell? ⟨b, 0, none⟩ = some (.string s)) (hc' : W.cell? ⟨b', 0, none⟩ = some (.func (.func 47) #[] #[.pointer (some ⟨b, 0, none⟩)])) :
    Calls Tryd.prog 58 #[.int .i64 (i : Int), .pointer (some ⟨b', 0, none⟩)] W fun e w' => e = .returned (.bool (standsB k s.data.toList i)) ∧ Drawn W w' := by
  have hst : standsB k s.data.toList i = ((if i = 0 then false else wordB s.data.toList (i - 1)) != wordB s.data.toList i) := by unfold standsB; rw [if_neg h5, if_neg h6]
  obtain ⟨q, hq⟩ : ∃ q, standsB k s.data.toList i = q := ⟨_, rfl⟩
  rw [hq] at hst ⊢
  obtain ⟨z, hz⟩ : ∃ z : Int, z = (i : Int) - 1 := ⟨_, rfl⟩
  have HA := hide (fun w => in47_before s b i z hz w hi hs)
  have HB := hide (fun w => in47 s b i w hi hs)
  obtain ⟨x, hx⟩ : ∃ x, (if i = 0 then false else wordB s.data.toList (i - 1)) = x := ⟨_, rfl⟩
  obtain ⟨y, hy⟩ : ∃ y, wordB s.data.toList i = y := ⟨_, rfl⟩
  rw [hx] at HA hst
  rw [hy] at HB hst
  have Hq := hide hst
  have HE := hide (fun j => (show (W.drewN j).cell? ⟨b, 0, none⟩ = some (.string s) from hc))
  have hw : IntKind.i64.wrap ((i : Int) - 1) = z := by rw [hz]; exact IntWalk.i64_in _ (by omega)
  clear hq hx hy hst h5 h6 hz
  go_enter Tryd.func58, Tryd.ntmps58
  go_wp2
  go_quiet (first | (go_at_call 47; with_reducible exact quiet_left (HA.out _ (HE.out _))) | (go_at_call 47; with_reducible exact quiet_left (HB.out _ (HE.out _))))
  go_wp2
  go_ret
  exact ⟨ret_bool (by rw [Hq.out]; cases x <;> cases y <;> rfl), ⟨_, rfl⟩⟩
end Go.Proofs.YtkghbhcjgogaeaaDoor
/-! ### C2 -/
namespace Go.Proofs.YtkghbhcjgogaeaaDoor
open Go.RowKit

def tabC (set : List (UInt8 × UInt8)) (k : Nat) : List Value := (List.range 256).map fun i => .bool (decide (i < k) && hasS set (UInt8.ofNat i))
theorem tabC_len (set : List (UInt8 × UInt8)) (k : Nat) : (tabC set k).length = 256 := by simp [tabC]
theorem tabC_at (set : List (UInt8 × UInt8)) (k i : Nat) (hi : i < 256) : (tabC set k)[i]? = some (.bool (decide (i < k) && hasS set (UInt8.ofNat i))) := by simp [tabC, hi]
theorem tabC_set (set : List (UInt8 × UInt8)) (k : Nat) (q : Bool) (hq : hasS set (UInt8.ofNat k) = q) : (tabC set k).set k (.bool q) = tabC set (k + 1) := by
  refine List.ext_getElem? fun i => ?_
  by_cases hi : i < 256
  · rw [List.getElem?_set, tabC_len]
    by_cases e : k = i
    · subst e
      rw [if_pos rfl, if_pos hi, tabC_at _ _ _ hi, hq]
      simp
    · rw [if_neg e, tabC_at _ _ _ hi, tabC_at _ _ _ hi]
      congr 2
      have : decide (i < k + 1) = decide (i < k) := by rw [Bool.eq_iff_iff]; simp; omega
      rw [this]
  · rw [List.getElem?_eq_none (by rw [List.length_set, tabC_len]; omega), List.getElem?_eq_none (by rw [tabC_len]; omega)]
theorem zero73 : Tryd.zeroCells73 = (tabC [] 0).toArray := by kernel_rfl
theorem tabC_zero (set : List (UInt8 × UInt8)) : tabC set 0 = tabC [] 0 := by simp [tabC]
theorem tab_one (set : List (UInt8 × UInt8)) (k : Nat) : (tabC set k).toArray.all (·.oneCell') = true := by
  rw [Array.all_eq_true_iff_forall_mem]
  intro v hv
  simp [tabC] at hv
  obtain ⟨i, _, rfl⟩ := hv
  rfl
theorem info73 : (Tryd.prog.info? 73).map (fun i => i.size) = some 256 := by kernel_rfl
set_option maxRecDepth 100000 in
set_option maxHeartbeats 1000000 in
theorem table49 {W : World} {ok : Nat → Prop} {A : Option Addr} {n c : Nat} {set : List (UInt8 × UInt8)} (h : RgS W ok A n c set) :
    Calls Tryd.prog 49 #[.slice A n c] W fun e w' => e = .returned (.agg (tabC set 256).toArray) ∧ Below W.heap.size W w' := by
  have H := hide h
  clear h
  go_enter Tryd.func49, Tryd.ntmps49
  go_wp2
  go_loopw [5] (fun y wr => ∃ k : Nat, k ≤ 256 ∧ y = .int .i64 (k : Int) ∧ wr.heap[W.heap.size + 1]? = some (.cells (tabC set k).toArray 73 (0, 0)) ∧ wr.heap[W.heap.size]? = some (.cells (tabC [] 0).toArray 73 (0, 0)) ∧ Below W.heap.size W wr) (fun y _ => 256 - (intOf y).toNat)
  case atStart =>
    refine ⟨0, by omega, rfl, ?_, ?_, bnew (bnew (Below.refl _ _) _) _⟩
    · rw [tabC_zero, ← zero73]
      have := heap_alloc_new (W.alloc (.cells Tryd.zeroCells73 73)) (.cells Tryd.zeroCells73 73)
      rw [World.size_alloc] at this
      exact this
    · rw [← zero73]
      exact (Below.heap_alloc _ _ _ (by simp)).trans (heap_alloc_new W _)
  case round =>
    obtain ⟨k, hk, rfl, ht, hr, hb⟩ := hrel
    obtain ⟨w1, hw1⟩ : ∃ w1, w1 = wr := ⟨wr, rfl⟩
    subst hw1
    have T := hide ht
    have R := hide hr
    have B := hide hb
    by_cases hlt : k < 256
    · obtain ⟨q, hq⟩ : ∃ q, hasS set (UInt8.ofNat k) = q := ⟨_, rfl⟩
      have hv : (UInt8.ofNat k).toNat = k := by simp; omega
      have HC := hide (phas72 (H.out.below hb) (UInt8.ofNat k) q hq)
      rw [hv] at HC
      have Hq := hide hq
      have hd : decide ((k : Int) < 256) = true := decide_eq_true (by omega)
      have hkl : W.heap.size + 1 < w1.heap.size := lt_of_block ht
      clear ht hr hb hq hv
      go_wp2_with fail
      with_reducible refine HC.out.mono ?_
      rintro e w2 ⟨rfl, hb2⟩
      have T2 := (hb2.block _ hkl).trans T.out
      have c2 : w2.cell? ⟨W.heap.size + 1, k, none⟩ = some (.bool (decide (k < k) && hasS set (UInt8.ofNat k))) := by
        have := tabC_at set k k hlt
        simp [World.cell?, T2, this]
      have f2 : w2.frozen? ⟨W.heap.size + 1, k, none⟩ = false := by simp [World.frozen?, T2]
      have HT2 := hide T2
      have R2 := hide ((hb2.block _ (by omega)).trans R.out)
      have B2 := hide (bgo B.out hb2)
      clear T2 hb2
      go_wp2
      go_roundw
      case rel =>
        refine ⟨k + 1, by omega, by go_num, ?_, (Below.heap_setCell _ _ _ _ (by show W.heap.size ≠ W.heap.size + 1; omega)).trans R2.out, B2.out.setCell (by show W.heap.size ≤ W.heap.size + 1; omega) _⟩
        have := Go.Joins.block_setCell (i := k) HT2.out (.bool q)
        rw [List.setIfInBounds_toArray, tabC_set set k q Hq.out] at this
        exact this
      case measure => simp [intOf]; omega
    · obtain rfl : k = 256 := by omega
      clear hb
      go_wp2_with (first | (refine wpList_load_row rfl 73 _ rfl _ rfl 73 _ _ _ T.out Tryd.underlying73 rfl (by rw [info73]; simp [tabC_len]) ?_) | (refine wpList_store_row rfl 73 _ _ rfl _ (tabC set 256).toArray rfl rfl 73 _ R.out (by rw [info73]; simp [tabC_len]) (by simp [tabC_len]) (tab_one _ _) ?_))
      refine bodyPost_ret (results_cell_row rfl _ _ W.heap.size 73 (tabC set 256).toArray (0, 0) _ rfl ?_ Tryd.underlying73 rfl (by rw [info73]; simp [tabC_len])) rfl ⟨rfl, ?_⟩
      · exact setRow_heap w1 _ _ _ _ _ R.out
      · exact ⟨B.out.os, B.out.tape, B.out.output, by rw [setRow_size]; exact B.out.size, fun k hk => by
          have hne : W.heap.size ≠ k := by omega
          have e : (w1.setRow W.heap.size (tabC set 256).toArray).heap[k]? = w1.heap[k]? := by simp [World.setRow, Array.getElem?_modify, hne]
          exact e.trans (B.out.block k hk)⟩

theorem tab_at (set : List (UInt8 × UInt8)) (c : UInt8) : (tabC set 256)[c.toNat]? = some (.bool (hasS set c)) := by
  have hc : c.toNat < 256 := c.toNat_lt
  rw [tabC_at _ _ _ hc]
  simp [hc]
theorem cond51 (s : ByteArray) (b t i : Nat) (set : List (UInt8 × UInt8)) (W : World) (hi : i ≤ s.size) (hc : W.cell? ⟨b, 0, none⟩ = some (.string s)) (ht : W.heap[t]? = some (.cells (tabC set 256).toArray 73 (0, 0))) :
    Calls Tryd.prog 51 #[.int .i64 (i : Int), .pointer (some ⟨b, 0, none⟩), .pointer (some ⟨t, 0, none⟩)] W fun e w' => e = .returned (.bool (match s.data.toList[i]? with | some c => hasS set c | none => false)) ∧ W = w' := by
  by_cases h : i < s.size
  · obtain ⟨q, hq⟩ : ∃ q, hasS set s[i] = q := ⟨_, rfl⟩
    have e : (match s.data.toList[i]? with | some c => hasS set c | none => false) = q := by rw [get_at s i h]; exact hq
    have hb : s[i].toNat < 256 := s[i].toNat_lt
    have c2 : W.cell? ⟨t, s[i].toNat, none⟩ = some (.bool q) := by
      have := tab_at set s[i]
      simp [World.cell?, ht, this, hq]
    rw [e]
    clear hq ht e
    go_enter Tryd.func51, Tryd.ntmps51
    go_wp2
    go_ret
    exact ⟨rfl, rfl⟩
  · have e : (match s.data.toList[i]? with | some c => hasS set c | none => false) = false := by rw [List.getElem?_eq_none (by simp; omega)]
    rw [e]
    clear e
    go_enter Tryd.func51, Tryd.ntmps51
    go_wp2
    go_ret
    exact ⟨rfl, rfl⟩
end Go.Proofs.YtkghbhcjgogaeaaDoor
/-! ### C3 -/
namespace Go.Proofs.YtkghbhcjgogaeaaDoor
open Go.RowKit Go.Shelf

/-- The mask of what is reached over len bytes from the offsets of l at which P holds. -/
def advM (P : Nat → Bool) (len : Nat) (l : List Nat) : Nat := l.foldl (fun m i => if P i then m ||| 2 ^ (i + len) else m) 0
theorem advM_snoc (P : Nat → Bool) (len : Nat) (l : List Nat) (x : Nat) : advM P len (l ++ [x]) = if P x then advM P len l ||| 2 ^ (x + len) else advM P len l := by
  unfold advM
  rw [List.foldl_append]
  rfl
theorem take_next {α : Type} {l : List α} {k : Nat} {x : α} (h : l[k]? = some x) : l.take (k + 1) = l.take k ++ [x] := by
  obtain ⟨h1, e⟩ := List.getElem?_eq_some_iff.1 h
  rw [List.take_succ_eq_append_getElem h1, e]
theorem advM_lt_from (P : Nat → Bool) (len : Nat) : ∀ (l : List Nat) (m : Nat), m < 2305843009213693952 → (∀ i ∈ l, P i = true → i + len < 61) → l.foldl (fun m i => if P i then m ||| 2 ^ (i + len) else m) m < 2305843009213693952
  | [], m, hm, _ => hm
  | x :: l, m, hm, h => by
    rw [List.foldl_cons]
    refine advM_lt_from P len l _ ?_ fun i hi => h i (List.mem_cons_of_mem _ hi)
    split
    · rename_i hp
      exact or_pow_lt (N := 61) hm (h x (by simp) hp)
    · exact hm
theorem advM_lt (P : Nat → Bool) (len : Nat) (l : List Nat) (h : ∀ i ∈ l, P i = true → i + len < 61) : advM P len l < 2305843009213693952 := advM_lt_from P len l 0 (by decide) h

/-- A step: of the sets of offsets up to N it makes what T says. -/
def StepOK (N : Nat) (W : World) (sv : Value) (T : List Bool → List Bool) : Prop :=
  ∃ K caps, sv = .func (.func K) #[] caps ∧ (∀ xs W, (callFunc K xs).run Tryd.prog W = .ok (.enter K xs) W) ∧
    ∀ W' f v, Below W.heap.size W W' → f.length = N + 1 → SetV W' v (maskC f) → Calls Tryd.prog K (#[.agg #[v]] ++ caps) W' (RetO W' (maskC (T f)))
theorem StepOK.below {N : Nat} {W W' : World} {sv : Value} {T : List Bool → List Bool} (h : StepOK N W sv T) (hb : Below W.heap.size W W') : StepOK N W' sv T := by
  obtain ⟨K, caps, e, hr, hc⟩ := h
  exact ⟨K, caps, e, hr, fun W2 f v h2 hf hv => hc W2 f v (bgo hb h2) hf hv⟩
theorem StepOK.congr {N : Nat} {W : World} {sv : Value} {T T' : List Bool → List Bool} (h : StepOK N W sv T) (hT : ∀ f : List Bool, f.length = N + 1 → T f = T' f) : StepOK N W sv T' := by
  obtain ⟨K, caps, e, hr, hc⟩ := h
  exact ⟨K, caps, e, hr, fun W2 f v h2 hf hv => by rw [← hT f hf]; exact hc W2 f v h2 hf hv⟩

theorem below_put {B : Nat} {w W : World} (h : Below B w W) (l : Nat) (o : Obj) (hl : B ≤ l) : Below B w (W.putObj l o) :=
  ⟨h.os, h.tape, h.output, by rw [World.putObj_size]; exact h.size, fun k hk => (World.putObj_heap_other (by omega)).trans (h.block k hk)⟩
theorem own_put {W : World} {B e sz n : Nat} {v : Value} {xs : List Value} (h : W.ownsRow B e sz v n xs) (l : Nat) (o : Obj) (hl : v.ownBlock ≠ some l) : (W.putObj l o).ownsRow B e sz v n xs := by
  obtain ⟨h1, h2⟩ := h
  refine ⟨h1, ?_⟩
  rcases h2 with h2 | ⟨g, cap, cur, rfl, hg, hh, r⟩
  · exact Or.inl h2
  · exact Or.inr ⟨g, cap, cur, rfl, hg, (World.putObj_heap_other (fun e => hl (congrArg some e))).trans hh, r⟩
theorem acc_put {n0 : Nat} {W : World} {v : Value} {m : Nat} (h : Acc n0 W v m) (l : Nat) (o : Obj) (ho : v.ownBlock ≠ some l) : Acc n0 (W.putObj l o) v m := by
  rcases h with h | ⟨h0, h⟩
  · exact Or.inl h
  · exact Or.inr ⟨h0, own_put h l o ho⟩
theorem box_put {n0 : Nat} {W : World} {B : Nat} {v : Value} {m : Nat} (h : Box n0 W B v m) (l : Nat) (o : Obj) (hl : l ≠ B) (ho : v.ownBlock ≠ some l) : Box n0 (W.putObj l o) B v m := by
  exact ⟨h.1, (World.putObj_heap_other (fun e => hl e.symm)).trans h.2.1, acc_put h.2.2 l o ho⟩
theorem load_one52 {W : World} {b : Nat} {x : Value} (h : W.cell? ⟨b, 0, none⟩ = some x) : (loadVar 52 ⟨b, 0, none⟩).run Tryd.prog W = .ok (.agg #[x]) W := by
  go_simp
/-- A set of offsets as the result, in its cell. -/
theorem res_one52 {fn : Func} {p : Tmp} (h : fn.results = #[.cell p 52]) (tmps : Array Value) (W : World) (b : Nat) (x : Value) (hp : tmps.getD p undef = .pointer (some ⟨b, 0, none⟩)) (hf : W.cell? ⟨b, 0, none⟩ = some x) :
    (results fn tmps).run Tryd.prog W = .ok (.agg #[x]) W := by
  have hp' : tmps[p]?.getD undef = .pointer (some ⟨b, 0, none⟩) := by simpa using hp
  simp [results, h, hp', asAddr, load_one52 hf]

theorem run73 (xs : Array Value) (W : World) : (callFunc 73 xs).run Tryd.prog W = .ok (.enter 73 xs) W := by kernel_rfl

attribute [local go_sem] Oper.semAt_some

set_option maxRecDepth 100000 in
set_option maxHeartbeats 4000000 in
theorem adv73 (N len : Nat) (hN : N + 1 ≤ 61) (P : Nat → Bool) (hP : ∀ i, i ≤ N → P i = true → i + len < 61) (f : List Bool) (hf : f.length = N + 1) (v : Value) (W : World) (hv : SetV W v (maskC f)) (bh bl : Nat) (hvv : Value) (hcond : CondOK N W hvv P)
    (hch : W.cell? ⟨bh, 0, none⟩ = some hvv) (hcl : W.cell? ⟨bl, 0, none⟩ = some (.int .i64 (len : Int))) (hT : HasT W) :
    Calls Tryd.prog 73 #[.agg #[v], .pointer (some ⟨bh, 0, none⟩), .pointer (some ⟨bl, 0, none⟩)] W (RetO W (advM P len (offsC f))) := by
  obtain ⟨K, caps, rfl, hrun, hcall⟩ := hcond
  obtain ⟨H, hH⟩ : ∃ H, W.heap.size = H := ⟨_, rfl⟩
  obtain ⟨m, hm⟩ : ∃ m, maskC f = m := ⟨_, rfl⟩
  have hm61 : m < 2305843009213693952 := by
    have := mask_lt f
    rw [hm, hf] at this
    exact Nat.lt_of_lt_of_le this (Nat.pow_le_pow_right (n := 2) (by omega) hN)
  have hbits : bitsL m = offsC f := by rw [← hm]; exact offs_bits (by omega)
  have hoff : ∀ x ∈ bitsL m, x ≤ N := fun x hx => by
    rw [hbits] at hx
    have := on_lt ((offsC_mem f x).1 hx)
    omega
  rw [hm] at hv
  rw [← hbits]
  have Hbits := hide hbits
  have Hoff := hide hoff
  have HP := hide hP
  have Hcall := hide hcall
  have Hv := hide hv
  have HT := hide hT
  have HH := hide hH
  have hbh : bh < H := by rw [← hH]; exact World.block_lt_of_cell? _ _ hch
  have hbl : bl < H := by rw [← hH]; exact World.block_lt_of_cell? _ _ hcl
  have hT0 := hT.pos
  rw [hH] at hT0
  clear hbits hoff hcall hm hP hv hT
  refine (callsIn_wide (n := 8)).1 ?_
  refine callsIn_of_wp_marks Tryd.func73 rfl trivial ?_ rfl
  simp only [Tryd.ntmps73, List.size_toArray, List.length_cons, List.length_nil, Nat.reduceAdd, Nat.reduceSub, Array.replicate_succ, Array.replicate_zero, List.push_toArray, List.append_toArray, List.nil_append, List.cons_append]
  gi_wp2
  obtain ⟨W0, hW0⟩ : ∃ W0, ((W.alloc (.cells #[v] 52)).alloc (.cells #[.slice none 0 0] 52)).alloc (.cells #[.slice none 0 0] 52) = W0 := ⟨_, rfl⟩
  have h3 : W0.heap.size = H + 3 := by rw [← hW0, ← hH]; simp
  have b3 : Below W.heap.size W W0 := by rw [← hW0]; exact bnew (bnew (bnew (Below.refl _ _) _) _) _
  have k1 : W0.heap[H + 1]? = some (.cells #[.slice none 0 0] 52 (0, 0)) := by
    rw [← hW0, ← hH]
    have := heap_alloc_new (W.alloc (.cells #[v] 52)) (.cells #[.slice none 0 0] 52)
    rw [World.size_alloc] at this
    exact (Below.heap_alloc _ _ _ (by simp)).trans this
  have k2 : W0.heap[H + 1 + 1]? = some (.cells #[.slice none 0 0] 52 (0, 0)) := by
    rw [← hW0, ← hH]
    have := heap_alloc_new ((W.alloc (.cells #[v] 52)).alloc (.cells #[.slice none 0 0] 52)) (.cells #[.slice none 0 0] 52)
    rw [World.size_alloc, World.size_alloc] at this
    exact this
  rw [hW0]
  clear hW0
  have ch0 := (b3.cell (p := ⟨bh, 0, none⟩) (by rw [hH]; exact hbh)).trans hch
  have cl0 := (b3.cell (p := ⟨bl, 0, none⟩) (by rw [hH]; exact hbl)).trans hcl
  clear hH hch hcl
  refine range_all (gf := 31) (first := #[.agg #[v]]) (caps := #[]) rfl (enters_of Tryd.func31 (by kernel_rfl) rfl) (each31 v m hm61 W0 (Hv.out.below b3) (HT.out.below b3)) (fun _ => rfl)
    (fun A B C h k => k.trans h) (fun W l o h1 => World.putObj_heap_other (by omega))
    (fun k Wx => ∃ A n c, Box (H + 1 + 1) Wx (H + 1 + 1) (.slice A n c) (advM P len ((bitsL m).take k)) ∧ (∀ g, (Value.slice A n c).ownBlock = some g → H + 7 ≤ g) ∧ Below (H + 1 + 1) W0 Wx)
    (fun k A B ⟨a, n, c, h1, h2, h4⟩ hb => ⟨a, n, c, h1.below hb, h2, h4.trans (hb.mono (by have := h4.size; omega))⟩)
    (fun k A o ⟨a, n, c, h1, h2, h4⟩ => ⟨a, n, c, box_put h1 _ _ (by omega) (fun e => by have := h2 _ e; omega), h2, below_put h4 _ _ (by omega)⟩)
    ⟨none, 0, 0, ⟨Nat.le_refl _, k2, by rw [List.take_zero]; exact Acc.none _ _⟩, (fun g h => by cases h), Below.refl _ _⟩
    (fun x => { tmps := #[.agg #[v], .pointer (some ⟨bh, 0, none⟩), .pointer (some ⟨bl, 0, none⟩), .pointer (some ⟨H, 0, none⟩), .pointer (some ⟨H + 1, 0, none⟩), .pointer (some ⟨H + 1 + 1, 0, none⟩), .int .i64 (x : Int), .agg #[v], .func (.func 31) #[.agg #[v]] #[], .int .i64 (x : Int), undef, undef, undef, undef, undef, undef, undef, undef], defers := [] })
    ?assign ?body ?done
  case assign =>
    intro l x W K hK
    gi_wp2
    exact hK
  case body =>
    rintro l k x Wx hx ⟨A, n, c, hbox, hfar, hbel⟩ hsz
    have c1 := (hbel.cell (p := ⟨bh, 0, none⟩) (by show bh < H + 1 + 1; omega)).trans ch0
    have c2 := (hbel.cell (p := ⟨bl, 0, none⟩) (by show bl < H + 1 + 1; omega)).trans cl0
    have hxN := Hoff.out x (List.mem_of_getElem? hx)
    have hWx : Below W.heap.size W Wx := b3.trans (hbel.mono (by rw [HH.out]; omega))
    have HC := hide (Hcall.out Wx x hWx hxN)
    have hadv := advM_lt P len ((bitsL m).take k) fun i hi hp => HP.out i (Hoff.out i (List.mem_of_mem_take hi)) hp
    have Hx := hide hx
    have X := hide hbox
    have B := hide hbel
    have Fa := hide hfar
    have Hadv := hide hadv
    clear hx hbox hbel hfar hadv hWx
    cases hpx : P x with
    | false =>
      rw [hpx] at HC
      have Hn := hide (show advM P len ((bitsL m).take (k + 1)) = advM P len ((bitsL m).take k) by rw [take_next Hx.out, advM_snoc, hpx]; rfl)
      clear hpx
      gi_wp2
      refine ⟨trivial, (CallsIn.inRound l (callsIn_wide.2 HC.out)).mono ?_⟩
      rintro e wa ⟨rfl, hba⟩
      have Ba := hide hba
      clear hba
      gi_wp2
      exact ⟨⟨Ba.out.size, fun q h1 h2 => Ba.out.block q (by omega), Ba.out.block 0 (by omega)⟩, A, n, c, by rw [Hn.out]; exact X.out.below Ba.out, Fa.out, B.out.trans (Ba.out.mono (by omega))⟩
    | true =>
      have hq := HP.out x hxN hpx
      rw [hpx] at HC
      have Hn := hide (show advM P len ((bitsL m).take (k + 1)) = advM P len ((bitsL m).take k) ||| 2 ^ (x + len) by rw [take_next Hx.out, advM_snoc, hpx]; rfl)
      clear hpx
      obtain ⟨y, hy⟩ : ∃ y, x + len = y := ⟨_, rfl⟩
      rw [hy] at hq Hn
      have hyi : (x : Int) + (len : Int) = (y : Int) := by omega
      have Hyi := hide hyi
      clear hy hyi
      gi_wp2
      refine ⟨trivial, (CallsIn.inRound l (callsIn_wide.2 HC.out)).mono ?_⟩
      rintro e wa ⟨rfl, hba⟩
      have Ba := hide hba
      have c2a := (hba.cell (p := ⟨bl, 0, none⟩) (by show bl < Wx.heap.size; omega)).trans c2
      have HQ := hide (put59 (H + 1 + 1) (H + 1 + 1) (advM P len ((bitsL m).take k)) y (.slice A n c) wa (X.out.below hba) Hadv.out hq)
      have hxb : (x : Int) ≤ 60 := by omega
      have hlb : (len : Int) ≤ 60 := by have := Hyi.out; omega
      clear hba c1 c2
      gi_wp2
      rw [Hyi.out]
      refine ⟨trivial, (CallsIn.inRound l (callsIn_wide.2 HQ.out)).mono ?_⟩
      rintro e wb ⟨rfl, v', hbox2, ht2, hf2⟩
      obtain ⟨A2, n2, c2', rfl⟩ := hbox2.2.2.form
      have X2 := hide hbox2
      have T2 := hide ht2
      have hf3 : ∀ g, (Value.slice A2 n2 c2').ownBlock = some g → H + 7 ≤ g := fun g hg => by
        rcases hf2 with h | h
        · exact Fa.out g (by rw [← h]; exact hg)
        · have := h g hg
          have := Ba.out.size
          omega
      have F3 := hide hf3
      clear hbox2 ht2 hf2 hf3 HQ
      gi_wp2
      have hkeep : ∀ q, q < H + 7 → q ≠ H + 1 + 1 → wb.heap[q]? = Wx.heap[q]? := fun q h1 h2 =>
        (T2.out.block q (by have := Ba.out.size; omega) (fun h => by rcases h with h | h; exact h2 h; have := Fa.out q h; omega)).trans (Ba.out.block q (by omega))
      have hbw : Below (H + 1 + 1) wa wb := T2.out.below (by have := Ba.out.size; omega) fun q h => by
        rcases h with h | h
        · omega
        · have := Fa.out q h; omega
      exact ⟨⟨Nat.le_trans Ba.out.size T2.out.size, fun q h1 h2 => hkeep q (by omega) (by omega), hkeep 0 (by omega) (by omega)⟩, A2, n2, c2', by rw [Hn.out]; exact X2.out, F3.out, (B.out.trans (Ba.out.mono (by omega))).trans hbw⟩
  case done =>
    rintro Wx ⟨A, n, c, hbox, hfar, hbel⟩ hD
    rw [List.take_of_length_le (Nat.le_refl _)] at hbox
    have c1 := cell_of_one hbox.2.1
    have hk1 := (hbel.block (H + 1) (by omega)).trans k1
    have c2 := cell_of_one hk1
    have f2 := free_of_one hk1
    have HK1 := hide hk1
    have X := hide hbox
    have B := hide hbel
    have Fa := hide hfar
    have HD := hide ((Below.heap_setCell Wx ⟨H + 1, 0, none⟩ (.slice A n c) W0.heap.size (by show W0.heap.size ≠ H + 1; omega)).trans hD)
    clear hbox hbel hfar hk1 hD
    gi_wp2
    refine ⟨by simp, .inl ⟨_, _, rfl, run_takeDeferred HD.out, ?_⟩⟩
    refine ⟨.agg #[.slice A n c], ?_, ?_⟩
    · exact res_one52 rfl _ _ (H + 1) _ rfl (cell_of_one ((World.putObj_heap_other (by omega)).trans (one_setCell HK1.out)))
    · refine ⟨_, rfl, ⟨_, rfl, (acc_put (acc_off X.out.2.2 (H + 1) _ (by omega)) W0.heap.size _ fun e => ?_).set⟩, below_put ((b3.trans (B.out.mono (by rw [HH.out]; omega))).setCell (by rw [HH.out]; show H ≤ H + 1; omega) _) _ _ (by rw [HH.out]; omega)⟩
      have := Fa.out _ e
      omega
theorem advance50 (len K : Nat) (caps : Array Value) (W : World) :
    Calls Tryd.prog 50 #[.int .i64 (len : Int), .func (.func K) #[] caps] W fun e w' => e = .returned (.func (.func 73) #[] #[.pointer (some ⟨W.heap.size + 1, 0, none⟩), .pointer (some ⟨W.heap.size, 0, none⟩)]) ∧ w' = (W.alloc (.cells #[.int .i64 (len : Int)] 3)).alloc (.cells #[.func (.func K) #[] caps] 71) := by
  go_enter Tryd.func50, Tryd.ntmps50
  go_wp2
  go_ret
  exact ⟨rfl, rfl⟩

theorem advM_bit (P : Nat → Bool) (len : Nat) (j : Nat) : ∀ (l : List Nat) (m : Nat), ((l.foldl (fun m i => if P i then m ||| 2 ^ (i + len) else m) m).testBit j = true ↔ m.testBit j = true ∨ ∃ i, i ∈ l ∧ P i = true ∧ j = i + len)
  | [], m => by simp
  | x :: l, m => by
    rw [List.foldl_cons, advM_bit P len j l]
    cases hp : P x with
    | true =>
      simp only [if_true, Nat.testBit_or, Nat.testBit_two_pow, Bool.or_eq_true, decide_eq_true_eq, List.mem_cons]
      constructor
      · rintro ((h | h) | ⟨i, hi, h1, h2⟩)
        · exact Or.inl h
        · exact Or.inr ⟨x, Or.inl rfl, hp, h.symm⟩
        · exact Or.inr ⟨i, Or.inr hi, h1, h2⟩
      · rintro (h | ⟨i, rfl | hi, h1, h2⟩)
        · exact Or.inl (Or.inl h)
        · exact Or.inl (Or.inr h2.symm)
        · exact Or.inr ⟨i, hi, h1, h2⟩
    | false =>
      simp only [Bool.false_eq_true, if_false, List.mem_cons]
      constructor
      · rintro (h | ⟨i, hi, h1, h2⟩)
        · exact Or.inl h
        · exact Or.inr ⟨i, Or.inr hi, h1, h2⟩
      · rintro (h | ⟨i, rfl | hi, h1, h2⟩)
        · exact Or.inl h
        · rw [hp] at h1; cases h1
        · exact Or.inr ⟨i, hi, h1, h2⟩
theorem adv_mask {P : Nat → Bool} {len : Nat} {f g : List Bool} (h : ∀ j, On g j ↔ ∃ i, On f i ∧ P i = true ∧ j = i + len) : maskC g = advM P len (offsC f) := by
  refine Nat.eq_of_testBit_eq fun j => ?_
  rw [Bool.eq_iff_iff, mask_on, h]
  unfold advM
  rw [advM_bit P len j (offsC f) 0]
  simp [offsC_mem]
theorem CondOK.below {N : Nat} {W W' : World} {hv : Value} {P : Nat → Bool} (h : CondOK N W hv P) (hb : Below W.heap.size W W') : CondOK N W' hv P := by
  obtain ⟨K, caps, e, hr, hc⟩ := h
  exact ⟨K, caps, e, hr, fun W2 i h2 hi => hc W2 i (bgo hb h2) hi⟩
/-- advance as a step. -/
theorem advance_step (N len : Nat) (hN : N + 1 ≤ 61) (P : Nat → Bool) (hP : ∀ i, i ≤ N → P i = true → i + len < 61) (T : List Bool → List Bool) (hT : ∀ f : List Bool, f.length = N + 1 → ∀ j, On (T f) j ↔ ∃ i, On f i ∧ P i = true ∧ j = i + len)
    (hv : Value) (W : World) (hc : CondOK N W hv P) (ht : HasT W) : Calls Tryd.prog 50 #[.int .i64 (len : Int), hv] W fun e w' => ∃ sv, e = .returned sv ∧ StepOK N w' sv T ∧ Below W.heap.size W w' := by
  have hc0 := hc
  obtain ⟨K, caps, rfl, hr, hcall⟩ := hc0
  refine (advance50 len K caps W).mono fun e w' ⟨he, hw⟩ => ?_
  subst hw
  have hb := bnew (bnew (Below.refl _ W) (.cells #[.int .i64 (len : Int)] 3)) (.cells #[.func (.func K) #[] caps] 71)
  refine ⟨_, he, ⟨73, _, rfl, run73, fun W' f v h2 hf hvv => ?_⟩, hb⟩
  have hB := bgo hb h2
  have c1 : ((W.alloc (.cells #[.int .i64 (len : Int)] 3)).alloc (.cells #[.func (.func K) #[] caps] 71)).cell? ⟨W.heap.size, 0, none⟩ = some (.int .i64 (len : Int)) := cell_of_one ((Below.heap_alloc _ _ _ (by simp)).trans (heap_alloc_new W _))
  have c2 : ((W.alloc (.cells #[.int .i64 (len : Int)] 3)).alloc (.cells #[.func (.func K) #[] caps] 71)).cell? ⟨W.heap.size + 1, 0, none⟩ = some (.func (.func K) #[] caps) := by
    have := heap_alloc_new (W.alloc (.cells #[.int .i64 (len : Int)] 3)) (.cells #[.func (.func K) #[] caps] 71)
    rw [World.size_alloc] at this
    exact cell_of_one this
  rw [adv_mask (hT f hf)]
  exact adv73 N len hN P hP f hf v W' hvv (W.heap.size + 1) W.heap.size _ (hc.below hB) ((h2.cell (p := ⟨W.heap.size + 1, 0, none⟩) (by simp)).trans c2) ((h2.cell (p := ⟨W.heap.size, 0, none⟩) (by simp; omega)).trans c1) (ht.below hB)

/-- The steps of leaves. -/
theorem leaf_set (set : List (UInt8 × UInt8)) (s : List UInt8) (f : List Bool) (_hf : f.length = s.length + 1) (j : Nat) : On (leafC 1 set s f) j ↔ ∃ i, On f i ∧ (match s[i]? with | some c => hasS set c | none => false) = true ∧ j = i + 1 := by
  unfold On leafC
  rw [getD_range, Bool.and_eq_true, decide_eq_true_eq]
  simp only [if_true]
  constructor
  · rintro ⟨hj, h⟩
    simp only [Bool.and_eq_true, decide_eq_true_eq] at h
    exact ⟨j - 1, h.1.2, h.2, by omega⟩
  · rintro ⟨i, h1, h2, rfl⟩
    have hi : i < s.length := by
      rcases Nat.lt_or_ge i s.length with h | h
      · exact h
      · rw [List.getElem?_eq_none h] at h2; cases h2
    refine ⟨by omega, ?_⟩
    simp only [Nat.add_sub_cancel, Bool.and_eq_true, decide_eq_true_eq]
    exact ⟨⟨by omega, h1⟩, h2⟩
theorem leaf_place (k : Int) (h1 : k ≠ 1) (set : List (UInt8 × UInt8)) (s : List UInt8) (f : List Bool) (hf : f.length = s.length + 1) (j : Nat) : On (leafC k set s f) j ↔ ∃ i, On f i ∧ standsB k s i = true ∧ j = i + 0 := by
  unfold leafC
  conv => lhs; unfold On
  rw [getD_range, Bool.and_eq_true, decide_eq_true_eq, if_neg h1, Bool.and_eq_true]
  constructor
  · rintro ⟨hj, h2, h3⟩
    exact ⟨j, h2, h3, rfl⟩
  · rintro ⟨i, h2, h3, rfl⟩
    have := on_lt h2
    exact ⟨by omega, h2, h3⟩
end Go.Proofs.YtkghbhcjgogaeaaDoor
/-! ### C4 -/
namespace Go.Proofs.YtkghbhcjgogaeaaDoor
open Go.RowKit
open Go.ChangeShapes (block_add)

theorem SetV.form {W : World} {v : Value} {m : Nat} (h : SetV W v m) : ∃ A n c, v = .slice A n c := by
  rcases h with ⟨_, A, c, rfl, _⟩ | ⟨_, g, c, rfl, _⟩
  · exact ⟨_, _, _, rfl⟩
  · exact ⟨_, _, _, rfl⟩
/-- A store into a variable that holds a slice leaves every set as it is. -/
theorem setv_set {W : World} {v : Value} {m b : Nat} {x : Option Addr} {y z : Nat} (h : SetV W v m) (hc : W.cell? ⟨b, 0, none⟩ = some (.slice x y z)) (u : Value) : SetV (W.setCell ⟨b, 0, none⟩ u) v m := by
  rcases h with h | ⟨h0, g, c, rfl, h1, h2, hlt, hg⟩
  · exact Or.inl h
  · refine setv_off (Or.inr ⟨h0, g, c, rfl, h1, h2, hlt, hg⟩) fun e => ?_
    have e : g = b := Option.some.inj e
    subst e
    have := (hg 0 (by omega)).symm.trans hc
    cases this
/-- The slice of steps makes what Ts say, one after the other. -/
def StepsS (N : Nat) (W : World) (A : Option Addr) (n c : Nat) (Ts : List (List Bool → List Bool)) : Prop :=
  ∃ svs, Sl W A n c svs ∧ Ts.length = n ∧ ∀ (i : Nat) (sv : Value) (T : List Bool → List Bool), svs[i]? = some sv → Ts[i]? = some T → StepOK N W sv T
theorem StepsS.below {N : Nat} {W W' : World} {A : Option Addr} {n c : Nat} {Ts : List (List Bool → List Bool)} (h : StepsS N W A n c Ts) (hb : Below W.heap.size W W') : StepsS N W' A n c Ts := by
  obtain ⟨svs, h1, h2, h3⟩ := h
  exact ⟨svs, h1.below hb, h2, fun i sv T h4 h5 => (h3 i sv T h4 h5).below hb⟩
theorem StepsS.at_ {N : Nat} {W : World} {A : Option Addr} {n c : Nat} {Ts : List (List Bool → List Bool)} (h : StepsS N W A n c Ts) {i : Nat} (hi : i < n) : ∃ ad K caps T, A = some ad ∧ ad.block < W.heap.size ∧ Ts[i]? = some T ∧ W.cell? (ad.add i) = some (.func (.func K) #[] caps) ∧
    (∀ xs W, (callFunc K xs).run Tryd.prog W = .ok (.enter K xs) W) ∧ ∀ W' f v, Below W.heap.size W W' → f.length = N + 1 → SetV W' v (maskC f) → Calls Tryd.prog K (#[.agg #[v]] ++ caps) W' (RetO W' (maskC (T f))) := by
  obtain ⟨svs, h1, h2, h3⟩ := h
  obtain ⟨ad, u, hA, hlt, hu, hcell⟩ := h1.reads.at_ hi
  have hT : Ts[i]? = some Ts[i] := List.getElem?_eq_getElem (by omega)
  obtain ⟨K, caps, rfl, hr, hc⟩ := h3 i u _ hu hT
  exact ⟨ad, K, caps, _, hA, hlt, hT, hcell, hr, hc⟩
/-- The steps one after the other. -/
def catT (Ts : List (List Bool → List Bool)) (f : List Bool) : List Bool := Ts.foldl (fun a T => T a) f
theorem run74 (xs : Array Value) (W : World) : (callFunc 74 xs).run Tryd.prog W = .ok (.enter 74 xs) W := by kernel_rfl
theorem run75 (xs : Array Value) (W : World) : (callFunc 75 xs).run Tryd.prog W = .ok (.enter 75 xs) W := by kernel_rfl

set_option maxRecDepth 100000 in
set_option maxHeartbeats 2000000 in
theorem order74 (N : Nat) (Ts : List (List Bool → List Bool)) (hTl : ∀ T ∈ Ts, ∀ g : List Bool, g.length = N + 1 → (T g).length = N + 1) (A : Option Addr) (n c : Nat) (f : List Bool) (hf : f.length = N + 1) (v : Value) (W : World) (hv : SetV W v (maskC f)) (b : Nat)
    (hb : W.cell? ⟨b, 0, none⟩ = some (.slice A n c)) (hS : StepsS N W A n c Ts) : Calls Tryd.prog 74 #[.agg #[v], .pointer (some ⟨b, 0, none⟩)] W (RetO W (maskC (catT Ts f))) := by
  obtain ⟨A0, n0, c0, rfl⟩ := hv.form
  have hblt : b < W.heap.size := World.block_lt_of_cell? _ _ hb
  have hTn : Ts.length = n := by obtain ⟨_, _, h, _⟩ := hS; exact h
  have hn : n ≤ 9223372036854775807 := by obtain ⟨_, h, _⟩ := hS; have := h.1; have := h.2.1; omega
  obtain ⟨H, hH⟩ : ∃ H, W.heap.size = H := ⟨_, rfl⟩
  have HS := hide hS
  have Hv := hide hv
  have Hf := hide hf
  have HTl := hide hTl
  have HTn := hide hTn
  have hb0 := bnew (bnew (Below.refl _ W) (.cells #[.slice A0 n0 c0] 52)) (.cells #[.slice none 0 0] 52)
  have cb := (hb0.cell (p := ⟨b, 0, none⟩) hblt).trans hb
  have k0 : ((W.alloc (.cells #[.slice A0 n0 c0] 52)).alloc (.cells #[.slice none 0 0] 52)).heap[W.heap.size]? = some (.cells #[.slice A0 n0 c0] 52 (0, 0)) := (Below.heap_alloc _ _ _ (by simp)).trans (heap_alloc_new W _)
  have k1 : ((W.alloc (.cells #[.slice A0 n0 c0] 52)).alloc (.cells #[.slice none 0 0] 52)).heap[W.heap.size + 1]? = some (.cells #[.slice none 0 0] 52 (0, 0)) := by
    have := heap_alloc_new (W.alloc (.cells #[.slice A0 n0 c0] 52)) (.cells #[.slice none 0 0] 52)
    rw [World.size_alloc] at this
    exact this
  have B0 := hide hb0
  have K0 := hide k0
  have K1 := hide k1
  have HH := hide hH
  clear hS hv hf hTl hTn hb0 k0 k1 hb hH
  go_enter Tryd.func74, Tryd.ntmps74
  go_wp2
  go_loopw [8] (fun y wr => ∃ (k : Nat) (g : List Bool) (a : Option Addr) (m d : Nat), k ≤ n ∧ y = .int .i64 (k : Int) ∧ wr.heap[W.heap.size]? = some (.cells #[.slice a m d] 52 (0, 0)) ∧ SetV wr (.slice a m d) (maskC g) ∧ g.length = N + 1 ∧ (Ts.take k).foldl (fun a T => T a) f = g ∧
    wr.heap[W.heap.size + 1]? = some (.cells #[.slice none 0 0] 52 (0, 0)) ∧ Below W.heap.size W wr) (fun y _ => n - (intOf y).toNat)
  case atStart => exact ⟨0, f, A0, n0, c0, by omega, rfl, K0.out, Hv.out.below B0.out, Hf.out, rfl, K1.out, B0.out⟩
  case round =>
    obtain ⟨k, g, a, m, d, hk, rfl, q0, hsv, hg, hfold, q1, hbel⟩ := hrel
    obtain ⟨w1, hw1⟩ : ∃ w1, w1 = wr := ⟨wr, rfl⟩
    subst hw1
    by_cases hlt : k < n
    · obtain ⟨ad, K, caps, T, rfl, hadl, hT, hcell, hrun, hcall⟩ := HS.out.at_ hlt
      have hc1 := (hbel.cell (p := ad.add k) (by rw [block_add]; exact hadl)).trans hcell
      have c0' := cell_of_one q0
      have f0' := free_of_one q0
      have HC := hide (hcall w1 g (.slice a m d) hbel hg hsv)
      have B := hide hbel
      have Q0 := hide q0
      have Q1 := hide q1
      have Hg := hide hg
      have Hfold := hide hfold
      have HT := hide hT
      have hsz0 := lt_of_block q0
      have hsz1 := lt_of_block q1
      have hd : decide ((k : Int) < (n : Int)) = true := decide_eq_true (by omega)
      have hd2 : decide (k < n) = true := decide_eq_true hlt
      clear hbel q0 q1 hg hfold hT hsv hcall hcell
      go_wp2_with fail
      with_reducible refine HC.out.mono ?_
      rintro e w2 ⟨u, rfl, ⟨s2, rfl, hs2⟩, hb2⟩
      obtain ⟨a2, m2, d2, rfl⟩ := hs2.form
      have q02 := (hb2.block _ hsz0).trans Q0.out
      have c2 := cell_of_one q02
      have f2 := free_of_one q02
      have S2 := hide hs2
      have Q02 := hide q02
      have Q12 := hide ((hb2.block _ hsz1).trans Q1.out)
      have B2 := hide (bgo B.out hb2)
      have Hc2 := hide c2
      clear hs2 hb2 q02
      go_wp2
      go_roundw
      case rel =>
        refine ⟨k + 1, T g, a2, m2, d2, by omega, by go_num, one_setCell Q02.out, setv_set S2.out Hc2.out _, HTl.out T (List.mem_of_getElem? HT.out) g Hg.out, ?_, ?_, B2.out.setCell (Nat.le_refl _) _⟩
        · rw [take_next HT.out, List.foldl_append, Hfold.out]; rfl
        · exact (Below.heap_setCell w2 ⟨W.heap.size, 0, none⟩ _ (W.heap.size + 1) (by show W.heap.size + 1 ≠ W.heap.size; omega)).trans Q12.out
      case measure => simp [intOf]; omega
    · obtain rfl : k = n := by omega
      have hfull : catT Ts f = g := by
        unfold catT
        rw [← hfold, List.take_of_length_le (by rw [HTn.out]; omega)]
      have Hfull := hide hfull
      have c0' := cell_of_one q0
      have c1' := cell_of_one q1
      have f1' := free_of_one q1
      have S := hide hsv
      have B := hide hbel
      have Q1 := hide q1
      have Hc1 := hide c1'
      clear hfull hfold hsv hbel q0 q1 hg
      go_wp2
      refine bodyPost_ret (res_one52 rfl _ _ (W.heap.size + 1) (.slice a m d) rfl (cell_of_one (one_setCell Q1.out))) rfl ⟨_, rfl, ⟨_, rfl, by rw [Hfull.out]; exact setv_set S.out Hc1.out _⟩, B.out.setCell (by show W.heap.size ≤ W.heap.size + 1; omega) _⟩
theorem inorder52 (A : Option Addr) (n c : Nat) (W : World) : Calls Tryd.prog 52 #[.slice A n c] W fun e w' => e = .returned (.func (.func 74) #[] #[.pointer (some ⟨W.heap.size, 0, none⟩)]) ∧ w' = W.alloc (.cells #[.slice A n c] 77) := by
  go_enter Tryd.func52, Tryd.ntmps52
  go_wp2
  go_ret
  exact ⟨rfl, rfl⟩
theorem oneof54 (A : Option Addr) (n c : Nat) (W : World) : Calls Tryd.prog 54 #[.slice A n c] W fun e w' => e = .returned (.func (.func 75) #[] #[.pointer (some ⟨W.heap.size, 0, none⟩)]) ∧ w' = W.alloc (.cells #[.slice A n c] 77) := by
  go_enter Tryd.func54, Tryd.ntmps54
  go_wp2
  go_ret
  exact ⟨rfl, rfl⟩
theorem inorder_step (N : Nat) (Ts : List (List Bool → List Bool)) (hTl : ∀ T ∈ Ts, ∀ g : List Bool, g.length = N + 1 → (T g).length = N + 1) (A : Option Addr) (n c : Nat) (W : World) (hS : StepsS N W A n c Ts) :
    Calls Tryd.prog 52 #[.slice A n c] W fun e w' => ∃ sv, e = .returned sv ∧ StepOK N w' sv (catT Ts) ∧ Below W.heap.size W w' := by
  refine (inorder52 A n c W).mono fun e w' ⟨he, hw⟩ => ?_
  subst hw
  have hb := bnew (Below.refl _ W) (.cells #[.slice A n c] 77)
  refine ⟨_, he, ⟨74, _, rfl, run74, fun W' f v h2 hf hv => ?_⟩, hb⟩
  exact order74 N Ts hTl A n c f hf v W' hv W.heap.size ((h2.cell (p := ⟨W.heap.size, 0, none⟩) (by simp)).trans (cell_of_one (heap_alloc_new W _))) (hS.below (bgo hb h2))
/-- What one of the steps makes. -/
def altT (N : Nat) (Ts : List (List Bool → List Bool)) (f : List Bool) : List Bool := Ts.foldl (fun a T => bothC a (T f)) (noneC N)
theorem altT_len {N : Nat} {Ts : List (List Bool → List Bool)} (hTl : ∀ T ∈ Ts, ∀ g : List Bool, g.length = N + 1 → (T g).length = N + 1) {f : List Bool} (hf : f.length = N + 1) : ∀ (l : List (List Bool → List Bool)) (a : List Bool), (∀ T ∈ l, T ∈ Ts) → a.length = N + 1 → (l.foldl (fun a T => bothC a (T f)) a).length = N + 1
  | [], a, _, ha => ha
  | T :: l, a, hl, ha => by
    rw [List.foldl_cons]
    exact altT_len hTl hf l _ (fun U hU => hl U (List.mem_cons_of_mem _ hU)) (bothC_len ha (hTl T (hl T (by simp)) f hf))
theorem mask61 {f : List Bool} {N : Nat} (hN : N + 1 ≤ 61) (hf : f.length = N + 1) : maskC f < 2305843009213693952 := by
  have := mask_lt f
  rw [hf] at this
  exact Nat.lt_of_lt_of_le this (Nat.pow_le_pow_right (n := 2) (by omega) hN)
set_option maxRecDepth 100000 in
set_option maxHeartbeats 2000000 in
theorem one75 (N : Nat) (hN : N + 1 ≤ 61) (Ts : List (List Bool → List Bool)) (hTl : ∀ T ∈ Ts, ∀ g : List Bool, g.length = N + 1 → (T g).length = N + 1) (A : Option Addr) (n c : Nat) (f : List Bool) (hf : f.length = N + 1) (v : Value) (W : World) (hv : SetV W v (maskC f)) (b : Nat)
    (hb : W.cell? ⟨b, 0, none⟩ = some (.slice A n c)) (hS : StepsS N W A n c Ts) : Calls Tryd.prog 75 #[.agg #[v], .pointer (some ⟨b, 0, none⟩)] W (RetO W (maskC (altT N Ts f))) := by
  obtain ⟨A0, n0, c0, rfl⟩ := hv.form
  have hblt : b < W.heap.size := World.block_lt_of_cell? _ _ hb
  have hTn : Ts.length = n := by obtain ⟨_, _, h, _⟩ := hS; exact h
  have hn : n ≤ 9223372036854775807 := by obtain ⟨_, h, _⟩ := hS; have := h.1; have := h.2.1; omega
  have HS := hide hS
  have Hv := hide hv
  have Hf := hide hf
  have HTl := hide hTl
  have HTn := hide hTn
  have hb0 := bnew (bnew (bnew (Below.refl _ W) (.cells #[.slice A0 n0 c0] 52)) (.cells #[.slice none 0 0] 52)) (.cells #[.slice none 0 0] 52)
  have cb := (hb0.cell (p := ⟨b, 0, none⟩) hblt).trans hb
  obtain ⟨Wx, hWx⟩ : ∃ Wx, ((W.alloc (.cells #[.slice A0 n0 c0] 52)).alloc (.cells #[.slice none 0 0] 52)).alloc (.cells #[.slice none 0 0] 52) = Wx := ⟨_, rfl⟩
  have k0 : Wx.heap[W.heap.size]? = some (.cells #[.slice A0 n0 c0] 52 (0, 0)) := by
    rw [← hWx]
    exact (Below.heap_alloc _ _ _ (by simp; omega)).trans ((Below.heap_alloc _ _ _ (by simp)).trans (heap_alloc_new W _))
  have k1 : Wx.heap[W.heap.size + 1]? = some (.cells #[.slice none 0 0] 52 (0, 0)) := by
    rw [← hWx]
    have := heap_alloc_new (W.alloc (.cells #[.slice A0 n0 c0] 52)) (.cells #[.slice none 0 0] 52)
    rw [World.size_alloc] at this
    exact (Below.heap_alloc _ _ _ (by simp)).trans this
  have k2 : Box (W.heap.size + 1 + 1) Wx (W.heap.size + 1 + 1) (.slice none 0 0) 0 := by
    rw [← hWx]
    have := Box.new (n0 := W.heap.size + 1 + 1) ((W.alloc (.cells #[.slice A0 n0 c0] 52)).alloc (.cells #[.slice none 0 0] 52)) (by simp)
    simpa using this
  have hxs : Wx.heap.size = W.heap.size + 3 := by rw [← hWx]; simp
  rw [hWx] at hb0
  have B0 := hide hb0
  have K0 := hide k0
  have K1 := hide k1
  have K2 := hide k2
  have Hxs := hide hxs
  have HWx := hide hWx
  clear hS hv hf hTl hTn hb0 k0 k1 k2 hb hxs hWx
  go_enter Tryd.func75, Tryd.ntmps75
  go_wp2
  rw [HWx.out]
  go_loopw [9] (fun y wr => ∃ (k : Nat) (g : List Bool) (a : Option Addr) (m d : Nat), k ≤ n ∧ y = .int .i64 (k : Int) ∧ Box (W.heap.size + 1 + 1) wr (W.heap.size + 1 + 1) (.slice a m d) (maskC g) ∧ g.length = N + 1 ∧ (Ts.take k).foldl (fun a T => bothC a (T f)) (noneC N) = g ∧
    Below (W.heap.size + 1 + 1) Wx wr) (fun y _ => n - (intOf y).toNat)
  case atStart => exact ⟨0, noneC N, none, 0, 0, by omega, rfl, by rw [mask_none]; exact K2.out, noneC_len N, rfl, Below.refl _ _⟩
  case round =>
    obtain ⟨k, g, a, m, d, hk, rfl, hbox, hg, hfold, hbel⟩ := hrel
    obtain ⟨w1, hw1⟩ : ∃ w1, w1 = wr := ⟨wr, rfl⟩
    subst hw1
    have hWw : Below W.heap.size W w1 := B0.out.trans (hbel.mono (by omega))
    by_cases hlt : k < n
    · obtain ⟨ad, K, caps, T, rfl, hadl, hT, hcell, hrun, hcall⟩ := HS.out.at_ hlt
      have hc1 := (hWw.cell (p := ad.add k) (by rw [block_add]; exact hadl)).trans hcell
      have c0' := cell_of_one ((hbel.block W.heap.size (by omega)).trans K0.out)
      have HC := hide (hcall w1 f (.slice A0 n0 c0) hWw Hf.out (Hv.out.below hWw))
      have X := hide hbox
      have B := hide hbel
      have Hg := hide hg
      have Hfold := hide hfold
      have HT := hide hT
      have hsz := hbox.lt
      have hd : decide ((k : Int) < (n : Int)) = true := decide_eq_true (by omega)
      have hd2 : decide (k < n) = true := decide_eq_true hlt
      clear hbox hbel hg hfold hT hcall hcell hWw
      go_wp2_with fail
      with_reducible refine HC.out.mono ?_
      rintro e w2 ⟨u, rfl, ⟨s2, rfl, hs2⟩, hb2⟩
      have HA := hide (add76 (W.heap.size + 1 + 1) (W.heap.size + 1 + 1) (maskC g) (maskC (T f)) (.slice a m d) s2 w2 (X.out.below hb2) (by have := hb2.size; omega) (mask61 hN Hg.out) (mask61 hN (HTl.out T (List.mem_of_getElem? HT.out) f Hf.out)) hs2)
      have B2 := hide hb2
      clear hs2 hb2
      go_wp2_with fail
      with_reducible refine HA.out.mono ?_
      rintro e w3 ⟨u3, v3, rfl, -, hbx3, ht3, -⟩
      obtain ⟨a3, m3, d3, rfl⟩ := hbx3.2.2.form
      have X3 := hide hbx3
      have B3 := hide (show Below (W.heap.size + 1 + 1) w2 w3 from ht3.below (by have := B2.out.size; omega) fun q h => by
        rcases h with h | h
        · omega
        · exact (X.out.low h).1)
      clear hbx3 ht3
      go_wp2
      go_roundw
      case rel =>
        refine ⟨k + 1, bothC g (T f), a3, m3, d3, by omega, by go_num, ?_, bothC_len Hg.out (HTl.out T (List.mem_of_getElem? HT.out) f Hf.out), ?_, (B.out.trans (B2.out.mono (by omega))).trans B3.out⟩
        · rw [mask_both (by rw [Hg.out, HTl.out T (List.mem_of_getElem? HT.out) f Hf.out])]; exact X3.out
        · rw [take_next HT.out, List.foldl_append, Hfold.out]; rfl
      case measure => simp [intOf]; omega
    · obtain rfl : k = n := by omega
      have hfull : altT N Ts f = g := by
        unfold altT
        rw [← hfold, List.take_of_length_le (by rw [HTn.out]; omega)]
      have Hfull := hide hfull
      have c2' := cell_of_one hbox.2.1
      have q1 := (hbel.block (W.heap.size + 1) (by omega)).trans K1.out
      have c1' := cell_of_one q1
      have f1' := free_of_one q1
      have X := hide hbox
      have B := hide hWw
      have Q1 := hide q1
      clear hfull hfold hbel q1 hg hbox hWw
      go_wp2
      refine bodyPost_ret (res_one52 rfl _ _ (W.heap.size + 1) (.slice a m d) rfl (cell_of_one (one_setCell Q1.out))) rfl ⟨_, rfl, ⟨_, rfl, by rw [Hfull.out]; exact (acc_off X.out.2.2 (W.heap.size + 1) _ (by omega)).set⟩, B.out.setCell (by show W.heap.size ≤ W.heap.size + 1; omega) _⟩
theorem oneof_step (N : Nat) (hN : N + 1 ≤ 61) (Ts : List (List Bool → List Bool)) (hTl : ∀ T ∈ Ts, ∀ g : List Bool, g.length = N + 1 → (T g).length = N + 1) (A : Option Addr) (n c : Nat) (W : World) (hS : StepsS N W A n c Ts) :
    Calls Tryd.prog 54 #[.slice A n c] W fun e w' => ∃ sv, e = .returned sv ∧ StepOK N w' sv (altT N Ts) ∧ Below W.heap.size W w' := by
  refine (oneof54 A n c W).mono fun e w' ⟨he, hw⟩ => ?_
  subst hw
  have hb := bnew (Below.refl _ W) (.cells #[.slice A n c] 77)
  refine ⟨_, he, ⟨75, _, rfl, run75, fun W' f v h2 hf hv => ?_⟩, hb⟩
  exact one75 N hN Ts hTl A n c f hf v W' hv W.heap.size ((h2.cell (p := ⟨W.heap.size, 0, none⟩) (by simp)).trans (cell_of_one (heap_alloc_new W _))) (hS.below (bgo hb h2))
end Go.Proofs.YtkghbhcjgogaeaaDoor
