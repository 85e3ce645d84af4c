/- TopRegex: Zh. -/
import Derived.Test.YtlnbjdlooghpeaaGreatDoorTZg
import Derived.Test.YtlnbjdlooghpeaaGreatDoorTN1
import Derived.Laws.Tables
import Derived.Test.YtlnbjdlooghpeaaGreatDoorTN3
import Derived.Deep.Cut
import Derived.Deep.RegionHeld3
namespace Go.Proofs.YtlnbjdlooghpeaaGreatDoor
open Go.RowKit
theorem word_val (c : UInt8) : wordC c = ((decide (97 ≤ (c.toNat : Int)) && decide ((c.toNat : Int) ≤ 122)) || (decide (65 ≤ (c.toNat : Int)) && decide ((c.toNat : Int) ≤ 90)) || (decide (48 ≤ (c.toNat : Int)) && decide ((c.toNat : Int) ≤ 57)) || decide ((c.toNat : Int) = 95)) := by
  have e1 : ∀ n : UInt8, (decide (n ≤ c)) = decide ((n.toNat : Int) ≤ (c.toNat : Int)) := fun n => by rw [Bool.eq_iff_iff]; simp [UInt8.le_iff_toNat_le]
  have e2 : ∀ n : UInt8, (decide (c ≤ n)) = decide ((c.toNat : Int) ≤ (n.toNat : Int)) := fun n => by rw [Bool.eq_iff_iff]; simp [UInt8.le_iff_toNat_le]
  have e3 : (decide (c = 95)) = decide ((c.toNat : Int) = 95) := by rw [Bool.eq_iff_iff]; simp [← UInt8.toNat_inj]; omega
  unfold wordC
  rw [e1, e1, e1, e2, e2, e2, e3]
  rfl
set_option maxRecDepth 100000 in
set_option maxHeartbeats 4000000 in
theorem word48 (c : UInt8) (W : World) : Calls Tryz.prog 60 #[.int .u8 (c.toNat : Int)] W fun e w' => e = .returned (.bool (wordC c)) ∧ W = w' := by
  obtain ⟨q, hq⟩ : ∃ q, wordC c = q := ⟨_, rfl⟩
  have Hw := hide (word_val c)
  have hc := c.toNat_lt
  rw [hq] at Hw ⊢
  obtain ⟨z, hz⟩ : ∃ z : Int, (c.toNat : Int) = z := ⟨_, rfl⟩
  have h0 : 0 ≤ z := by omega
  have h1 : z ≤ 255 := by omega
  rw [hz] at Hw ⊢
  clear hz hq hc
  go_enter Tryz.func60, Tryz.ntmps60
  go_wp2
  all_goals (go_ret; exact ⟨ret_bool (by rw [Hw.out, Bool.eq_iff_iff]; simp; omega), rfl⟩)
theorem byte10 (c : UInt8) : ((c.toNat : Int) == 10) = decide (c = 10) := by
  rw [Bool.eq_iff_iff]
  simp [← UInt8.toNat_inj]
  omega
theorem get_at (s : ByteArray) (i : Nat) (h : i < s.size) : s.data.toList[i]? = some s[i] := by
  rw [List.getElem?_eq_getElem (by simpa using h)]
  rfl
theorem lf46 (s : ByteArray) (i b : Nat) (W : World) (hi : i < s.size) (_hs : s.size ≤ 100000) (hc : W.cell? ⟨b, 0, none⟩ = some (.string s)) :
    Calls Tryz.prog 58 #[.int .i64 (i : Int), .pointer (some ⟨b, 0, none⟩)] W fun e w' => e = .returned (.bool (decide (s.data.toList[i]? = some 10))) ∧ W = w' := by
  obtain ⟨q, hq⟩ : ∃ q, decide (s.data.toList[i]? = some 10) = q := ⟨_, rfl⟩
  have Hq := hide (show ((s[i].toNat : Int) == 10) = q by rw [← hq, get_at s i hi, byte10]; simp)
  rw [hq]
  clear hq
  go_enter Tryz.func58, Tryz.ntmps58
  go_wp2
  go_ret
  exact ⟨ret_bool Hq.out, rfl⟩
theorem in47_in (s : ByteArray) (i b : Nat) (W : World) (hi : i < s.size) (_hs : s.size ≤ 100000) (hc : W.cell? ⟨b, 0, none⟩ = some (.string s)) :
    Calls Tryz.prog 59 #[.int .i64 (i : Int), .pointer (some ⟨b, 0, none⟩)] W fun e w' => e = .returned (.bool (wordB s.data.toList i)) ∧ W = w' := by
  obtain ⟨q, hq⟩ : ∃ q, wordB s.data.toList i = q := ⟨_, rfl⟩
  have HC := hide (fun w => word48 s[i] w)
  have e : wordC s[i] = q := by rw [← hq]; unfold wordB; rw [get_at s i hi]
  rw [hq]
  rw [e] at HC
  clear hq e
  go_enter Tryz.func59, Tryz.ntmps59
  go_wp2_with (go_at_call 60; refine (HC.out _).mono ?_; rintro e w' ⟨rfl, rfl⟩)
  go_ret
  exact ⟨rfl, rfl⟩
theorem in47_neg (s : ByteArray) (b : Nat) (W : World) (_hs : s.size ≤ 100000) (_hc : W.cell? ⟨b, 0, none⟩ = some (.string s)) :
    Calls Tryz.prog 59 #[.int .i64 (-1), .pointer (some ⟨b, 0, none⟩)] W fun e w' => e = .returned (.bool false) ∧ W = w' := by
  go_enter Tryz.func59, Tryz.ntmps59
  go_wp2
  go_ret
  exact ⟨rfl, rfl⟩
theorem in47_end (s : ByteArray) (b i : Nat) (W : World) (hi : s.size ≤ i) (_hi2 : i ≤ 100000) (hc : W.cell? ⟨b, 0, none⟩ = some (.string s)) :
    Calls Tryz.prog 59 #[.int .i64 (i : Int), .pointer (some ⟨b, 0, none⟩)] W fun e w' => e = .returned (.bool false) ∧ W = w' := by
  go_enter Tryz.func59, Tryz.ntmps59
  go_wp2
  go_ret
  exact ⟨rfl, rfl⟩
theorem in47 (s : ByteArray) (b i : Nat) (W : World) (hi : i ≤ s.size) (hs : s.size ≤ 100000) (hc : W.cell? ⟨b, 0, none⟩ = some (.string s)) :
    Calls Tryz.prog 59 #[.int .i64 (i : Int), .pointer (some ⟨b, 0, none⟩)] W fun e w' => e = .returned (.bool (wordB s.data.toList i)) ∧ W = w' := by
  by_cases h : i < s.size
  · exact in47_in s i b W h hs hc
  · rw [word_out _ _ (by simp; omega)]
    exact in47_end s b i W (by omega) (by omega) hc
theorem in47_before (s : ByteArray) (b i : Nat) (z : Int) (hz : z = (i : Int) - 1) (W : World) (hi : i ≤ s.size) (hs : s.size ≤ 100000) (hc : W.cell? ⟨b, 0, none⟩ = some (.string s)) :
    Calls Tryz.prog 59 #[.int .i64 z, .pointer (some ⟨b, 0, none⟩)] W fun e w' => e = .returned (.bool (if i = 0 then false else wordB s.data.toList (i - 1))) ∧ W = w' := by
  by_cases h : i = 0
  · subst h
    rw [if_pos rfl, hz]
    exact in47_neg s b W hs hc
  · rw [if_neg h, hz, show (i : Int) - 1 = ((i - 1 : Nat) : Int) by omega]
    exact in47 s b (i - 1) W (by omega) hs hc
def CondOK (N : Nat) (W : World) (hv : Value) (P : Nat → Bool) : Prop :=
  ∃ K caps, hv = .func (.func K) #[] caps ∧ (∀ xs W, (callFunc K xs).run Tryz.prog W = .ok (.enter K xs) W) ∧
    ∀ W' i, Below W.heap.size W W' → i ≤ N → Calls Tryz.prog K (#[.int .i64 (i : Int)] ++ caps) W' fun e w' => e = .returned (.bool (P i)) ∧ Below W'.heap.size W' w'
theorem run51 (xs : Array Value) (W : World) : (callFunc 63 xs).run Tryz.prog W = .ok (.enter 63 xs) W := by kernel_rfl
theorem run56 (xs : Array Value) (W : World) : (callFunc 68 xs).run Tryz.prog W = .ok (.enter 68 xs) W := by kernel_rfl
theorem run57 (xs : Array Value) (W : World) : (callFunc 69 xs).run Tryz.prog W = .ok (.enter 69 xs) W := by kernel_rfl
theorem run58Z (xs : Array Value) (W : World) : (callFunc 70 xs).run Tryz.prog W = .ok (.enter 70 xs) W := by kernel_rfl
theorem cond56 (s : ByteArray) (b b' i : Nat) (W : World) (hi : i ≤ s.size) (hs : s.size ≤ 100000) (hc : W.cell? ⟨b, 0, none⟩ = some (.string s)) (hc' : W.cell? ⟨b', 0, none⟩ = some (.func (.func 58) #[] #[.pointer (some ⟨b, 0, none⟩)])) :
    Calls Tryz.prog 68 #[.int .i64 (i : Int), .pointer (some ⟨b', 0, none⟩)] W fun e w' => e = .returned (.bool (standsB 5 s.data.toList i)) ∧ W = w' := by
  have hst : standsB 5 s.data.toList i = (decide (i = 0) || decide (s.data.toList[i - 1]? = some 10)) := rfl
  obtain ⟨q, hq⟩ : ∃ q, standsB 5 s.data.toList i = q := ⟨_, rfl⟩
  rw [hq] at hst ⊢
  by_cases h : i = 0
  · subst h
    have Hq := hide (show true = q by rw [hst]; simp)
    clear hst hq
    go_enter Tryz.func68, Tryz.ntmps68
    go_wp2
    go_ret
    exact ⟨ret_bool Hq.out, rfl⟩
  · have h0 : ((i : Int) == 0) = false := beq_eq_false_iff_ne.2 (by omega)
    have HC := hide (fun w => lf46 s (i - 1) b w (by omega) hs)
    have e : decide (s.data.toList[i - 1]? = some 10) = q := by rw [hst]; simp [h]
    rw [e] at HC
    have hi1 : 1 ≤ (i : Int) := by omega
    have hz : (i : Int) - 1 = ((i - 1 : Nat) : Int) := by omega
    have Hz := hide hz
    clear hst hq e h hz
    go_enter Tryz.func68, Tryz.ntmps68
    go_wp2_with fail
    rw [Hz.out]
    refine (HC.out _ hc).mono ?_
    rintro e w' ⟨rfl, rfl⟩
    go_wp2
    go_ret
    exact ⟨rfl, rfl⟩
theorem cond57 (s : ByteArray) (b b' i : Nat) (W : World) (hi : i ≤ s.size) (hs : s.size ≤ 100000) (hc : W.cell? ⟨b, 0, none⟩ = some (.string s)) (hc' : W.cell? ⟨b', 0, none⟩ = some (.func (.func 58) #[] #[.pointer (some ⟨b, 0, none⟩)])) :
    Calls Tryz.prog 69 #[.int .i64 (i : Int), .pointer (some ⟨b, 0, none⟩), .pointer (some ⟨b', 0, none⟩)] W fun e w' => e = .returned (.bool (standsB 6 s.data.toList i)) ∧ W = w' := by
  have hst : standsB 6 s.data.toList i = (decide (i = s.data.toList.length) || decide (s.data.toList[i]? = some 10)) := rfl
  rw [size_list] at hst
  obtain ⟨q, hq⟩ : ∃ q, standsB 6 s.data.toList i = q := ⟨_, rfl⟩
  rw [hq] at hst ⊢
  by_cases h : i = s.size
  · have h0 : ((i : Int) == (s.size : Int)) = true := by rw [h]; simp
    have Hq := hide (show true = q by rw [hst]; simp [h])
    clear hst hq h
    go_enter Tryz.func69, Tryz.ntmps69
    go_wp2
    go_ret
    exact ⟨ret_bool Hq.out, rfl⟩
  · have h0 : ((i : Int) == (s.size : Int)) = false := beq_eq_false_iff_ne.2 (by omega)
    have HC := hide (fun w => lf46 s i b w (by omega) hs)
    have e : decide (s.data.toList[i]? = some 10) = q := by rw [hst]; simp [h]
    rw [e] at HC
    clear hst hq e h
    go_enter Tryz.func69, Tryz.ntmps69
    go_wp2_with (go_at_call 58; refine (HC.out _ hc).mono ?_; rintro e w' ⟨rfl, rfl⟩)
    go_ret
    exact ⟨rfl, rfl⟩
set_option maxRecDepth 100000 in
set_option maxHeartbeats 1000000 in
theorem cond58 (s : ByteArray) (b b' i : Nat) (k : Int) (h5 : k ≠ 5) (h6 : k ≠ 6) (W : World) (hi : i ≤ s.size) (hs : s.size ≤ 100000) (hc : W.cell? ⟨b, 0, none⟩ = some (.string s)) (hc' : W.cell? ⟨b', 0, none⟩ = some (.func (.func 59) #[] #[.pointer (some ⟨b, 0, none⟩)])) :
    Calls Tryz.prog 70 #[.int .i64 (i : Int), .pointer (some ⟨b', 0, none⟩)] W fun e w' => e = .returned (.bool (standsB k s.data.toList i)) ∧ Drawn W w' := by
  have hst : standsB k s.data.toList i = ((if i = 0 then false else wordB s.data.toList (i - 1)) != wordB s.data.toList i) := by unfold standsB; rw [if_neg h5, if_neg h6]
  obtain ⟨q, hq⟩ : ∃ q, standsB k s.data.toList i = q := ⟨_, rfl⟩
  rw [hq] at hst ⊢
  obtain ⟨z, hz⟩ : ∃ z : Int, z = (i : Int) - 1 := ⟨_, rfl⟩
  have HA := hide (fun w => in47_before s b i z hz w hi hs)
  have HB := hide (fun w => in47 s b i w hi hs)
  obtain ⟨x, hx⟩ : ∃ x, (if i = 0 then false else wordB s.data.toList (i - 1)) = x := ⟨_, rfl⟩
  obtain ⟨y, hy⟩ : ∃ y, wordB s.data.toList i = y := ⟨_, rfl⟩
  rw [hx] at HA hst
  rw [hy] at HB hst
  have Hq := hide hst
  have HE := hide (fun j => (show (W.drewN j).cell? ⟨b, 0, none⟩ = some (.string s) from hc))
  have hw : IntKind.i64.wrap ((i : Int) - 1) = z := by rw [hz]; exact IntWalk.i64_in _ (by omega)
  clear hq hx hy hst h5 h6 hz
  go_enter Tryz.func70, Tryz.ntmps70
  go_wp2
  go_quiet (first | (go_at_call 59; with_reducible exact quiet_left (HA.out _ (HE.out _))) | (go_at_call 59; with_reducible exact quiet_left (HB.out _ (HE.out _))))
  go_wp2
  go_ret
  exact ⟨ret_bool (by rw [Hq.out]; cases x <;> cases y <;> rfl), ⟨_, rfl⟩⟩
end Go.Proofs.YtlnbjdlooghpeaaGreatDoor
namespace Go.Proofs.YtlnbjdlooghpeaaGreatDoor
open Go.RowKit
def tabC (set : List (UInt8 × UInt8)) (k : Nat) : List Value := (List.range 256).map fun i => .bool (decide (i < k) && hasS set (UInt8.ofNat i))
theorem tabC_len (set : List (UInt8 × UInt8)) (k : Nat) : (tabC set k).length = 256 := by simp [tabC]
theorem tabC_at (set : List (UInt8 × UInt8)) (k i : Nat) (hi : i < 256) : (tabC set k)[i]? = some (.bool (decide (i < k) && hasS set (UInt8.ofNat i))) := by simp [tabC, hi]
theorem tabC_set (set : List (UInt8 × UInt8)) (k : Nat) (q : Bool) (hq : hasS set (UInt8.ofNat k) = q) : (tabC set k).set k (.bool q) = tabC set (k + 1) := by
  refine List.ext_getElem? fun i => ?_
  by_cases hi : i < 256
  · rw [List.getElem?_set, tabC_len]
    by_cases e : k = i
    · subst e
      rw [if_pos rfl, if_pos hi, tabC_at _ _ _ hi, hq]
      simp
    · rw [if_neg e, tabC_at _ _ _ hi, tabC_at _ _ _ hi]
      congr 2
      have : decide (i < k + 1) = decide (i < k) := by rw [Bool.eq_iff_iff]; simp; omega
      rw [this]
  · rw [List.getElem?_eq_none (by rw [List.length_set, tabC_len]; omega), List.getElem?_eq_none (by rw [tabC_len]; omega)]
theorem zero73 : Tryz.zeroCells94 = (tabC [] 0).toArray := by kernel_rfl
theorem tabC_zero (set : List (UInt8 × UInt8)) : tabC set 0 = tabC [] 0 := by simp [tabC]
theorem tab_one (set : List (UInt8 × UInt8)) (k : Nat) : (tabC set k).toArray.all (·.oneCell') = true := by
  rw [Array.all_eq_true_iff_forall_mem]
  intro v hv
  simp [tabC] at hv
  obtain ⟨i, _, rfl⟩ := hv
  rfl
theorem info73 : (Tryz.prog.info? 94).map (fun i => i.size) = some 256 := by kernel_rfl
set_option maxRecDepth 100000 in
set_option maxHeartbeats 1000000 in
theorem table49 {W : World} {ok : Nat → Prop} {A : Option Addr} {n c : Nat} {set : List (UInt8 × UInt8)} (h : RgS W ok A n c set) :
    Calls Tryz.prog 61 #[.slice A n c] W fun e w' => e = .returned (.agg (tabC set 256).toArray) ∧ Below W.heap.size W w' := by
  have H := hide h
  clear h
  go_enter Tryz.func61, Tryz.ntmps61
  go_wp2
  go_loopw [5] (fun y wr => ∃ k : Nat, k ≤ 256 ∧ y = .int .i64 (k : Int) ∧ wr.heap[W.heap.size + 1]? = some (.cells (tabC set k).toArray 94 (0, 0)) ∧ wr.heap[W.heap.size]? = some (.cells (tabC [] 0).toArray 94 (0, 0)) ∧ Below W.heap.size W wr) (fun y _ => 256 - (intOf y).toNat)
  case atStart =>
    refine ⟨0, by omega, rfl, ?_, ?_, bnew (bnew (Below.refl _ _) _) _⟩
    · rw [tabC_zero, ← zero73]
      have := heap_alloc_new (W.alloc (.cells Tryz.zeroCells94 94)) (.cells Tryz.zeroCells94 94)
      rw [World.size_alloc] at this
      exact this
    · rw [← zero73]
      exact (Below.heap_alloc _ _ _ (by simp)).trans (heap_alloc_new W _)
  case round =>
    obtain ⟨k, hk, rfl, ht, hr, hb⟩ := hrel
    obtain ⟨w1, hw1⟩ : ∃ w1, w1 = wr := ⟨wr, rfl⟩
    subst hw1
    have T := hide ht
    have R := hide hr
    have B := hide hb
    by_cases hlt : k < 256
    · obtain ⟨q, hq⟩ : ∃ q, hasS set (UInt8.ofNat k) = q := ⟨_, rfl⟩
      have hv : (UInt8.ofNat k).toNat = k := by simp; omega
      have HC := hide (phas72 (H.out.below hb) (UInt8.ofNat k) q hq)
      rw [hv] at HC
      have Hq := hide hq
      have hd : decide ((k : Int) < 256) = true := decide_eq_true (by omega)
      have hkl : W.heap.size + 1 < w1.heap.size := lt_of_block ht
      clear ht hr hb hq hv
      go_wp2_with fail
      with_reducible refine HC.out.mono ?_
      rintro e w2 ⟨rfl, hb2⟩
      have T2 := (hb2.block _ hkl).trans T.out
      have c2 : w2.cell? ⟨W.heap.size + 1, k, none⟩ = some (.bool (decide (k < k) && hasS set (UInt8.ofNat k))) := by
        have := tabC_at set k k hlt
        simp [World.cell?, T2, this]
      have f2 : w2.frozen? ⟨W.heap.size + 1, k, none⟩ = false := by simp [World.frozen?, T2]
      have HT2 := hide T2
      have R2 := hide ((hb2.block _ (by omega)).trans R.out)
      have B2 := hide (bgo B.out hb2)
      clear T2 hb2
      go_wp2
      go_roundw
      case rel =>
        refine ⟨k + 1, by omega, by go_num, ?_, (Below.heap_setCell _ _ _ _ (by show W.heap.size ≠ W.heap.size + 1; omega)).trans R2.out, B2.out.setCell (by show W.heap.size ≤ W.heap.size + 1; omega) _⟩
        have := Go.Joins.block_setCell (i := k) HT2.out (.bool q)
        rw [List.setIfInBounds_toArray, tabC_set set k q Hq.out] at this
        exact this
      case measure => simp [intOf]; omega
    · obtain rfl : k = 256 := by omega
      clear hb
      go_wp2_with (first | (refine wpList_load_row rfl 94 _ rfl _ rfl 94 _ _ _ T.out Tryz.underlying94 rfl (by rw [info73]; simp [tabC_len]) ?_) | (refine wpList_store_row rfl 94 _ _ rfl _ (tabC set 256).toArray rfl rfl 94 _ R.out (by rw [info73]; simp [tabC_len]) (by simp [tabC_len]) (tab_one _ _) ?_))
      refine bodyPost_ret (results_cell_row rfl _ _ W.heap.size 94 (tabC set 256).toArray (0, 0) _ rfl ?_ Tryz.underlying94 rfl (by rw [info73]; simp [tabC_len])) rfl ⟨rfl, ?_⟩
      · exact setRow_heap w1 _ _ _ _ _ R.out
      · exact ⟨B.out.os, B.out.tape, B.out.output, by rw [setRow_size]; exact B.out.size, fun k hk => by
          have hne : W.heap.size ≠ k := by omega
          have e : (w1.setRow W.heap.size (tabC set 256).toArray).heap[k]? = w1.heap[k]? := by simp [World.setRow, Array.getElem?_modify, hne]
          exact e.trans (B.out.block k hk)⟩
theorem tab_at (set : List (UInt8 × UInt8)) (c : UInt8) : (tabC set 256)[c.toNat]? = some (.bool (hasS set c)) := by
  have hc : c.toNat < 256 := c.toNat_lt
  rw [tabC_at _ _ _ hc]
  simp [hc]
theorem cond51 (s : ByteArray) (b t i : Nat) (set : List (UInt8 × UInt8)) (W : World) (hi : i ≤ s.size) (hc : W.cell? ⟨b, 0, none⟩ = some (.string s)) (ht : W.heap[t]? = some (.cells (tabC set 256).toArray 94 (0, 0))) :
    Calls Tryz.prog 63 #[.int .i64 (i : Int), .pointer (some ⟨b, 0, none⟩), .pointer (some ⟨t, 0, none⟩)] W fun e w' => e = .returned (.bool (match s.data.toList[i]? with | some c => hasS set c | none => false)) ∧ W = w' := by
  by_cases h : i < s.size
  · obtain ⟨q, hq⟩ : ∃ q, hasS set s[i] = q := ⟨_, rfl⟩
    have e : (match s.data.toList[i]? with | some c => hasS set c | none => false) = q := by rw [get_at s i h]; exact hq
    have hb : s[i].toNat < 256 := s[i].toNat_lt
    have c2 : W.cell? ⟨t, s[i].toNat, none⟩ = some (.bool q) := by
      have := tab_at set s[i]
      simp [World.cell?, ht, this, hq]
    rw [e]
    clear hq ht e
    go_enter Tryz.func63, Tryz.ntmps63
    go_wp2
    go_ret
    exact ⟨rfl, rfl⟩
  · have e : (match s.data.toList[i]? with | some c => hasS set c | none => false) = false := by rw [List.getElem?_eq_none (by simp; omega)]
    rw [e]
    clear e
    go_enter Tryz.func63, Tryz.ntmps63
    go_wp2
    go_ret
    exact ⟨rfl, rfl⟩
end Go.Proofs.YtlnbjdlooghpeaaGreatDoor
namespace Go.Proofs.YtlnbjdlooghpeaaGreatDoor
open Go.RowKit Go.Shelf
def advM (P : Nat → Bool) (len : Nat) (l : List Nat) : Nat := l.foldl (fun m i => if P i then m ||| 2 ^ (i + len) else m) 0
theorem advM_snoc (P : Nat → Bool) (len : Nat) (l : List Nat) (x : Nat) : advM P len (l ++ [x]) = if P x then advM P len l ||| 2 ^ (x + len) else advM P len l := by
  unfold advM
  rw [List.foldl_append]
  rfl
theorem take_next {α : Type} {l : List α} {k : Nat} {x : α} (h : l[k]? = some x) : l.take (k + 1) = l.take k ++ [x] := by
  obtain ⟨h1, e⟩ := List.getElem?_eq_some_iff.1 h
  rw [List.take_succ_eq_append_getElem h1, e]
theorem advM_lt_from (P : Nat → Bool) (len : Nat) : ∀ (l : List Nat) (m : Nat), m < 2305843009213693952 → (∀ i ∈ l, P i = true → i + len < 61) → l.foldl (fun m i => if P i then m ||| 2 ^ (i + len) else m) m < 2305843009213693952
  | [], m, hm, _ => hm
  | x :: l, m, hm, h => by
    rw [List.foldl_cons]
    refine advM_lt_from P len l _ ?_ fun i hi => h i (List.mem_cons_of_mem _ hi)
    split
    · rename_i hp
      exact or_pow_lt (N := 61) hm (h x (by simp) hp)
    · exact hm
theorem advM_lt (P : Nat → Bool) (len : Nat) (l : List Nat) (h : ∀ i ∈ l, P i = true → i + len < 61) : advM P len l < 2305843009213693952 := advM_lt_from P len l 0 (by decide) h
def StepOK (N : Nat) (W : World) (sv : Value) (T : List Bool → List Bool) : Prop :=
  ∃ K caps, sv = .func (.func K) #[] caps ∧ (∀ xs W, (callFunc K xs).run Tryz.prog W = .ok (.enter K xs) W) ∧
    ∀ W' f v, Below W.heap.size W W' → f.length = N + 1 → SetV W' v (maskC f) → Calls Tryz.prog K (#[.agg #[v]] ++ caps) W' (RetO W' (maskC (T f)))
theorem StepOK.below {N : Nat} {W W' : World} {sv : Value} {T : List Bool → List Bool} (h : StepOK N W sv T) (hb : Below W.heap.size W W') : StepOK N W' sv T := by
  obtain ⟨K, caps, e, hr, hc⟩ := h
  exact ⟨K, caps, e, hr, fun W2 f v h2 hf hv => hc W2 f v (bgo hb h2) hf hv⟩
theorem StepOK.congr {N : Nat} {W : World} {sv : Value} {T T' : List Bool → List Bool} (h : StepOK N W sv T) (hT : ∀ f : List Bool, f.length = N + 1 → T f = T' f) : StepOK N W sv T' := by
  obtain ⟨K, caps, e, hr, hc⟩ := h
  exact ⟨K, caps, e, hr, fun W2 f v h2 hf hv => by rw [← hT f hf]; exact hc W2 f v h2 hf hv⟩
theorem below_put {B : Nat} {w W : World} (h : Below B w W) (l : Nat) (o : Obj) (hl : B ≤ l) : Below B w (W.putObj l o) :=
  ⟨h.os, h.tape, h.output, by rw [World.putObj_size]; exact h.size, fun k hk => (World.putObj_heap_other (by omega)).trans (h.block k hk)⟩
theorem own_put {W : World} {B e sz n : Nat} {v : Value} {xs : List Value} (h : W.ownsRow B e sz v n xs) (l : Nat) (o : Obj) (hl : v.ownBlock ≠ some l) : (W.putObj l o).ownsRow B e sz v n xs := by
  obtain ⟨h1, h2⟩ := h
  refine ⟨h1, ?_⟩
  rcases h2 with h2 | ⟨g, cap, cur, rfl, hg, hh, r⟩
  · exact Or.inl h2
  · exact Or.inr ⟨g, cap, cur, rfl, hg, (World.putObj_heap_other (fun e => hl (congrArg some e))).trans hh, r⟩
theorem acc_put {n0 : Nat} {W : World} {v : Value} {m : Nat} (h : Acc n0 W v m) (l : Nat) (o : Obj) (ho : v.ownBlock ≠ some l) : Acc n0 (W.putObj l o) v m := by
  rcases h with h | ⟨h0, h⟩
  · exact Or.inl h
  · exact Or.inr ⟨h0, own_put h l o ho⟩
theorem box_put {n0 : Nat} {W : World} {B : Nat} {v : Value} {m : Nat} (h : Box n0 W B v m) (l : Nat) (o : Obj) (hl : l ≠ B) (ho : v.ownBlock ≠ some l) : Box n0 (W.putObj l o) B v m := by
  exact ⟨h.1, (World.putObj_heap_other (fun e => hl e.symm)).trans h.2.1, acc_put h.2.2 l o ho⟩
theorem load_one52 {W : World} {b : Nat} {x : Value} (h : W.cell? ⟨b, 0, none⟩ = some x) : (loadVar 62 ⟨b, 0, none⟩).run Tryz.prog W = .ok (.agg #[x]) W := by
  go_simp
theorem res_one52 {fn : Func} {p : Tmp} (h : fn.results = #[.cell p 62]) (tmps : Array Value) (W : World) (b : Nat) (x : Value) (hp : tmps.getD p undef = .pointer (some ⟨b, 0, none⟩)) (hf : W.cell? ⟨b, 0, none⟩ = some x) :
    (results fn tmps).run Tryz.prog W = .ok (.agg #[x]) W := by
  have hp' : tmps[p]?.getD undef = .pointer (some ⟨b, 0, none⟩) := by simpa using hp
  simp [results, h, hp', asAddr, load_one52 hf]
theorem run73 (xs : Array Value) (W : World) : (callFunc 100 xs).run Tryz.prog W = .ok (.enter 100 xs) W := by kernel_rfl
attribute [local go_sem] Oper.semAt_some
set_option maxRecDepth 100000 in
set_option maxHeartbeats 4000000 in
theorem adv73 (N len : Nat) (hN : N + 1 ≤ 61) (P : Nat → Bool) (hP : ∀ i, i ≤ N → P i = true → i + len < 61) (f : List Bool) (hf : f.length = N + 1) (v : Value) (W : World) (hv : SetV W v (maskC f)) (bh bl : Nat) (hvv : Value) (hcond : CondOK N W hvv P)
    (hch : W.cell? ⟨bh, 0, none⟩ = some hvv) (hcl : W.cell? ⟨bl, 0, none⟩ = some (.int .i64 (len : Int))) (hT : HasT W) :
    Calls Tryz.prog 100 #[.agg #[v], .pointer (some ⟨bh, 0, none⟩), .pointer (some ⟨bl, 0, none⟩)] W (RetO W (advM P len (offsC f))) := by
  obtain ⟨K, caps, rfl, hrun, hcall⟩ := hcond
  obtain ⟨H, hH⟩ : ∃ H, W.heap.size = H := ⟨_, rfl⟩
  obtain ⟨m, hm⟩ : ∃ m, maskC f = m := ⟨_, rfl⟩
  have hm61 : m < 2305843009213693952 := by
    have := mask_lt f
    rw [hm, hf] at this
    exact Nat.lt_of_lt_of_le this (Nat.pow_le_pow_right (n := 2) (by omega) hN)
  have hbits : bitsL m = offsC f := by rw [← hm]; exact offs_bits (by omega)
  have hoff : ∀ x ∈ bitsL m, x ≤ N := fun x hx => by
    rw [hbits] at hx
    have := on_lt ((offsC_mem f x).1 hx)
    omega
  rw [hm] at hv
  rw [← hbits]
  have Hbits := hide hbits
  have Hoff := hide hoff
  have HP := hide hP
  have Hcall := hide hcall
  have Hv := hide hv
  have HT := hide hT
  have HH := hide hH
  have hbh : bh < H := by rw [← hH]; exact World.block_lt_of_cell? _ _ hch
  have hbl : bl < H := by rw [← hH]; exact World.block_lt_of_cell? _ _ hcl
  have hT0 := hT.pos
  rw [hH] at hT0
  clear hbits hoff hcall hm hP hv hT
  refine (callsIn_wide (n := 8)).1 ?_
  refine callsIn_of_wp_marks Tryz.func100 rfl trivial ?_ rfl
  simp only [Tryz.ntmps100, List.size_toArray, List.length_cons, List.length_nil, Nat.reduceAdd, Nat.reduceSub, Array.replicate_succ, Array.replicate_zero, List.push_toArray, List.append_toArray, List.nil_append, List.cons_append]
  gi_wp2
  obtain ⟨W0, hW0⟩ : ∃ W0, ((W.alloc (.cells #[v] 62)).alloc (.cells #[.slice none 0 0] 62)).alloc (.cells #[.slice none 0 0] 62) = W0 := ⟨_, rfl⟩
  have h3 : W0.heap.size = H + 3 := by rw [← hW0, ← hH]; simp
  have b3 : Below W.heap.size W W0 := by rw [← hW0]; exact bnew (bnew (bnew (Below.refl _ _) _) _) _
  have k1 : W0.heap[H + 1]? = some (.cells #[.slice none 0 0] 62 (0, 0)) := by
    rw [← hW0, ← hH]
    have := heap_alloc_new (W.alloc (.cells #[v] 62)) (.cells #[.slice none 0 0] 62)
    rw [World.size_alloc] at this
    exact (Below.heap_alloc _ _ _ (by simp)).trans this
  have k2 : W0.heap[H + 1 + 1]? = some (.cells #[.slice none 0 0] 62 (0, 0)) := by
    rw [← hW0, ← hH]
    have := heap_alloc_new ((W.alloc (.cells #[v] 62)).alloc (.cells #[.slice none 0 0] 62)) (.cells #[.slice none 0 0] 62)
    rw [World.size_alloc, World.size_alloc] at this
    exact this
  rw [hW0]
  clear hW0
  have ch0 := (b3.cell (p := ⟨bh, 0, none⟩) (by rw [hH]; exact hbh)).trans hch
  have cl0 := (b3.cell (p := ⟨bl, 0, none⟩) (by rw [hH]; exact hbl)).trans hcl
  clear hH hch hcl
  refine range_all (gf := 88) (first := #[.agg #[v]]) (caps := #[]) rfl (enters_of Tryz.func88 (by kernel_rfl) rfl) (each31 v m hm61 W0 (Hv.out.below b3) (HT.out.below b3)) (fun _ => rfl)
    (fun A B C h k => k.trans h) (fun W l o h1 => World.putObj_heap_other (by omega))
    (fun k Wx => ∃ A n c, Box (H + 1 + 1) Wx (H + 1 + 1) (.slice A n c) (advM P len ((bitsL m).take k)) ∧ (∀ g, (Value.slice A n c).ownBlock = some g → H + 7 ≤ g) ∧ Below (H + 1 + 1) W0 Wx)
    (fun k A B ⟨a, n, c, h1, h2, h4⟩ hb => ⟨a, n, c, h1.below hb, h2, h4.trans (hb.mono (by have := h4.size; omega))⟩)
    (fun k A o ⟨a, n, c, h1, h2, h4⟩ => ⟨a, n, c, box_put h1 _ _ (by omega) (fun e => by have := h2 _ e; omega), h2, below_put h4 _ _ (by omega)⟩)
    ⟨none, 0, 0, ⟨Nat.le_refl _, k2, by rw [List.take_zero]; exact Acc.none _ _⟩, (fun g h => by cases h), Below.refl _ _⟩
    (fun x => { tmps := #[.agg #[v], .pointer (some ⟨bh, 0, none⟩), .pointer (some ⟨bl, 0, none⟩), .pointer (some ⟨H, 0, none⟩), .pointer (some ⟨H + 1, 0, none⟩), .pointer (some ⟨H + 1 + 1, 0, none⟩), .int .i64 (x : Int), .agg #[v], .func (.func 88) #[.agg #[v]] #[], .int .i64 (x : Int), undef, undef, undef, undef, undef, undef, undef, undef], defers := [] })
    ?assign ?body ?done
  case assign =>
    intro l x W K hK
    gi_wp2
    exact hK
  case body =>
    rintro l k x Wx hx ⟨A, n, c, hbox, hfar, hbel⟩ hsz
    have c1 := (hbel.cell (p := ⟨bh, 0, none⟩) (by show bh < H + 1 + 1; omega)).trans ch0
    have c2 := (hbel.cell (p := ⟨bl, 0, none⟩) (by show bl < H + 1 + 1; omega)).trans cl0
    have hxN := Hoff.out x (List.mem_of_getElem? hx)
    have hWx : Below W.heap.size W Wx := b3.trans (hbel.mono (by rw [HH.out]; omega))
    have HC := hide (Hcall.out Wx x hWx hxN)
    have hadv := advM_lt P len ((bitsL m).take k) fun i hi hp => HP.out i (Hoff.out i (List.mem_of_mem_take hi)) hp
    have Hx := hide hx
    have X := hide hbox
    have B := hide hbel
    have Fa := hide hfar
    have Hadv := hide hadv
    clear hx hbox hbel hfar hadv hWx
    cases hpx : P x with
    | false =>
      rw [hpx] at HC
      have Hn := hide (show advM P len ((bitsL m).take (k + 1)) = advM P len ((bitsL m).take k) by rw [take_next Hx.out, advM_snoc, hpx]; rfl)
      clear hpx
      gi_wp2
      refine ⟨trivial, (CallsIn.inRound l (callsIn_wide.2 HC.out)).mono ?_⟩
      rintro e wa ⟨rfl, hba⟩
      have Ba := hide hba
      clear hba
      gi_wp2
      exact ⟨⟨Ba.out.size, fun q h1 h2 => Ba.out.block q (by omega), Ba.out.block 0 (by omega)⟩, A, n, c, by rw [Hn.out]; exact X.out.below Ba.out, Fa.out, B.out.trans (Ba.out.mono (by omega))⟩
    | true =>
      have hq := HP.out x hxN hpx
      rw [hpx] at HC
      have Hn := hide (show advM P len ((bitsL m).take (k + 1)) = advM P len ((bitsL m).take k) ||| 2 ^ (x + len) by rw [take_next Hx.out, advM_snoc, hpx]; rfl)
      clear hpx
      obtain ⟨y, hy⟩ : ∃ y, x + len = y := ⟨_, rfl⟩
      rw [hy] at hq Hn
      have hyi : (x : Int) + (len : Int) = (y : Int) := by omega
      have Hyi := hide hyi
      clear hy hyi
      gi_wp2
      refine ⟨trivial, (CallsIn.inRound l (callsIn_wide.2 HC.out)).mono ?_⟩
      rintro e wa ⟨rfl, hba⟩
      have Ba := hide hba
      have c2a := (hba.cell (p := ⟨bl, 0, none⟩) (by show bl < Wx.heap.size; omega)).trans c2
      have HQ := hide (put59 (H + 1 + 1) (H + 1 + 1) (advM P len ((bitsL m).take k)) y (.slice A n c) wa (X.out.below hba) Hadv.out hq)
      have hxb : (x : Int) ≤ 60 := by omega
      have hlb : (len : Int) ≤ 60 := by have := Hyi.out; omega
      clear hba c1 c2
      gi_wp2
      rw [Hyi.out]
      refine ⟨trivial, (CallsIn.inRound l (callsIn_wide.2 HQ.out)).mono ?_⟩
      rintro e wb ⟨rfl, v', hbox2, ht2, hf2⟩
      obtain ⟨A2, n2, c2', rfl⟩ := hbox2.2.2.form
      have X2 := hide hbox2
      have T2 := hide ht2
      have hf3 : ∀ g, (Value.slice A2 n2 c2').ownBlock = some g → H + 7 ≤ g := fun g hg => by
        rcases hf2 with h | h
        · exact Fa.out g (by rw [← h]; exact hg)
        · have := h g hg
          have := Ba.out.size
          omega
      have F3 := hide hf3
      clear hbox2 ht2 hf2 hf3 HQ
      gi_wp2
      have hkeep : ∀ q, q < H + 7 → q ≠ H + 1 + 1 → wb.heap[q]? = Wx.heap[q]? := fun q h1 h2 =>
        (T2.out.block q (by have := Ba.out.size; omega) (fun h => by rcases h with h | h; exact h2 h; have := Fa.out q h; omega)).trans (Ba.out.block q (by omega))
      have hbw : Below (H + 1 + 1) wa wb := T2.out.below (by have := Ba.out.size; omega) fun q h => by
        rcases h with h | h
        · omega
        · have := Fa.out q h; omega
      exact ⟨⟨Nat.le_trans Ba.out.size T2.out.size, fun q h1 h2 => hkeep q (by omega) (by omega), hkeep 0 (by omega) (by omega)⟩, A2, n2, c2', by rw [Hn.out]; exact X2.out, F3.out, (B.out.trans (Ba.out.mono (by omega))).trans hbw⟩
  case done =>
    rintro Wx ⟨A, n, c, hbox, hfar, hbel⟩ hD
    rw [List.take_of_length_le (Nat.le_refl _)] at hbox
    have c1 := cell_of_one hbox.2.1
    have hk1 := (hbel.block (H + 1) (by omega)).trans k1
    have c2 := cell_of_one hk1
    have f2 := free_of_one hk1
    have HK1 := hide hk1
    have X := hide hbox
    have B := hide hbel
    have Fa := hide hfar
    have HD := hide ((Below.heap_setCell Wx ⟨H + 1, 0, none⟩ (.slice A n c) W0.heap.size (by show W0.heap.size ≠ H + 1; omega)).trans hD)
    clear hbox hbel hfar hk1 hD
    gi_wp2
    refine ⟨by simp, .inl ⟨_, _, rfl, run_takeDeferred HD.out, ?_⟩⟩
    refine ⟨.agg #[.slice A n c], ?_, ?_⟩
    · exact res_one52 rfl _ _ (H + 1) _ rfl (cell_of_one ((World.putObj_heap_other (by omega)).trans (one_setCell HK1.out)))
    · refine ⟨_, rfl, ⟨_, rfl, (acc_put (acc_off X.out.2.2 (H + 1) _ (by omega)) W0.heap.size _ fun e => ?_).set⟩, below_put ((b3.trans (B.out.mono (by rw [HH.out]; omega))).setCell (by rw [HH.out]; show H ≤ H + 1; omega) _) _ _ (by rw [HH.out]; omega)⟩
      have := Fa.out _ e
      omega
theorem advance50 (len K : Nat) (caps : Array Value) (W : World) :
    Calls Tryz.prog 62 #[.int .i64 (len : Int), .func (.func K) #[] caps] W fun e w' => e = .returned (.func (.func 100) #[] #[.pointer (some ⟨W.heap.size + 1, 0, none⟩), .pointer (some ⟨W.heap.size, 0, none⟩)]) ∧ w' = (W.alloc (.cells #[.int .i64 (len : Int)] 3)).alloc (.cells #[.func (.func K) #[] caps] 93) := by
  go_enter Tryz.func62, Tryz.ntmps62
  go_wp2
  go_ret
  exact ⟨rfl, rfl⟩
theorem advM_bit (P : Nat → Bool) (len : Nat) (j : Nat) : ∀ (l : List Nat) (m : Nat), ((l.foldl (fun m i => if P i then m ||| 2 ^ (i + len) else m) m).testBit j = true ↔ m.testBit j = true ∨ ∃ i, i ∈ l ∧ P i = true ∧ j = i + len)
  | [], m => by simp
  | x :: l, m => by
    rw [List.foldl_cons, advM_bit P len j l]
    cases hp : P x with
    | true =>
      simp only [if_true, Nat.testBit_or, Nat.testBit_two_pow, Bool.or_eq_true, decide_eq_true_eq, List.mem_cons]
      constructor
      · rintro ((h | h) | ⟨i, hi, h1, h2⟩)
        · exact Or.inl h
        · exact Or.inr ⟨x, Or.inl rfl, hp, h.symm⟩
        · exact Or.inr ⟨i, Or.inr hi, h1, h2⟩
      · rintro (h | ⟨i, rfl | hi, h1, h2⟩)
        · exact Or.inl (Or.inl h)
        · exact Or.inl (Or.inr h2.symm)
        · exact Or.inr ⟨i, hi, h1, h2⟩
    | false =>
      simp only [Bool.false_eq_true, if_false, List.mem_cons]
      constructor
      · rintro (h | ⟨i, hi, h1, h2⟩)
        · exact Or.inl h
        · exact Or.inr ⟨i, Or.inr hi, h1, h2⟩
      · rintro (h | ⟨i, rfl | hi, h1, h2⟩)
        · exact Or.inl h
        · rw [hp] at h1; cases h1
        · exact Or.inr ⟨i, hi, h1, h2⟩
theorem adv_mask {P : Nat → Bool} {len : Nat} {f g : List Bool} (h : ∀ j, On g j ↔ ∃ i, On f i ∧ P i = true ∧ j = i + len) : maskC g = advM P len (offsC f) := by
  refine Nat.eq_of_testBit_eq fun j => ?_
  rw [Bool.eq_iff_iff, mask_on, h]
  unfold advM
  rw [advM_bit P len j (offsC f) 0]
  simp [offsC_mem]
theorem CondOK.below {N : Nat} {W W' : World} {hv : Value} {P : Nat → Bool} (h : CondOK N W hv P) (hb : Below W.heap.size W W') : CondOK N W' hv P := by
  obtain ⟨K, caps, e, hr, hc⟩ := h
  exact ⟨K, caps, e, hr, fun W2 i h2 hi => hc W2 i (bgo hb h2) hi⟩
theorem advance_step (N len : Nat) (hN : N + 1 ≤ 61) (P : Nat → Bool) (hP : ∀ i, i ≤ N → P i = true → i + len < 61) (T : List Bool → List Bool) (hT : ∀ f : List Bool, f.length = N + 1 → ∀ j, On (T f) j ↔ ∃ i, On f i ∧ P i = true ∧ j = i + len)
    (hv : Value) (W : World) (hc : CondOK N W hv P) (ht : HasT W) : Calls Tryz.prog 62 #[.int .i64 (len : Int), hv] W fun e w' => ∃ sv, e = .returned sv ∧ StepOK N w' sv T ∧ Below W.heap.size W w' := by
  have hc0 := hc
  obtain ⟨K, caps, rfl, hr, hcall⟩ := hc0
  refine (advance50 len K caps W).mono fun e w' ⟨he, hw⟩ => ?_
  subst hw
  have hb := bnew (bnew (Below.refl _ W) (.cells #[.int .i64 (len : Int)] 3)) (.cells #[.func (.func K) #[] caps] 93)
  refine ⟨_, he, ⟨100, _, rfl, run73, fun W' f v h2 hf hvv => ?_⟩, hb⟩
  have hB := bgo hb h2
  have c1 : ((W.alloc (.cells #[.int .i64 (len : Int)] 3)).alloc (.cells #[.func (.func K) #[] caps] 93)).cell? ⟨W.heap.size, 0, none⟩ = some (.int .i64 (len : Int)) := cell_of_one ((Below.heap_alloc _ _ _ (by simp)).trans (heap_alloc_new W _))
  have c2 : ((W.alloc (.cells #[.int .i64 (len : Int)] 3)).alloc (.cells #[.func (.func K) #[] caps] 93)).cell? ⟨W.heap.size + 1, 0, none⟩ = some (.func (.func K) #[] caps) := by
    have := heap_alloc_new (W.alloc (.cells #[.int .i64 (len : Int)] 3)) (.cells #[.func (.func K) #[] caps] 93)
    rw [World.size_alloc] at this
    exact cell_of_one this
  rw [adv_mask (hT f hf)]
  exact adv73 N len hN P hP f hf v W' hvv (W.heap.size + 1) W.heap.size _ (hc.below hB) ((h2.cell (p := ⟨W.heap.size + 1, 0, none⟩) (by simp)).trans c2) ((h2.cell (p := ⟨W.heap.size, 0, none⟩) (by simp; omega)).trans c1) (ht.below hB)
theorem leaf_set (set : List (UInt8 × UInt8)) (s : List UInt8) (f : List Bool) (_hf : f.length = s.length + 1) (j : Nat) : On (leafC 1 set s f) j ↔ ∃ i, On f i ∧ (match s[i]? with | some c => hasS set c | none => false) = true ∧ j = i + 1 := by
  unfold On leafC
  rw [getD_range, Bool.and_eq_true, decide_eq_true_eq]
  simp only [if_true]
  constructor
  · rintro ⟨hj, h⟩
    simp only [Bool.and_eq_true, decide_eq_true_eq] at h
    exact ⟨j - 1, h.1.2, h.2, by omega⟩
  · rintro ⟨i, h1, h2, rfl⟩
    have hi : i < s.length := by
      rcases Nat.lt_or_ge i s.length with h | h
      · exact h
      · rw [List.getElem?_eq_none h] at h2; cases h2
    refine ⟨by omega, ?_⟩
    simp only [Nat.add_sub_cancel, Bool.and_eq_true, decide_eq_true_eq]
    exact ⟨⟨by omega, h1⟩, h2⟩
theorem leaf_place (k : Int) (h1 : k ≠ 1) (set : List (UInt8 × UInt8)) (s : List UInt8) (f : List Bool) (hf : f.length = s.length + 1) (j : Nat) : On (leafC k set s f) j ↔ ∃ i, On f i ∧ standsB k s i = true ∧ j = i + 0 := by
  unfold leafC
  conv => lhs; unfold On
  rw [getD_range, Bool.and_eq_true, decide_eq_true_eq, if_neg h1, Bool.and_eq_true]
  constructor
  · rintro ⟨hj, h2, h3⟩
    exact ⟨j, h2, h3, rfl⟩
  · rintro ⟨i, h2, h3, rfl⟩
    have := on_lt h2
    exact ⟨by omega, h2, h3⟩
end Go.Proofs.YtlnbjdlooghpeaaGreatDoor
namespace Go.Proofs.YtlnbjdlooghpeaaGreatDoor
open Go.RowKit
open Go.ChangeShapes (block_add)
theorem SetV.form {W : World} {v : Value} {m : Nat} (h : SetV W v m) : ∃ A n c, v = .slice A n c := by
  rcases h with ⟨_, A, c, rfl, _⟩ | ⟨_, g, c, rfl, _⟩
  · exact ⟨_, _, _, rfl⟩
  · exact ⟨_, _, _, rfl⟩
theorem setv_set {W : World} {v : Value} {m b : Nat} {x : Option Addr} {y z : Nat} (h : SetV W v m) (hc : W.cell? ⟨b, 0, none⟩ = some (.slice x y z)) (u : Value) : SetV (W.setCell ⟨b, 0, none⟩ u) v m := by
  rcases h with h | ⟨h0, g, c, rfl, h1, h2, hlt, hg⟩
  · exact Or.inl h
  · refine setv_off (Or.inr ⟨h0, g, c, rfl, h1, h2, hlt, hg⟩) fun e => ?_
    have e : g = b := Option.some.inj e
    subst e
    have := (hg 0 (by omega)).symm.trans hc
    cases this
def StepsS (N : Nat) (W : World) (A : Option Addr) (n c : Nat) (Ts : List (List Bool → List Bool)) : Prop :=
  ∃ svs, Sl W A n c svs ∧ Ts.length = n ∧ ∀ (i : Nat) (sv : Value) (T : List Bool → List Bool), svs[i]? = some sv → Ts[i]? = some T → StepOK N W sv T
theorem StepsS.below {N : Nat} {W W' : World} {A : Option Addr} {n c : Nat} {Ts : List (List Bool → List Bool)} (h : StepsS N W A n c Ts) (hb : Below W.heap.size W W') : StepsS N W' A n c Ts := by
  obtain ⟨svs, h1, h2, h3⟩ := h
  exact ⟨svs, h1.below hb, h2, fun i sv T h4 h5 => (h3 i sv T h4 h5).below hb⟩
theorem StepsS.at_ {N : Nat} {W : World} {A : Option Addr} {n c : Nat} {Ts : List (List Bool → List Bool)} (h : StepsS N W A n c Ts) {i : Nat} (hi : i < n) : ∃ ad K caps T, A = some ad ∧ ad.block < W.heap.size ∧ Ts[i]? = some T ∧ W.cell? (ad.add i) = some (.func (.func K) #[] caps) ∧
    (∀ xs W, (callFunc K xs).run Tryz.prog W = .ok (.enter K xs) W) ∧ ∀ W' f v, Below W.heap.size W W' → f.length = N + 1 → SetV W' v (maskC f) → Calls Tryz.prog K (#[.agg #[v]] ++ caps) W' (RetO W' (maskC (T f))) := by
  obtain ⟨svs, h1, h2, h3⟩ := h
  obtain ⟨ad, u, hA, hlt, hu, hcell⟩ := h1.reads.at_ hi
  have hT : Ts[i]? = some Ts[i] := List.getElem?_eq_getElem (by omega)
  obtain ⟨K, caps, rfl, hr, hc⟩ := h3 i u _ hu hT
  exact ⟨ad, K, caps, _, hA, hlt, hT, hcell, hr, hc⟩
def catT (Ts : List (List Bool → List Bool)) (f : List Bool) : List Bool := Ts.foldl (fun a T => T a) f
theorem run74 (xs : Array Value) (W : World) : (callFunc 101 xs).run Tryz.prog W = .ok (.enter 101 xs) W := by kernel_rfl
theorem run75 (xs : Array Value) (W : World) : (callFunc 102 xs).run Tryz.prog W = .ok (.enter 102 xs) W := by kernel_rfl
set_option maxRecDepth 100000 in
set_option maxHeartbeats 2000000 in
theorem order74 (N : Nat) (Ts : List (List Bool → List Bool)) (hTl : ∀ T ∈ Ts, ∀ g : List Bool, g.length = N + 1 → (T g).length = N + 1) (A : Option Addr) (n c : Nat) (f : List Bool) (hf : f.length = N + 1) (v : Value) (W : World) (hv : SetV W v (maskC f)) (b : Nat)
    (hb : W.cell? ⟨b, 0, none⟩ = some (.slice A n c)) (hS : StepsS N W A n c Ts) : Calls Tryz.prog 101 #[.agg #[v], .pointer (some ⟨b, 0, none⟩)] W (RetO W (maskC (catT Ts f))) := by
  obtain ⟨A0, n0, c0, rfl⟩ := hv.form
  have hblt : b < W.heap.size := World.block_lt_of_cell? _ _ hb
  have hTn : Ts.length = n := by obtain ⟨_, _, h, _⟩ := hS; exact h
  have hn : n ≤ 9223372036854775807 := by obtain ⟨_, h, _⟩ := hS; have := h.1; have := h.2.1; omega
  obtain ⟨H, hH⟩ : ∃ H, W.heap.size = H := ⟨_, rfl⟩
  have HS := hide hS
  have Hv := hide hv
  have Hf := hide hf
  have HTl := hide hTl
  have HTn := hide hTn
  have hb0 := bnew (bnew (Below.refl _ W) (.cells #[.slice A0 n0 c0] 62)) (.cells #[.slice none 0 0] 62)
  have cb := (hb0.cell (p := ⟨b, 0, none⟩) hblt).trans hb
  have k0 : ((W.alloc (.cells #[.slice A0 n0 c0] 62)).alloc (.cells #[.slice none 0 0] 62)).heap[W.heap.size]? = some (.cells #[.slice A0 n0 c0] 62 (0, 0)) := (Below.heap_alloc _ _ _ (by simp)).trans (heap_alloc_new W _)
  have k1 : ((W.alloc (.cells #[.slice A0 n0 c0] 62)).alloc (.cells #[.slice none 0 0] 62)).heap[W.heap.size + 1]? = some (.cells #[.slice none 0 0] 62 (0, 0)) := by
    have := heap_alloc_new (W.alloc (.cells #[.slice A0 n0 c0] 62)) (.cells #[.slice none 0 0] 62)
    rw [World.size_alloc] at this
    exact this
  have B0 := hide hb0
  have K0 := hide k0
  have K1 := hide k1
  have HH := hide hH
  clear hS hv hf hTl hTn hb0 k0 k1 hb hH
  go_enter Tryz.func101, Tryz.ntmps101
  go_wp2
  go_loopw [8] (fun y wr => ∃ (k : Nat) (g : List Bool) (a : Option Addr) (m d : Nat), k ≤ n ∧ y = .int .i64 (k : Int) ∧ wr.heap[W.heap.size]? = some (.cells #[.slice a m d] 62 (0, 0)) ∧ SetV wr (.slice a m d) (maskC g) ∧ g.length = N + 1 ∧ (Ts.take k).foldl (fun a T => T a) f = g ∧
    wr.heap[W.heap.size + 1]? = some (.cells #[.slice none 0 0] 62 (0, 0)) ∧ Below W.heap.size W wr) (fun y _ => n - (intOf y).toNat)
  case atStart => exact ⟨0, f, A0, n0, c0, by omega, rfl, K0.out, Hv.out.below B0.out, Hf.out, rfl, K1.out, B0.out⟩
  case round =>
    obtain ⟨k, g, a, m, d, hk, rfl, q0, hsv, hg, hfold, q1, hbel⟩ := hrel
    obtain ⟨w1, hw1⟩ : ∃ w1, w1 = wr := ⟨wr, rfl⟩
    subst hw1
    by_cases hlt : k < n
    · obtain ⟨ad, K, caps, T, rfl, hadl, hT, hcell, hrun, hcall⟩ := HS.out.at_ hlt
      have hc1 := (hbel.cell (p := ad.add k) (by rw [block_add]; exact hadl)).trans hcell
      have c0' := cell_of_one q0
      have f0' := free_of_one q0
      have HC := hide (hcall w1 g (.slice a m d) hbel hg hsv)
      have B := hide hbel
      have Q0 := hide q0
      have Q1 := hide q1
      have Hg := hide hg
      have Hfold := hide hfold
      have HT := hide hT
      have hsz0 := lt_of_block q0
      have hsz1 := lt_of_block q1
      have hd : decide ((k : Int) < (n : Int)) = true := decide_eq_true (by omega)
      have hd2 : decide (k < n) = true := decide_eq_true hlt
      clear hbel q0 q1 hg hfold hT hsv hcall hcell
      go_wp2_with fail
      with_reducible refine HC.out.mono ?_
      rintro e w2 ⟨u, rfl, ⟨s2, rfl, hs2⟩, hb2⟩
      obtain ⟨a2, m2, d2, rfl⟩ := hs2.form
      have q02 := (hb2.block _ hsz0).trans Q0.out
      have c2 := cell_of_one q02
      have f2 := free_of_one q02
      have S2 := hide hs2
      have Q02 := hide q02
      have Q12 := hide ((hb2.block _ hsz1).trans Q1.out)
      have B2 := hide (bgo B.out hb2)
      have Hc2 := hide c2
      clear hs2 hb2 q02
      go_wp2
      go_roundw
      case rel =>
        refine ⟨k + 1, T g, a2, m2, d2, by omega, by go_num, one_setCell Q02.out, setv_set S2.out Hc2.out _, HTl.out T (List.mem_of_getElem? HT.out) g Hg.out, ?_, ?_, B2.out.setCell (Nat.le_refl _) _⟩
        · rw [take_next HT.out, List.foldl_append, Hfold.out]; rfl
        · exact (Below.heap_setCell w2 ⟨W.heap.size, 0, none⟩ _ (W.heap.size + 1) (by show W.heap.size + 1 ≠ W.heap.size; omega)).trans Q12.out
      case measure => simp [intOf]; omega
    · obtain rfl : k = n := by omega
      have hfull : catT Ts f = g := by
        unfold catT
        rw [← hfold, List.take_of_length_le (by rw [HTn.out]; omega)]
      have Hfull := hide hfull
      have c0' := cell_of_one q0
      have c1' := cell_of_one q1
      have f1' := free_of_one q1
      have S := hide hsv
      have B := hide hbel
      have Q1 := hide q1
      have Hc1 := hide c1'
      clear hfull hfold hsv hbel q0 q1 hg
      go_wp2
      refine bodyPost_ret (res_one52 rfl _ _ (W.heap.size + 1) (.slice a m d) rfl (cell_of_one (one_setCell Q1.out))) rfl ⟨_, rfl, ⟨_, rfl, by rw [Hfull.out]; exact setv_set S.out Hc1.out _⟩, B.out.setCell (by show W.heap.size ≤ W.heap.size + 1; omega) _⟩
theorem inorder52 (A : Option Addr) (n c : Nat) (W : World) : Calls Tryz.prog 64 #[.slice A n c] W fun e w' => e = .returned (.func (.func 101) #[] #[.pointer (some ⟨W.heap.size, 0, none⟩)]) ∧ w' = W.alloc (.cells #[.slice A n c] 98) := by
  go_enter Tryz.func64, Tryz.ntmps64
  go_wp2
  go_ret
  exact ⟨rfl, rfl⟩
theorem oneof54 (A : Option Addr) (n c : Nat) (W : World) : Calls Tryz.prog 66 #[.slice A n c] W fun e w' => e = .returned (.func (.func 102) #[] #[.pointer (some ⟨W.heap.size, 0, none⟩)]) ∧ w' = W.alloc (.cells #[.slice A n c] 98) := by
  go_enter Tryz.func66, Tryz.ntmps66
  go_wp2
  go_ret
  exact ⟨rfl, rfl⟩
theorem inorder_step (N : Nat) (Ts : List (List Bool → List Bool)) (hTl : ∀ T ∈ Ts, ∀ g : List Bool, g.length = N + 1 → (T g).length = N + 1) (A : Option Addr) (n c : Nat) (W : World) (hS : StepsS N W A n c Ts) :
    Calls Tryz.prog 64 #[.slice A n c] W fun e w' => ∃ sv, e = .returned sv ∧ StepOK N w' sv (catT Ts) ∧ Below W.heap.size W w' := by
  refine (inorder52 A n c W).mono fun e w' ⟨he, hw⟩ => ?_
  subst hw
  have hb := bnew (Below.refl _ W) (.cells #[.slice A n c] 98)
  refine ⟨_, he, ⟨101, _, rfl, run74, fun W' f v h2 hf hv => ?_⟩, hb⟩
  exact order74 N Ts hTl A n c f hf v W' hv W.heap.size ((h2.cell (p := ⟨W.heap.size, 0, none⟩) (by simp)).trans (cell_of_one (heap_alloc_new W _))) (hS.below (bgo hb h2))
def altT (N : Nat) (Ts : List (List Bool → List Bool)) (f : List Bool) : List Bool := Ts.foldl (fun a T => bothC a (T f)) (noneC N)
theorem mask61 {f : List Bool} {N : Nat} (hN : N + 1 ≤ 61) (hf : f.length = N + 1) : maskC f < 2305843009213693952 := by
  have := mask_lt f
  rw [hf] at this
  exact Nat.lt_of_lt_of_le this (Nat.pow_le_pow_right (n := 2) (by omega) hN)
set_option maxRecDepth 100000 in
set_option maxHeartbeats 2000000 in
theorem one75 (N : Nat) (hN : N + 1 ≤ 61) (Ts : List (List Bool → List Bool)) (hTl : ∀ T ∈ Ts, ∀ g : List Bool, g.length = N + 1 → (T g).length = N + 1) (A : Option Addr) (n c : Nat) (f : List Bool) (hf : f.length = N + 1) (v : Value) (W : World) (hv : SetV W v (maskC f)) (b : Nat)
    (hb : W.cell? ⟨b, 0, none⟩ = some (.slice A n c)) (hS : StepsS N W A n c Ts) : Calls Tryz.prog 102 #[.agg #[v], .pointer (some ⟨b, 0, none⟩)] W (RetO W (maskC (altT N Ts f))) := by
  obtain ⟨A0, n0, c0, rfl⟩ := hv.form
  have hblt : b < W.heap.size := World.block_lt_of_cell? _ _ hb
  have hTn : Ts.length = n := by obtain ⟨_, _, h, _⟩ := hS; exact h
  have hn : n ≤ 9223372036854775807 := by obtain ⟨_, h, _⟩ := hS; have := h.1; have := h.2.1; omega
  have HS := hide hS
  have Hv := hide hv
  have Hf := hide hf
  have HTl := hide hTl
  have HTn := hide hTn
  have hb0 := bnew (bnew (bnew (Below.refl _ W) (.cells #[.slice A0 n0 c0] 62)) (.cells #[.slice none 0 0] 62)) (.cells #[.slice none 0 0] 62)
  have cb := (hb0.cell (p := ⟨b, 0, none⟩) hblt).trans hb
  obtain ⟨Wx, hWx⟩ : ∃ Wx, ((W.alloc (.cells #[.slice A0 n0 c0] 62)).alloc (.cells #[.slice none 0 0] 62)).alloc (.cells #[.slice none 0 0] 62) = Wx := ⟨_, rfl⟩
  have k0 : Wx.heap[W.heap.size]? = some (.cells #[.slice A0 n0 c0] 62 (0, 0)) := by
    rw [← hWx]
    exact (Below.heap_alloc _ _ _ (by simp; omega)).trans ((Below.heap_alloc _ _ _ (by simp)).trans (heap_alloc_new W _))
  have k1 : Wx.heap[W.heap.size + 1]? = some (.cells #[.slice none 0 0] 62 (0, 0)) := by
    rw [← hWx]
    have := heap_alloc_new (W.alloc (.cells #[.slice A0 n0 c0] 62)) (.cells #[.slice none 0 0] 62)
    rw [World.size_alloc] at this
    exact (Below.heap_alloc _ _ _ (by simp)).trans this
  have k2 : Box (W.heap.size + 1 + 1) Wx (W.heap.size + 1 + 1) (.slice none 0 0) 0 := by
    rw [← hWx]
    have := Box.new (n0 := W.heap.size + 1 + 1) ((W.alloc (.cells #[.slice A0 n0 c0] 62)).alloc (.cells #[.slice none 0 0] 62)) (by simp)
    simpa using this
  have hxs : Wx.heap.size = W.heap.size + 3 := by rw [← hWx]; simp
  rw [hWx] at hb0
  have B0 := hide hb0
  have K0 := hide k0
  have K1 := hide k1
  have K2 := hide k2
  have Hxs := hide hxs
  have HWx := hide hWx
  clear hS hv hf hTl hTn hb0 k0 k1 k2 hb hxs hWx
  go_enter Tryz.func102, Tryz.ntmps102
  go_wp2
  rw [HWx.out]
  go_loopw [9] (fun y wr => ∃ (k : Nat) (g : List Bool) (a : Option Addr) (m d : Nat), k ≤ n ∧ y = .int .i64 (k : Int) ∧ Box (W.heap.size + 1 + 1) wr (W.heap.size + 1 + 1) (.slice a m d) (maskC g) ∧ g.length = N + 1 ∧ (Ts.take k).foldl (fun a T => bothC a (T f)) (noneC N) = g ∧
    Below (W.heap.size + 1 + 1) Wx wr) (fun y _ => n - (intOf y).toNat)
  case atStart => exact ⟨0, noneC N, none, 0, 0, by omega, rfl, by rw [mask_none]; exact K2.out, noneC_len N, rfl, Below.refl _ _⟩
  case round =>
    obtain ⟨k, g, a, m, d, hk, rfl, hbox, hg, hfold, hbel⟩ := hrel
    obtain ⟨w1, hw1⟩ : ∃ w1, w1 = wr := ⟨wr, rfl⟩
    subst hw1
    have hWw : Below W.heap.size W w1 := B0.out.trans (hbel.mono (by omega))
    by_cases hlt : k < n
    · obtain ⟨ad, K, caps, T, rfl, hadl, hT, hcell, hrun, hcall⟩ := HS.out.at_ hlt
      have hc1 := (hWw.cell (p := ad.add k) (by rw [block_add]; exact hadl)).trans hcell
      have c0' := cell_of_one ((hbel.block W.heap.size (by omega)).trans K0.out)
      have HC := hide (hcall w1 f (.slice A0 n0 c0) hWw Hf.out (Hv.out.below hWw))
      have X := hide hbox
      have B := hide hbel
      have Hg := hide hg
      have Hfold := hide hfold
      have HT := hide hT
      have hsz := hbox.lt
      have hd : decide ((k : Int) < (n : Int)) = true := decide_eq_true (by omega)
      have hd2 : decide (k < n) = true := decide_eq_true hlt
      clear hbox hbel hg hfold hT hcall hcell hWw
      go_wp2_with fail
      with_reducible refine HC.out.mono ?_
      rintro e w2 ⟨u, rfl, ⟨s2, rfl, hs2⟩, hb2⟩
      have HA := hide (add76 (W.heap.size + 1 + 1) (W.heap.size + 1 + 1) (maskC g) (maskC (T f)) (.slice a m d) s2 w2 (X.out.below hb2) (by have := hb2.size; omega) (mask61 hN Hg.out) (mask61 hN (HTl.out T (List.mem_of_getElem? HT.out) f Hf.out)) hs2)
      have B2 := hide hb2
      clear hs2 hb2
      go_wp2_with fail
      with_reducible refine HA.out.mono ?_
      rintro e w3 ⟨u3, v3, rfl, -, hbx3, ht3, -⟩
      obtain ⟨a3, m3, d3, rfl⟩ := hbx3.2.2.form
      have X3 := hide hbx3
      have B3 := hide (show Below (W.heap.size + 1 + 1) w2 w3 from ht3.below (by have := B2.out.size; omega) fun q h => by
        rcases h with h | h
        · omega
        · exact (X.out.low h).1)
      clear hbx3 ht3
      go_wp2
      go_roundw
      case rel =>
        refine ⟨k + 1, bothC g (T f), a3, m3, d3, by omega, by go_num, ?_, bothC_len Hg.out (HTl.out T (List.mem_of_getElem? HT.out) f Hf.out), ?_, (B.out.trans (B2.out.mono (by omega))).trans B3.out⟩
        · rw [mask_both (by rw [Hg.out, HTl.out T (List.mem_of_getElem? HT.out) f Hf.out])]; exact X3.out
        · rw [take_next HT.out, List.foldl_append, Hfold.out]; rfl
      case measure => simp [intOf]; omega
    · obtain rfl : k = n := by omega
      have hfull : altT N Ts f = g := by
        unfold altT
        rw [← hfold, List.take_of_length_le (by rw [HTn.out]; omega)]
      have Hfull := hide hfull
      have c2' := cell_of_one hbox.2.1
      have q1 := (hbel.block (W.heap.size + 1) (by omega)).trans K1.out
      have c1' := cell_of_one q1
      have f1' := free_of_one q1
      have X := hide hbox
      have B := hide hWw
      have Q1 := hide q1
      clear hfull hfold hbel q1 hg hbox hWw
      go_wp2
      refine bodyPost_ret (res_one52 rfl _ _ (W.heap.size + 1) (.slice a m d) rfl (cell_of_one (one_setCell Q1.out))) rfl ⟨_, rfl, ⟨_, rfl, by rw [Hfull.out]; exact (acc_off X.out.2.2 (W.heap.size + 1) _ (by omega)).set⟩, B.out.setCell (by show W.heap.size ≤ W.heap.size + 1; omega) _⟩
theorem oneof_step (N : Nat) (hN : N + 1 ≤ 61) (Ts : List (List Bool → List Bool)) (hTl : ∀ T ∈ Ts, ∀ g : List Bool, g.length = N + 1 → (T g).length = N + 1) (A : Option Addr) (n c : Nat) (W : World) (hS : StepsS N W A n c Ts) :
    Calls Tryz.prog 66 #[.slice A n c] W fun e w' => ∃ sv, e = .returned sv ∧ StepOK N w' sv (altT N Ts) ∧ Below W.heap.size W w' := by
  refine (oneof54 A n c W).mono fun e w' ⟨he, hw⟩ => ?_
  subst hw
  have hb := bnew (Below.refl _ W) (.cells #[.slice A n c] 98)
  refine ⟨_, he, ⟨102, _, rfl, run75, fun W' f v h2 hf hv => ?_⟩, hb⟩
  exact one75 N hN Ts hTl A n c f hf v W' hv W.heap.size ((h2.cell (p := ⟨W.heap.size, 0, none⟩) (by simp)).trans (cell_of_one (heap_alloc_new W _))) (hS.below (bgo hb h2))
end Go.Proofs.YtlnbjdlooghpeaaGreatDoor
namespace Go.Proofs.YtlnbjdlooghpeaaGreatDoor
open Go.RowKit
open Go.ChangeShapes (block_add)
theorem fresh_none {a : List Bool} {N : Nat} (h : a.length = N + 1) : freshC (noneC N) a = noneC N :=
  none_ext (freshC_len (noneC_len N) h) fun j hj => noneC_at N j ((freshC_at (by rw [noneC_len, h]) j).1 hj).1
theorem fresh_self {a : List Bool} {N : Nat} (h : a.length = N + 1) : freshC a a = noneC N :=
  none_ext (freshC_len h h) fun j hj => ((freshC_at rfl j).1 hj).2 ((freshC_at rfl j).1 hj).1
theorem both_self {a : List Bool} : bothC a a = a := on_ext (by simp [bothC]) fun j => by
  rw [bothC_at rfl]; exact or_self_iff
theorem fresh_of_none {a : List Bool} {N : Nat} (h : a.length = N + 1) : freshC a (noneC N) = a := on_ext (by rw [freshC_len h (noneC_len N), h]) fun j => by
  rw [freshC_at (by rw [noneC_len, h])]
  exact ⟨fun k => k.1, fun k => ⟨k, noneC_at N j⟩⟩
theorem mask_diff {a b : List Bool} {N : Nat} (hN : N + 1 ≤ 61) (ha : a.length = N + 1) (hb : b.length = N + 1) : diffN (maskC a) (maskC b) = maskC (freshC a b) :=
  Nat.eq_of_testBit_eq fun j => by
    rw [diff_bit (by have := mask61 hN ha; omega) (by have := mask61 hN hb; omega), mask_fresh (by rw [ha, hb])]
theorem frontC_none {T : List Bool → List Bool} {N : Nat} (h0 : T (noneC N) = noneC N) : ∀ (m : Nat) (a : List Bool), a.length = N + 1 → frontC T m a (noneC N) = a
  | 0, _, _ => rfl
  | m + 1, a, ha => by
    unfold frontC
    rw [h0, bothC_none ha, fresh_none ha]
    exact frontC_none h0 m a ha
theorem frontC_fix {T : List Bool → List Bool} {N : Nat} (h0 : T (noneC N) = noneC N) {x : List Bool} (hx : x.length = N + 1) (h : T x = x) : ∀ m, frontC T m x x = x
  | 0 => rfl
  | m + 1 => by
    unfold frontC
    rw [h, both_self, fresh_self hx]
    exact frontC_none h0 m x hx
def cntB (a : List Bool) : Nat := a.count true
theorem cnt_le (a : List Bool) : cntB a ≤ a.length := List.count_le_length
theorem cnt_both : ∀ (a e : List Bool), a.length = e.length → cntB (bothC a e) = cntB a + cntB (freshC e a)
  | [], [], _ => rfl
  | x :: a, y :: e, h => by
    have := cnt_both a e (by simpa using h)
    unfold cntB bothC freshC at *
    simp only [List.zipWith_cons_cons, List.count_cons]
    rw [this]
    cases x <;> cases y <;> simp <;> omega
theorem cnt_pos {a : List Bool} (h : maskC a ≠ 0) : 1 ≤ cntB a := by
  obtain ⟨j, hj⟩ := mask_some h
  refine List.count_pos_iff.2 ?_
  unfold On at hj
  rw [List.getD_eq_getElem?_getD] at hj
  cases h : a[j]? with
  | none => rw [h] at hj; cases hj
  | some x => rw [h] at hj; exact List.mem_of_getElem? (by rw [h]; exact congrArg some hj)
theorem box_set {n0 B b : Nat} {W : World} {v : Value} {m : Nat} (h : Box n0 W B v m) (hB : b ≠ B) {x : Option Addr} {y z : Nat} (hc : W.heap[b]? = some (.cells #[.slice x y z] 62 (0, 0))) (u : Value) : Box n0 (W.setCell ⟨b, 0, none⟩ u) B v m := by
  refine ⟨h.1, (Below.heap_setCell W ⟨b, 0, none⟩ u B (fun e => hB e.symm)).trans h.2.1, ?_⟩
  rcases h.2.2 with h | ⟨h0, ho⟩
  · exact Or.inl h
  · exact Or.inr ⟨h0, ownsRow_setCell_other ho (own_far ho hc (by decide)) u⟩
def Left (N : Nat) (b : Int) (A E : List Bool) (K : Nat) : Prop := b < 0 → maskC E = 0 ∨ N + 3 ≤ cntB A + K
theorem Left.next {N : Nat} {b : Int} {A E : List Bool} {K : Nat} {T : List Bool → List Bool} (hA : A.length = N + 1) (hTE : (T E).length = N + 1) (h : Left N b A E (K + 1)) (hE : maskC E ≠ 0) : Left N b (bothC A (T E)) (freshC (T E) A) K := fun hb => by
  rcases h hb with h | h
  · exact absurd h hE
  · by_cases h0 : maskC (freshC (T E) A) = 0
    · exact Or.inl h0
    · refine Or.inr ?_
      rw [cnt_both A (T E) (by rw [hA, hTE])]
      have := cnt_pos h0
      omega
theorem Left.pos {N : Nat} {b : Int} {A E : List Bool} {K : Nat} (hA : A.length = N + 1) (h : Left N b A E K) (hE : maskC E ≠ 0) (hb : b < 0) : 1 ≤ K := by
  rcases h hb with h | h
  · exact absurd h hE
  · have := cnt_le A
    omega
theorem own_notF {n0 B F : Nat} {W : World} {v : Value} {m : Nat} (h : Box n0 W B v m) {x : Option Addr} {y z : Nat} (hq : W.heap[F]? = some (.cells #[.slice x y z] 62 (0, 0))) : v.ownBlock ≠ some F := by
  rcases h.2.2 with ⟨_, rfl⟩ | ⟨_, ho⟩
  · simp [Value.ownBlock]
  · exact own_far ho hq (by decide)
set_option maxRecDepth 100000 in
set_option maxHeartbeats 2000000 in
theorem rep77 (N : Nat) (hN : N + 1 ≤ 61) (T : List Bool → List Bool) (hTl : ∀ g : List Bool, g.length = N + 1 → (T g).length = N + 1) (hT0 : T (noneC N) = noneC N) (L : Nat) (hL : L ≤ 1000000) (b : Int) (hb1 : b = -1 ∨ (L ≤ b ∧ b ≤ 1000000)) (f : List Bool) (hf : f.length = N + 1)
    (v : Value) (W : World) (hv : SetV W v (maskC f)) (bl bo bm : Nat) (hcl : W.cell? ⟨bl, 0, none⟩ = some (.int .i64 (L : Int))) (hcm : W.cell? ⟨bm, 0, none⟩ = some (.int .i64 b)) (K : Nat) (caps : Array Value) (hco : W.cell? ⟨bo, 0, none⟩ = some (.func (.func K) #[] caps))
    (hrun : ∀ xs W, (callFunc K xs).run Tryz.prog W = .ok (.enter K xs) W) (hcall : ∀ W' f v, Below W.heap.size W W' → f.length = N + 1 → SetV W' v (maskC f) → Calls Tryz.prog K (#[.agg #[v]] ++ caps) W' (RetO W' (maskC (T f)))) :
    Calls Tryz.prog 104 #[.agg #[v], .pointer (some ⟨bl, 0, none⟩), .pointer (some ⟨bo, 0, none⟩), .pointer (some ⟨bm, 0, none⟩)] W (RetO W (maskC (repC T (L : Int) b N f))) := by
  obtain ⟨A0, n0, c0, rfl⟩ := hv.form
  have hlt1 : bl < W.heap.size := World.block_lt_of_cell? _ _ hcl
  have hlt2 : bo < W.heap.size := World.block_lt_of_cell? _ _ hco
  have hlt3 : bm < W.heap.size := World.block_lt_of_cell? _ _ hcm
  have Hv := hide hv
  have Hf := hide hf
  have HTl := hide hTl
  have HT0 := hide hT0
  have Hb1 := hide hb1
  have HC := hide hcall
  have hb0 := bnew (bnew (Below.refl _ W) (.cells #[.slice A0 n0 c0] 62)) (.cells #[.slice none 0 0] 62)
  have cl := (hb0.cell (p := ⟨bl, 0, none⟩) hlt1).trans hcl
  have k0 : ((W.alloc (.cells #[.slice A0 n0 c0] 62)).alloc (.cells #[.slice none 0 0] 62)).heap[W.heap.size]? = some (.cells #[.slice A0 n0 c0] 62 (0, 0)) := (Below.heap_alloc _ _ _ (by simp)).trans (heap_alloc_new W _)
  have k1 : ((W.alloc (.cells #[.slice A0 n0 c0] 62)).alloc (.cells #[.slice none 0 0] 62)).heap[W.heap.size + 1]? = some (.cells #[.slice none 0 0] 62 (0, 0)) := by
    have := heap_alloc_new (W.alloc (.cells #[.slice A0 n0 c0] 62)) (.cells #[.slice none 0 0] 62)
    rw [World.size_alloc] at this
    exact this
  have B0 := hide hb0
  have K0 := hide k0
  have K1 := hide k1
  have Cl := hide hcl
  have Co := hide hco
  have Cm := hide hcm
  clear hv hf hTl hT0 hb1 hcall hb0 k0 k1 hcl hco hcm
  go_enter Tryz.func104, Tryz.ntmps104
  go_wp2
  go_loopw [11] (fun y wr => ∃ (k : Nat) (g : List Bool) (a : Option Addr) (m d : Nat), k ≤ L ∧ y = .int .i64 (k : Int) ∧ wr.heap[W.heap.size]? = some (.cells #[.slice a m d] 62 (0, 0)) ∧ SetV wr (.slice a m d) (maskC g) ∧ g.length = N + 1 ∧ timesC T (L - k) g = timesC T L f ∧
    wr.heap[W.heap.size + 1]? = some (.cells #[.slice none 0 0] 62 (0, 0)) ∧ Below W.heap.size W wr) (fun y _ => L - (intOf y).toNat)
  case atStart => exact ⟨0, f, A0, n0, c0, by omega, rfl, K0.out, Hv.out.below B0.out, Hf.out, rfl, K1.out, B0.out⟩
  case round =>
    obtain ⟨k, g, a, m, d, hk, rfl, q0, hsv, hg, htm, q1, hbel⟩ := hrel
    obtain ⟨w1, hw1⟩ : ∃ w1, w1 = wr := ⟨wr, rfl⟩
    subst hw1
    by_cases hlt : k < L
    · have hc1 := (hbel.cell (p := ⟨bo, 0, none⟩) hlt2).trans Co.out
      have c0' := cell_of_one q0
      have f0' := free_of_one q0
      have HC1 := hide (HC.out w1 g (.slice a m d) hbel hg hsv)
      have B := hide hbel
      have Q0 := hide q0
      have Q1 := hide q1
      have Sv := hide hsv
      have Hg := hide hg
      have Htm := hide htm
      have hsz0 := lt_of_block q0
      have hsz1 := lt_of_block q1
      have hd : decide ((k : Int) < (L : Int)) = true := decide_eq_true (by omega)
      have hd2 : decide (k < L) = true := decide_eq_true hlt
      clear hbel q0 q1 hg htm hsv
      go_wp2_with fail
      with_reducible refine HC1.out.mono ?_
      rintro e w2 ⟨u, rfl, ⟨s2, rfl, hs2⟩, hb2⟩
      obtain ⟨a2, m2, d2, rfl⟩ := hs2.form
      have q2 := (hb2.block _ hsz0).trans Q0.out
      have hby := bnew (Below.refl _ w2) (.cells #[.slice a2 m2 d2] 62)
      have cy0 := (hby.cell (p := ⟨W.heap.size, 0, none⟩) (by show W.heap.size < w2.heap.size; have := hb2.size; omega)).trans (cell_of_one q2)
      have S2 := hide (hs2.below hby)
      have Bw := hide (B.out.trans ((hb2.mono (Nat.le_of_lt hsz0)).trans (hby.mono (by have := hb2.size; omega))))
      have Q0y := hide ((hby.block _ (by have := hb2.size; omega)).trans q2)
      have Q1y := hide ((hby.block _ (by have := hb2.size; omega)).trans ((hb2.block _ hsz1).trans Q1.out))
      have SO := hide ((Sv.out.below hb2).below hby)
      have Qn := hide (heap_alloc_new w2 (.cells #[.slice a2 m2 d2] 62))
      have hs2lt : W.heap.size + 1 < w2.heap.size := by have := hb2.size; omega
      clear hs2 hb2 q2 hby
      by_cases hq : T g = g
      · have HE := hide (equal78 _ _ _ _ _ S2.out SO.out true (by rw [hq]; simp))
        have Hq := hide hq
        clear hq
        go_wp2_with fail
        with_reducible refine HE.out.mono ?_
        rintro e w4 ⟨rfl, hd4⟩
        have hb4 := hd4.below w4.heap.size
        have hb4' := hd4.below (w2.alloc (.cells #[.slice a2 m2 d2] 62)).heap.size
        have cn4 := (hd4.cell ⟨w2.heap.size, 0, none⟩).trans (cell_of_one Qn.out)
        have q14 := (hb4'.block (W.heap.size + 1) (by simp; omega)).trans Q1y.out
        have c14 := cell_of_one q14
        have f14 := free_of_one q14
        have S4 := hide (S2.out.below hb4')
        have B4 := hide (Bw.out.trans (hb4'.mono (by have := Bw.out.size; omega)))
        have Q14 := hide q14
        clear hb4 hb4' hd4 q14
        have hrep : repC T (L : Int) b N f = T g := by
          have hX : timesC T L f = g := by rw [← Htm.out, timesC_fix Hq.out]
          unfold repC
          rw [show ((L : Int).toNat) = L by omega, hX, Hq.out]
          exact frontC_fix HT0.out Hg.out Hq.out _
        have Hrep := hide hrep
        clear hrep
        go_wp2
        refine bodyPost_ret (res_one52 rfl _ _ (W.heap.size + 1) (.slice a2 m2 d2) rfl (cell_of_one (one_setCell Q14.out))) rfl ⟨_, rfl, ⟨_, rfl, by rw [Hrep.out]; exact setv_set S4.out (cell_of_one Q14.out) _⟩, B4.out.setCell (by show W.heap.size ≤ W.heap.size + 1; omega) _⟩
      · have HE := hide (equal78 _ _ _ _ _ S2.out SO.out false (decide_eq_false fun h => hq (mask_inj (by rw [HTl.out g Hg.out, Hg.out]) h)))
        clear hq
        go_wp2_with fail
        with_reducible refine HE.out.mono ?_
        rintro e w4 ⟨rfl, hd4⟩
        have hb4' := hd4.below (w2.alloc (.cells #[.slice a2 m2 d2] 62)).heap.size
        have cn4 := (hd4.cell ⟨w2.heap.size, 0, none⟩).trans (cell_of_one Qn.out)
        have q04 := (hb4'.block (W.heap.size) (by simp; omega)).trans Q0y.out
        have c04 := cell_of_one q04
        have f04 := free_of_one q04
        have S4 := hide (S2.out.below hb4')
        have B4 := hide (Bw.out.trans (hb4'.mono (by have := Bw.out.size; omega)))
        have Q04 := hide q04
        have Q14 := hide ((hb4'.block (W.heap.size + 1) (by simp; omega)).trans Q1y.out)
        clear hb4' hd4 q04
        go_wp2
        go_roundw
        case rel =>
          refine ⟨k + 1, T g, a2, m2, d2, by omega, by go_num, one_setCell Q04.out, setv_set S4.out (cell_of_one Q04.out) _, HTl.out g Hg.out, ?_, (Below.heap_setCell w4 ⟨W.heap.size, 0, none⟩ _ (W.heap.size + 1) (by show W.heap.size + 1 ≠ W.heap.size; omega)).trans Q14.out, B4.out.setCell (Nat.le_refl _) _⟩
          rw [← Htm.out, show L - k = (L - (k + 1)) + 1 by omega]
          rfl
        case measure => simp [intOf]; omega
    · obtain rfl : k = L := by omega
      rw [Nat.sub_self] at htm
      have htm : g = timesC T k f := htm
      obtain ⟨X, rfl⟩ : ∃ X, X = g := ⟨_, rfl⟩
      have hX : timesC T k f = X := htm.symm
      clear htm
      obtain ⟨tot, htot⟩ : ∃ t, k + (if b < 0 then N + 2 else b.toNat - k) = t := ⟨_, rfl⟩
      have hres : repC T (k : Int) b N f = frontC T (tot - k) X X := by
        unfold repC
        rw [show ((k : Int).toNat) = k by omega, hX, ← htot, Nat.add_sub_cancel_left]
      have htk : k ≤ tot := by omega
      have htb : tot ≤ 1000100 := by
        have := Hb1.out
        rw [← htot]
        split <;> omega
      have htot1 : b < 0 → tot = k + (N + 2) := fun h => by rw [← htot, if_pos h]
      have htot2 : ∀ bn : Nat, b = (bn : Int) → tot = bn := fun bn h => by
        have := Hb1.out
        rw [← htot, if_neg (by omega)]
        omega
      have hbx : Box w1.heap.size (w1.alloc (.cells #[.slice none 0 0] 62)) w1.heap.size (.slice none 0 0) 0 := Box.new w1 (Nat.le_refl _)
      have hbr := bnew (Below.refl _ w1) (.cells #[.slice none 0 0] 62)
      have HA := hide (add76 w1.heap.size w1.heap.size 0 (maskC X) (.slice none 0 0) (.slice a m d) _ hbx (by simp) (by decide) (mask61 hN hg) (hsv.below hbr))
      have hsz0 := lt_of_block q0
      have hsz1 := lt_of_block q1
      have c0R := (hbr.cell (p := ⟨W.heap.size, 0, none⟩) hsz0).trans (cell_of_one q0)
      have Q1 := hide q1
      have Bel := hide hbel
      have Hg := hide hg
      have Br := hide hbr
      have Hres := hide hres
      have Ht1 := hide htot1
      have Ht2 := hide htot2
      clear hbx hbr hsv q0 q1 hbel hg hX htot hres htot1 htot2
      go_wp2_with fail
      with_reducible refine HA.out.mono ?_
      rintro e w3 ⟨u3, v3, rfl, hu3, hbx3, ht3, -⟩
      rw [Nat.zero_or] at hbx3
      have hu3' : SetV w3 u3 (maskC X) := by
        have := mask_diff hN Hg.out (noneC_len N)
        rw [mask_none, fresh_of_none Hg.out] at this
        rw [← this]
        exact hu3
      obtain ⟨a3, m3, d3, rfl⟩ := hbx3.2.2.form
      obtain ⟨a4, m4, d4, rfl⟩ := hu3'.form
      have hb3 : Below w1.heap.size w1 w3 := Br.out.trans (ht3.below (by simp) fun q h => by
        rcases h with h | h
        · omega
        · cases h)
      have hb4 := bnew (Below.refl _ w3) (.cells #[.slice a4 m4 d4] 62)
      have X4 := hide (hbx3.below hb4)
      have S4 := hide (hu3'.below hb4)
      have qF := heap_alloc_new w3 (.cells #[.slice a4 m4 d4] 62)
      have B4 := hide (hb3.trans (hb4.mono hb3.size))
      have clF := (B4.out.cell (p := ⟨bl, 0, none⟩) (by show bl < w1.heap.size; omega)).trans ((Bel.out.cell (p := ⟨bl, 0, none⟩) hlt1).trans Cl.out)
      obtain ⟨F, hF⟩ : ∃ F, w3.heap.size = F := ⟨_, rfl⟩
      have QF := hide qF
      have hRF : w1.heap.size < F := by have := hbx3.lt; omega
      clear hu3 hu3' hbx3 ht3 hb3 hb4 qF
      rw [hF] at QF
      have HF := hide hF
      clear hF
      go_wp2
      rw [HF.out]
      go_loopw [9] (fun y wr => ∃ (n : Nat) (A E : List Bool) (a : Option Addr) (m d : Nat) (a' : Option Addr) (m' d' : Nat), y = .int .i64 (n : Int) ∧ k ≤ n ∧ n ≤ tot ∧ Box w1.heap.size wr w1.heap.size (.slice a m d) (maskC A) ∧ wr.heap[F]? = some (.cells #[.slice a' m' d'] 62 (0, 0)) ∧
        SetV wr (.slice a' m' d') (maskC E) ∧ A.length = N + 1 ∧ E.length = N + 1 ∧ frontC T (tot - n) A E = frontC T (tot - k) X X ∧ Left N b A E (tot - n) ∧ Below w1.heap.size w1 wr) (fun y _ => tot - (intOf y).toNat)
      case atStart =>
        refine ⟨k, X, X, a3, m3, d3, a4, m4, d4, rfl, Nat.le_refl _, htk, X4.out, QF.out, S4.out, Hg.out, Hg.out, rfl, fun hb => ?_, B4.out⟩
        by_cases h0 : maskC X = 0
        · exact Or.inl h0
        · have := cnt_pos h0
          have := Ht1.out hb
          exact Or.inr (by omega)
      case round =>
        obtain ⟨n, A, E, a2, m2, d2, a1, m1, d1, rfl, hkn, hnt, hbox, hqF, hsE, hA, hE0, hfr, hleft, hbel⟩ := hrel
        obtain ⟨w, hw⟩ : ∃ w, w = wr := ⟨wr, rfl⟩
        subst hw
        have X := hide hbox
        have QF := hide hqF
        have HA0 := hide hA
        have HE0 := hide hE0
        have Hfr := hide hfr
        have HLf := hide hleft
        have B := hide hbel
        have hFlt := lt_of_block hqF
        have cF := cell_of_one hqF
        have co := (hbel.cell (p := ⟨bo, 0, none⟩) (by show bo < w1.heap.size; omega)).trans ((Bel.out.cell (p := ⟨bo, 0, none⟩) hlt2).trans Co.out)
        have cm := (hbel.cell (p := ⟨bm, 0, none⟩) (by show bm < w1.heap.size; omega)).trans ((Bel.out.cell (p := ⟨bm, 0, none⟩) hlt3).trans Cm.out)
        have HC1 := hide (HC.out w E (.slice a1 m1 d1) (Bel.out.trans (hbel.mono (by omega))) hE0 hsE)
        by_cases hE : maskC E = 0
        · rw [hE] at hsE
          obtain ⟨_, _, h⟩ := hsE.nil
          simp only [Value.slice.injEq] at h
          obtain ⟨rfl, rfl, rfl⟩ := h
          have HM := hide (empty37 true F 0 _ _ w cF rfl)
          have hres : repC T (k : Int) b N f = A := by
            rw [Hres.out, ← hfr, mask_zero hE0 hE]
            exact frontC_none HT0.out _ _ hA
          have Hres := hide hres
          clear hbox hqF hsE hA hE0 hfr hleft hbel hres
          go_wp2_with fail
          with_reducible refine HM.out.mono ?_
          rintro e w5 ⟨rfl, rfl⟩
          have hbR := cell_of_one X.out.2.1
          have q1w := (B.out.block (W.heap.size + 1) hsz1).trans Q1.out
          have c1w := cell_of_one q1w
          have f1w := free_of_one q1w
          have Q1w := hide q1w
          clear q1w
          go_wp2
          refine bodyPost_ret (res_one52 rfl _ _ (W.heap.size + 1) (.slice a2 m2 d2) rfl (cell_of_one (one_setCell Q1w.out))) rfl ⟨_, rfl, ⟨_, rfl, by rw [Hres.out]; exact (acc_off X.out.2.2 (W.heap.size + 1) _ hsz1).set⟩, (Bel.out.trans (B.out.mono (by omega))).setCell (by show W.heap.size ≤ W.heap.size + 1; omega) _⟩
        · obtain ⟨r, c, h, -⟩ := hsE.row hE
          simp only [Value.slice.injEq] at h
          obtain ⟨rfl, rfl, rfl⟩ := h
          have HM := hide (empty37 false F 1 _ _ w cF rfl)
          rcases Hb1.out with rfl | hb1
          · have hK := HLf.out.pos hA hE (by omega)
            clear hbox hqF hsE hA hE0 hfr hleft hbel
            go_wp2_with fail
            with_reducible refine HM.out.mono ?_
            rintro e w5 ⟨rfl, rfl⟩
            go_wp2_with fail
            with_reducible refine HC1.out.mono ?_
            rintro e w5 ⟨u, rfl, ⟨s5, rfl, hs5⟩, hb5⟩
            obtain ⟨a5, m5, d5, rfl⟩ := hs5.form
            have HA := hide (add76 w1.heap.size w1.heap.size (maskC A) (maskC (T E)) (.slice a2 m2 d2) (.slice a5 m5 d5) w5 (X.out.below hb5) (by have := hb5.size; have := B.out.size; omega) (mask61 hN HA0.out) (mask61 hN (HTl.out E HE0.out)) hs5)
            have B5 := hide hb5
            clear hs5 hb5
            go_wp2_with fail
            with_reducible refine HA.out.mono ?_
            rintro e w6 ⟨u6, v6, rfl, hu6, hbx6, ht6, -⟩
            obtain ⟨a6, m6, d6, rfl⟩ := hbx6.2.2.form
            obtain ⟨a7, m7, d7, rfl⟩ := hu6.form
            have q56 := (ht6.block F (by have := B5.out.size; omega) (fun h => by
              rcases h with h | h
              · omega
              · exact own_notF (X.out.below B5.out) ((B5.out.block F hFlt).trans QF.out) h)).trans ((B5.out.block F hFlt).trans QF.out)
            have cF6 := cell_of_one q56
            have fF6 := free_of_one q56
            have hb6 : Below w1.heap.size w1 w6 := (B.out.trans (B5.out.mono (by have := B.out.size; omega))).trans (ht6.below (by have := B5.out.size; have := B.out.size; omega) fun q h => by
              rcases h with h | h
              · omega
              · exact (X.out.low h).1)
            rw [← mask_both (by rw [HA0.out, HTl.out E HE0.out])] at hbx6
            rw [mask_diff hN (HTl.out E HE0.out) HA0.out] at hu6
            have X6 := hide hbx6
            have U6 := hide hu6
            have Q6 := hide q56
            have B6 := hide hb6
            clear hu6 hbx6 ht6 q56 hb6
            go_wp2
            go_roundw
            case rel =>
              refine ⟨n + 1, bothC A (T E), freshC (T E) A, a6, m6, d6, a7, m7, d7, by go_num, by omega, by omega, box_set X6.out (by omega) Q6.out _, one_setCell Q6.out, setv_set U6.out (cell_of_one Q6.out) _, bothC_len HA0.out (HTl.out E HE0.out), freshC_len (HTl.out E HE0.out) HA0.out, ?_, ?_, B6.out.setCell (Nat.le_of_lt hRF) _⟩
              · have := Hfr.out
                rw [show tot - n = (tot - (n + 1)) + 1 by omega] at this
                exact this
              · have := HLf.out
                rw [show tot - n = (tot - (n + 1)) + 1 by omega] at this
                exact this.next HA0.out (HTl.out E HE0.out) hE
            case measure => simp [intOf]; omega
          · obtain ⟨bn, rfl⟩ : ∃ bn : Nat, b = (bn : Int) := ⟨b.toNat, by omega⟩
            have hbt := Ht2.out bn rfl
            have hb2 : (((bn : Nat) : Int) == -1) = false := by rw [beq_eq_false_iff_ne]; omega
            by_cases hnb : n < bn
            · have hd : decide ((n : Int) < (bn : Int)) = true := decide_eq_true (by omega)
              have hd2 : decide (n < bn) = true := decide_eq_true hnb
              clear hbox hqF hsE hA hE0 hfr hleft hbel
              go_wp2_with fail
              with_reducible refine HM.out.mono ?_
              rintro e w5 ⟨rfl, rfl⟩
              go_wp2_with fail
              with_reducible refine HC1.out.mono ?_
              rintro e w5 ⟨u, rfl, ⟨s5, rfl, hs5⟩, hb5⟩
              obtain ⟨a5, m5, d5, rfl⟩ := hs5.form
              have HA := hide (add76 w1.heap.size w1.heap.size (maskC A) (maskC (T E)) (.slice a2 m2 d2) (.slice a5 m5 d5) w5 (X.out.below hb5) (by have := hb5.size; have := B.out.size; omega) (mask61 hN HA0.out) (mask61 hN (HTl.out E HE0.out)) hs5)
              have B5 := hide hb5
              clear hs5 hb5
              go_wp2_with fail
              with_reducible refine HA.out.mono ?_
              rintro e w6 ⟨u6, v6, rfl, hu6, hbx6, ht6, -⟩
              obtain ⟨a6, m6, d6, rfl⟩ := hbx6.2.2.form
              obtain ⟨a7, m7, d7, rfl⟩ := hu6.form
              have q56 := (ht6.block F (by have := B5.out.size; omega) (fun h => by
                rcases h with h | h
                · omega
                · exact own_notF (X.out.below B5.out) ((B5.out.block F hFlt).trans QF.out) h)).trans ((B5.out.block F hFlt).trans QF.out)
              have cF6 := cell_of_one q56
              have fF6 := free_of_one q56
              have hb6 : Below w1.heap.size w1 w6 := (B.out.trans (B5.out.mono (by have := B.out.size; omega))).trans (ht6.below (by have := B5.out.size; have := B.out.size; omega) fun q h => by
                rcases h with h | h
                · omega
                · exact (X.out.low h).1)
              rw [← mask_both (by rw [HA0.out, HTl.out E HE0.out])] at hbx6
              rw [mask_diff hN (HTl.out E HE0.out) HA0.out] at hu6
              have X6 := hide hbx6
              have U6 := hide hu6
              have Q6 := hide q56
              have B6 := hide hb6
              clear hu6 hbx6 ht6 q56 hb6
              go_wp2
              go_roundw
              case rel =>
                refine ⟨n + 1, bothC A (T E), freshC (T E) A, a6, m6, d6, a7, m7, d7, by go_num, by omega, by omega, box_set X6.out (by omega) Q6.out _, one_setCell Q6.out, setv_set U6.out (cell_of_one Q6.out) _, bothC_len HA0.out (HTl.out E HE0.out), freshC_len (HTl.out E HE0.out) HA0.out, ?_, ?_, B6.out.setCell (Nat.le_of_lt hRF) _⟩
                · have := Hfr.out
                  rw [show tot - n = (tot - (n + 1)) + 1 by omega] at this
                  exact this
                · have := HLf.out
                  rw [show tot - n = (tot - (n + 1)) + 1 by omega] at this
                  exact this.next HA0.out (HTl.out E HE0.out) hE
              case measure => simp [intOf]; omega
            · have hd : decide ((n : Int) < (bn : Int)) = false := decide_eq_false (by omega)
              have hd2 : decide (n < bn) = false := decide_eq_false hnb
              have hres : repC T (k : Int) (bn : Int) N f = A := by
                rw [Hres.out, ← hfr, show tot - n = 0 by omega]
                rfl
              have Hres := hide hres
              clear hbox hqF hsE hA hE0 hfr hleft hbel hres
              go_wp2_with fail
              with_reducible refine HM.out.mono ?_
              rintro e w5 ⟨rfl, rfl⟩
              have hbR := cell_of_one X.out.2.1
              have q1w := (B.out.block (W.heap.size + 1) hsz1).trans Q1.out
              have c1w := cell_of_one q1w
              have f1w := free_of_one q1w
              have Q1w := hide q1w
              clear q1w
              go_wp2
              refine bodyPost_ret (res_one52 rfl _ _ (W.heap.size + 1) (.slice a2 m2 d2) rfl (cell_of_one (one_setCell Q1w.out))) rfl ⟨_, rfl, ⟨_, rfl, by rw [Hres.out]; exact (acc_off X.out.2.2 (W.heap.size + 1) _ hsz1).set⟩, (Bel.out.trans (B.out.mono (by omega))).setCell (by show W.heap.size ≤ W.heap.size + 1; omega) _⟩
theorem run77 (xs : Array Value) (W : World) : (callFunc 104 xs).run Tryz.prog W = .ok (.enter 104 xs) W := by kernel_rfl
theorem repeated55 (K : Nat) (caps : Array Value) (L b : Int) (W : World) : Calls Tryz.prog 67 #[.func (.func K) #[] caps, .int .i64 L, .int .i64 b] W fun e w' =>
    e = .returned (.func (.func 104) #[] #[.pointer (some ⟨W.heap.size + 1, 0, none⟩), .pointer (some ⟨W.heap.size, 0, none⟩), .pointer (some ⟨W.heap.size + 1 + 1, 0, none⟩)]) ∧ w' = ((W.alloc (.cells #[.func (.func K) #[] caps] 64)).alloc (.cells #[.int .i64 L] 3)).alloc (.cells #[.int .i64 b] 3) := by
  go_enter Tryz.func67, Tryz.ntmps67
  go_wp2
  go_ret
  exact ⟨rfl, rfl⟩
theorem repeated_step (N : Nat) (hN : N + 1 ≤ 61) (T : List Bool → List Bool) (hTl : ∀ g : List Bool, g.length = N + 1 → (T g).length = N + 1) (hT0 : T (noneC N) = noneC N) (L : Nat) (hL : L ≤ 1000000) (b : Int) (hb1 : b = -1 ∨ (L ≤ b ∧ b ≤ 1000000)) (sv : Value) (W : World) (hS : StepOK N W sv T) :
    Calls Tryz.prog 67 #[sv, .int .i64 (L : Int), .int .i64 b] W fun e w' => ∃ sv', e = .returned sv' ∧ StepOK N w' sv' (repC T (L : Int) b N) ∧ Below W.heap.size W w' := by
  obtain ⟨K, caps, rfl, hrun, hcall⟩ := hS
  refine (repeated55 K caps (L : Int) b W).mono fun e w' ⟨he, hw⟩ => ?_
  have h0 : w'.heap[W.heap.size]? = some (.cells #[.func (.func K) #[] caps] 64 (0, 0)) := by
    rw [hw]
    exact (Below.heap_alloc _ _ _ (by simp; omega)).trans ((Below.heap_alloc _ _ _ (by simp)).trans (heap_alloc_new W _))
  have h1 : w'.heap[W.heap.size + 1]? = some (.cells #[.int .i64 (L : Int)] 3 (0, 0)) := by
    rw [hw]
    have := heap_alloc_new (W.alloc (.cells #[.func (.func K) #[] caps] 64)) (.cells #[.int .i64 (L : Int)] 3)
    rw [World.size_alloc] at this
    exact (Below.heap_alloc _ _ _ (by simp)).trans this
  have h2 : w'.heap[W.heap.size + 1 + 1]? = some (.cells #[.int .i64 b] 3 (0, 0)) := by
    rw [hw]
    have := heap_alloc_new ((W.alloc (.cells #[.func (.func K) #[] caps] 64)).alloc (.cells #[.int .i64 (L : Int)] 3)) (.cells #[.int .i64 b] 3)
    rw [World.size_alloc, World.size_alloc] at this
    exact this
  have hb : Below W.heap.size W w' := by rw [hw]; exact bnew (bnew (bnew (Below.refl _ W) _) _) _
  refine ⟨_, he, ⟨104, _, rfl, run77, fun W' f v h3 hf hv => ?_⟩, hb⟩
  exact rep77 N hN T hTl hT0 L hL b hb1 f hf v W' hv _ _ _ (cell_of_one ((h3.block _ (lt_of_block h1)).trans h1)) (cell_of_one ((h3.block _ (lt_of_block h2)).trans h2)) K caps (cell_of_one ((h3.block _ (lt_of_block h0)).trans h0)) hrun
    fun W2 f2 v2 h4 h5 h6 => hcall W2 f2 v2 (bgo (bgo hb h3) h4) h5 h6
end Go.Proofs.YtlnbjdlooghpeaaGreatDoor
namespace Go.Proofs.YtlnbjdlooghpeaaGreatDoor
open Go.RowKit
open Go.ChangeShapes (block_add)
theorem catT_map (s : List UInt8) : ∀ (l : List Rx) (f : List Bool), catT (l.map fun x => stepC x s) f = catC l s f
  | [], f => by unfold catC; rfl
  | x :: l, f => by
    unfold catC
    rw [← catT_map s l (stepC x s f)]
    rfl
theorem altT_map (s : List UInt8) (f : List Bool) (hf : f.length = s.length + 1) (l : List Rx) : altT s.length (l.map fun x => stepC x s) f = altC l s f := by
  have h : ∀ (l : List Rx) (a : List Bool), (l.map fun x => stepC x s).foldl (fun a T => bothC a (T f)) a = altL s f l a := by
    intro l
    induction l with
    | nil => intro a; rfl
    | cons x l ih => intro a; rw [List.map_cons, List.foldl_cons, ih]; rfl
  unfold altT
  rw [h l, (altL_eq s f hf l _ (noneC_len _)).1, noneC_both (altL_eq s f hf l _ (noneC_len _)).2]
theorem map_len (s : List UInt8) (l : List Rx) : ∀ T ∈ l.map (fun x => stepC x s), ∀ g : List Bool, g.length = s.length + 1 → (T g).length = s.length + 1 := by
  intro T hT g hg
  obtain ⟨x, _, rfl⟩ := List.mem_map.1 hT
  exact stepC_len x s g hg
theorem stepC_none (r : Rx) (h0 : nodeR r = 0) (s : List UInt8) : stepC r s (noneC s.length) = noneC s.length :=
  none_ext (stepC_len r s _ (noneC_len _)) fun j hj => by
    obtain ⟨i, hi, _⟩ := (stepC_at r s h0 _ (noneC_len _) j).1 hj
    exact noneC_at _ _ hi
theorem info54 : (Tryz.prog.info? 64).map (fun i => (i.zero, i.size, i.bytes)) = some (some .nilFunc, 1, 8) := by kernel_rfl
abbrev Kept (p : Nat → Prop) (W W' : World) : Prop := Turns (fun k => ¬ p k) W W'
theorem Kept.then_ {p : Nat → Prop} {A B C : World} (h : Kept p A B) (k : Kept p B C) : Kept p A C := Turns.trans h k (fun _ _ x => x) (fun _ _ x => x)
theorem Kept.less {p q : Nat → Prop} {A B : World} (h : Kept p A B) (hpq : ∀ k, k < A.heap.size → q k → p k) : Kept q A B := ⟨h.os, h.tape, h.output, h.size, fun k hk hn => h.block k hk fun x => x (hpq k hk (Classical.not_not.1 hn))⟩
theorem Kept.at_ {p : Nat → Prop} {A B : World} (h : Kept p A B) {k : Nat} (hp : p k) (hk : k < A.heap.size) : B.heap[k]? = A.heap[k]? := h.block k hk fun x => x hp
theorem Kept.of {p : Nat → Prop} {A B : World} (h : Below A.heap.size A B) : Kept p A B := Turns.of_below h
def Rng (a b k : Nat) : Prop := k = 0 ∨ (a ≤ k ∧ k < b)
def StepP (N : Nat) (W : World) (p : Nat → Prop) (sv : Value) (T : List Bool → List Bool) : Prop :=
  ∃ K caps, sv = .func (.func K) #[] caps ∧ (∀ xs W, (callFunc K xs).run Tryz.prog W = .ok (.enter K xs) W) ∧ (∀ k, p k → k < W.heap.size) ∧
    ∀ W' f v, Kept p W W' → f.length = N + 1 → SetV W' v (maskC f) → Calls Tryz.prog K (#[.agg #[v]] ++ caps) W' (RetO W' (maskC (T f)))
def CondP (N : Nat) (W : World) (p : Nat → Prop) (hv : Value) (P : Nat → Bool) : Prop :=
  ∃ K caps, hv = .func (.func K) #[] caps ∧ (∀ xs W, (callFunc K xs).run Tryz.prog W = .ok (.enter K xs) W) ∧ (∀ k, p k → k < W.heap.size) ∧
    ∀ W' i, Kept p W W' → i ≤ N → Calls Tryz.prog K (#[.int .i64 (i : Int)] ++ caps) W' fun e w' => e = .returned (.bool (P i)) ∧ Below W'.heap.size W' w'
theorem StepP.ok {N : Nat} {W W' : World} {p : Nat → Prop} {sv : Value} {T : List Bool → List Bool} (h : StepP N W p sv T) (k : Kept p W W') : StepOK N W' sv T := by
  obtain ⟨K, caps, e, hr, _, hc⟩ := h
  exact ⟨K, caps, e, hr, fun W2 f v h2 hf hv => hc W2 f v (k.then_ (Kept.of h2)) hf hv⟩
theorem CondP.ok {N : Nat} {W W' : World} {p : Nat → Prop} {hv : Value} {P : Nat → Bool} (h : CondP N W p hv P) (k : Kept p W W') : CondOK N W' hv P := by
  obtain ⟨K, caps, e, hr, _, hc⟩ := h
  exact ⟨K, caps, e, hr, fun W2 i h2 hi => hc W2 i (k.then_ (Kept.of h2)) hi⟩
theorem StepP.turn {N : Nat} {W W' : World} {p : Nat → Prop} {sv : Value} {T : List Bool → List Bool} (h : StepP N W p sv T) (k : Kept p W W') : StepP N W' p sv T := by
  obtain ⟨K, caps, e, hr, hp, hc⟩ := h
  exact ⟨K, caps, e, hr, fun q hq => by have := hp q hq; have := k.size; omega, fun W2 f v h2 hf hv => hc W2 f v (k.then_ h2) hf hv⟩
theorem StepP.more {N : Nat} {W : World} {p q : Nat → Prop} {sv : Value} {T : List Bool → List Bool} (h : StepP N W p sv T) (hpq : ∀ k, p k → q k) (hq : ∀ k, q k → k < W.heap.size) : StepP N W q sv T := by
  obtain ⟨K, caps, e, hr, hp, hc⟩ := h
  exact ⟨K, caps, e, hr, hq, fun W2 f v h2 hf hv => hc W2 f v (h2.less fun k _ hk => hpq k hk) hf hv⟩
theorem StepP.congr {N : Nat} {W : World} {p : Nat → Prop} {sv : Value} {T T' : List Bool → List Bool} (h : StepP N W p sv T) (hT : ∀ f : List Bool, f.length = N + 1 → T f = T' f) : StepP N W p sv T' := by
  obtain ⟨K, caps, e, hr, hp, hc⟩ := h
  exact ⟨K, caps, e, hr, hp, fun W2 f v h2 hf hv => by rw [← hT f hf]; exact hc W2 f v h2 hf hv⟩
def StepsP (N : Nat) (W : World) (p : Nat → Prop) (A : Option Addr) (n c : Nat) (Ts : List (List Bool → List Bool)) : Prop :=
  ∃ svs, Sl W A n c svs ∧ Ts.length = n ∧ (∀ ad, A = some ad → 0 < n → p ad.block) ∧ (∀ k, p k → k < W.heap.size) ∧ ∀ (i : Nat) (sv : Value) (T : List Bool → List Bool), svs[i]? = some sv → Ts[i]? = some T → StepP N W p sv T
theorem StepsP.ok {N : Nat} {W W' : World} {p : Nat → Prop} {A : Option Addr} {n c : Nat} {Ts : List (List Bool → List Bool)} (h : StepsP N W p A n c Ts) (k : Kept p W W') : StepsS N W' A n c Ts := by
  obtain ⟨svs, h1, h2, h3, h4, h5⟩ := h
  refine ⟨svs, ⟨h1.1, h1.2.1, h1.2.2.1, h1.2.2.2.1, fun j u hu => ?_⟩, h2, fun i sv T h6 h7 => (h5 i sv T h6 h7).ok k⟩
  obtain ⟨ad, hA, hlt, hc⟩ := h1.2.2.2.2 j u hu
  have hn : 0 < n := by
    have := (List.getElem?_eq_some_iff.1 hu).1
    have := h1.2.2.2.1
    omega
  exact ⟨ad, hA, by have := k.size; omega, (World.cell?_of_block (a := ad.add j) (by rw [block_add]; exact k.at_ (h3 ad hA hn) hlt)).trans hc⟩
theorem StepsP.turn {N : Nat} {W W' : World} {p : Nat → Prop} {A : Option Addr} {n c : Nat} {Ts : List (List Bool → List Bool)} (h : StepsP N W p A n c Ts) (k : Kept p W W') : StepsP N W' p A n c Ts := by
  obtain ⟨svs', g1, g2, g3⟩ := h.ok k
  obtain ⟨svs, h1, h2, h3, h4, h5⟩ := h
  have e : svs = svs' := by
    refine List.ext_getElem? fun j => ?_
    rcases Nat.lt_or_ge j n with hj | hj
    · obtain ⟨ad, u, hA, hlt, hu, hc⟩ := h1.2.2.2.at_ hj
      obtain ⟨ad', u', hA', hlt', hu', hc'⟩ := g1.2.2.2.at_ hj
      rw [hA] at hA'
      cases hA'
      rw [hu, hu', ← hc, ← hc']
      exact (World.cell?_of_block (a := ad.add j) (by rw [block_add]; exact k.at_ (h3 ad hA (by omega)) hlt)).symm
    · rw [List.getElem?_eq_none (by rw [h1.2.2.2.1]; omega), List.getElem?_eq_none (by rw [g1.2.2.2.1]; omega)]
  subst e
  exact ⟨svs, g1, g2, h3, fun q hq => by have := h4 q hq; have := k.size; omega, fun i sv T h6 h7 => (h5 i sv T h6 h7).turn k⟩
def AndNew (p : Nat → Prop) (W W' : World) (k : Nat) : Prop := p k ∨ k = 0 ∨ (W.heap.size ≤ k ∧ k < W'.heap.size)
theorem kept_new {p : Nat → Prop} {W w W' : World} (_hp : ∀ k, p k → k < W.heap.size) (hb : Below W.heap.size W w) (h : Kept (AndNew p W w) w W') : Kept p W W' :=
  (Kept.of hb).then_ (h.less fun _ _ hk => Or.inl hk)
theorem advance_stepP (N len : Nat) (hN : N + 1 ≤ 61) (P : Nat → Bool) (hP : ∀ i, i ≤ N → P i = true → i + len < 61) (T : List Bool → List Bool) (hT : ∀ f : List Bool, f.length = N + 1 → ∀ j, On (T f) j ↔ ∃ i, On f i ∧ P i = true ∧ j = i + len)
    (hv : Value) (W : World) (p : Nat → Prop) (hc : CondP N W p hv P) (ht : HasT W) : Calls Tryz.prog 62 #[.int .i64 (len : Int), hv] W fun e w' => ∃ sv, e = .returned sv ∧ StepP N w' (AndNew p W w') sv T ∧ Below W.heap.size W w' := by
  have hc0 := hc
  obtain ⟨K, caps, rfl, hr, hp, hcall⟩ := hc0
  refine (advance50 len K caps W).mono fun e w' ⟨he, hw⟩ => ?_
  have hb : Below W.heap.size W w' := by rw [hw]; exact bnew (bnew (Below.refl _ W) _) _
  have c1 : w'.heap[W.heap.size]? = some (.cells #[.int .i64 (len : Int)] 3 (0, 0)) := by rw [hw]; exact (Below.heap_alloc _ _ _ (by simp)).trans (heap_alloc_new W _)
  have c2 : w'.heap[W.heap.size + 1]? = some (.cells #[.func (.func K) #[] caps] 93 (0, 0)) := by
    rw [hw]
    have := heap_alloc_new (W.alloc (.cells #[.int .i64 (len : Int)] 3)) (.cells #[.func (.func K) #[] caps] 93)
    rw [World.size_alloc] at this
    exact this
  have l1 := lt_of_block c1
  have l2 := lt_of_block c2
  refine ⟨_, he, ⟨100, _, rfl, run73, fun k hk => ?_, fun W' f v h2 hf hvv => ?_⟩, hb⟩
  · rcases hk with hk | hk | hk
    · have := hp k hk; have := hb.size; omega
    · have := ht.pos; have := hb.size; omega
    · omega
  rw [adv_mask (hT f hf)]
  exact adv73 N len hN P hP f hf v W' hvv (W.heap.size + 1) W.heap.size _ (hc.ok (kept_new hp hb h2)) (cell_of_one ((h2.at_ (Or.inr (Or.inr ⟨by omega, l2⟩)) l2).trans c2)) (cell_of_one ((h2.at_ (Or.inr (Or.inr ⟨by omega, l1⟩)) l1).trans c1))
    ((ht.below hb).kept (h2.at_ (Or.inr (Or.inl rfl)) (by have := ht.pos; have := hb.size; omega)))
theorem inorder_stepP (N : Nat) (Ts : List (List Bool → List Bool)) (hTl : ∀ T ∈ Ts, ∀ g : List Bool, g.length = N + 1 → (T g).length = N + 1) (A : Option Addr) (n c : Nat) (W : World) (p : Nat → Prop) (hS : StepsP N W p A n c Ts) (h0 : 0 < W.heap.size) :
    Calls Tryz.prog 64 #[.slice A n c] W fun e w' => ∃ sv, e = .returned sv ∧ StepP N w' (AndNew p W w') sv (catT Ts) ∧ Below W.heap.size W w' := by
  have hp : ∀ k, p k → k < W.heap.size := by obtain ⟨_, _, _, _, h, _⟩ := hS; exact h
  refine (inorder52 A n c W).mono fun e w' ⟨he, hw⟩ => ?_
  have hb : Below W.heap.size W w' := by rw [hw]; exact bnew (Below.refl _ W) _
  have c1 : w'.heap[W.heap.size]? = some (.cells #[.slice A n c] 98 (0, 0)) := by rw [hw]; exact heap_alloc_new W _
  have l1 := lt_of_block c1
  refine ⟨_, he, ⟨101, _, rfl, run74, fun k hk => ?_, fun W' f v h2 hf hv => ?_⟩, hb⟩
  · rcases hk with hk | hk | hk
    · have := hp k hk; have := hb.size; omega
    · have := hb.size; omega
    · omega
  exact order74 N Ts hTl A n c f hf v W' hv W.heap.size (cell_of_one ((h2.at_ (Or.inr (Or.inr ⟨by omega, l1⟩)) l1).trans c1)) (hS.ok (kept_new hp hb h2))
theorem oneof_stepP (N : Nat) (hN : N + 1 ≤ 61) (Ts : List (List Bool → List Bool)) (hTl : ∀ T ∈ Ts, ∀ g : List Bool, g.length = N + 1 → (T g).length = N + 1) (A : Option Addr) (n c : Nat) (W : World) (p : Nat → Prop) (hS : StepsP N W p A n c Ts) (h0 : 0 < W.heap.size) :
    Calls Tryz.prog 66 #[.slice A n c] W fun e w' => ∃ sv, e = .returned sv ∧ StepP N w' (AndNew p W w') sv (altT N Ts) ∧ Below W.heap.size W w' := by
  have hp : ∀ k, p k → k < W.heap.size := by obtain ⟨_, _, _, _, h, _⟩ := hS; exact h
  refine (oneof54 A n c W).mono fun e w' ⟨he, hw⟩ => ?_
  have hb : Below W.heap.size W w' := by rw [hw]; exact bnew (Below.refl _ W) _
  have c1 : w'.heap[W.heap.size]? = some (.cells #[.slice A n c] 98 (0, 0)) := by rw [hw]; exact heap_alloc_new W _
  have l1 := lt_of_block c1
  refine ⟨_, he, ⟨102, _, rfl, run75, fun k hk => ?_, fun W' f v h2 hf hv => ?_⟩, hb⟩
  · rcases hk with hk | hk | hk
    · have := hp k hk; have := hb.size; omega
    · have := hb.size; omega
    · omega
  exact one75 N hN Ts hTl A n c f hf v W' hv W.heap.size (cell_of_one ((h2.at_ (Or.inr (Or.inr ⟨by omega, l1⟩)) l1).trans c1)) (hS.ok (kept_new hp hb h2))
theorem repeated_stepP (N : Nat) (hN : N + 1 ≤ 61) (T : List Bool → List Bool) (hTl : ∀ g : List Bool, g.length = N + 1 → (T g).length = N + 1) (hT0 : T (noneC N) = noneC N) (L : Nat) (hL : L ≤ 1000000) (b : Int) (hb1 : b = -1 ∨ (L ≤ b ∧ b ≤ 1000000)) (sv : Value) (W : World) (p : Nat → Prop) (hS : StepP N W p sv T) (h00 : 0 < W.heap.size) :
    Calls Tryz.prog 67 #[sv, .int .i64 (L : Int), .int .i64 b] W fun e w' => ∃ sv', e = .returned sv' ∧ StepP N w' (AndNew p W w') sv' (repC T (L : Int) b N) ∧ Below W.heap.size W w' := by
  obtain ⟨K, caps, rfl, hrun, hp, hcall⟩ := hS
  refine (repeated55 K caps (L : Int) b W).mono fun e w' ⟨he, hw⟩ => ?_
  have h0 : w'.heap[W.heap.size]? = some (.cells #[.func (.func K) #[] caps] 64 (0, 0)) := by
    rw [hw]
    exact (Below.heap_alloc _ _ _ (by simp; omega)).trans ((Below.heap_alloc _ _ _ (by simp)).trans (heap_alloc_new W _))
  have h1 : w'.heap[W.heap.size + 1]? = some (.cells #[.int .i64 (L : Int)] 3 (0, 0)) := by
    rw [hw]
    have := heap_alloc_new (W.alloc (.cells #[.func (.func K) #[] caps] 64)) (.cells #[.int .i64 (L : Int)] 3)
    rw [World.size_alloc] at this
    exact (Below.heap_alloc _ _ _ (by simp)).trans this
  have h2 : w'.heap[W.heap.size + 1 + 1]? = some (.cells #[.int .i64 b] 3 (0, 0)) := by
    rw [hw]
    have := heap_alloc_new ((W.alloc (.cells #[.func (.func K) #[] caps] 64)).alloc (.cells #[.int .i64 (L : Int)] 3)) (.cells #[.int .i64 b] 3)
    rw [World.size_alloc, World.size_alloc] at this
    exact this
  have hb : Below W.heap.size W w' := by rw [hw]; exact bnew (bnew (bnew (Below.refl _ W) _) _) _
  have l0 := lt_of_block h0
  have l1 := lt_of_block h1
  have l2 := lt_of_block h2
  refine ⟨_, he, ⟨104, _, rfl, run77, fun k hk => ?_, fun W' f v h3 hf hv => ?_⟩, hb⟩
  · rcases hk with hk | hk | hk
    · have := hp k hk; have := hb.size; omega
    · have := hb.size; omega
    · omega
  have g : ∀ k, W.heap.size ≤ k → k < w'.heap.size → W'.heap[k]? = w'.heap[k]? := fun k hk hl => h3.at_ (Or.inr (Or.inr ⟨hk, hl⟩)) hl
  exact rep77 N hN T hTl hT0 L hL b hb1 f hf v W' hv _ _ _ (cell_of_one ((g _ (by omega) l1).trans h1)) (cell_of_one ((g _ (by omega) l2).trans h2)) K caps (cell_of_one ((g _ (by omega) l0).trans h0)) hrun
    fun W2 f2 v2 h4 h5 h6 => hcall W2 f2 v2 ((kept_new hp hb h3).then_ (Kept.of h4)) h5 h6
end Go.Proofs.YtlnbjdlooghpeaaGreatDoor
namespace Go.Proofs.YtlnbjdlooghpeaaGreatDoor
open Go.RowKit
open Go.ChangeShapes (block_add)
def MakesStep (s : ByteArray) (r : Rx) : Prop := ∀ (W : World) (ok : Nat → Prop) (v : Value), RxV W ok v r → HasT W →
  Calls Tryz.prog 30 #[v, .string s] W fun e w' => ∃ sv, e = .returned sv ∧ StepP s.data.toList.length w' (Rng W.heap.size w'.heap.size) sv (fun f => stepC r s.data.toList f) ∧ Below W.heap.size W w'
def Made (s : ByteArray) (l : List Rx) (H : Nat) (w : World) (v : Value) (svs : List Value) : Prop :=
  ∀ (j : Nat) (sv : Value) (x : Rx), svs[j]? = some sv → l[j]? = some x → ∃ p : Nat → Prop, StepP s.data.toList.length w p sv (fun f => stepC x s.data.toList f) ∧ ∀ k, p k → (k = 0 ∨ H ≤ k) ∧ k < w.heap.size ∧ v.ownBlock ≠ some k
theorem Made.far {s : ByteArray} {l : List Rx} {H : Nat} {w w' : World} {v v' : Value} {svs : List Value} (h : Made s l H w v svs) (hf : Far w w' v v') {B : Nat} (hb : Below B w w') : Made s l H w' v' svs := fun j sv x h1 h2 => by
  obtain ⟨p, h3, h4⟩ := h j sv x h1 h2
  refine ⟨p, h3.turn ⟨hb.os, hb.tape, hb.output, hb.size, fun k hk hn => (hf.2 k hk (h4 k (Classical.not_not.1 hn)).2.2).1⟩, fun k hk => ?_⟩
  obtain ⟨h5, h6, h7⟩ := h4 k hk
  exact ⟨h5, by have := hb.size; omega, (hf.2 k h6 h7).2⟩
theorem Made.push {s : ByteArray} {l : List Rx} {H : Nat} {w : World} {v : Value} {svs : List Value} (h : Made s l H w v svs) {i : Nat} (hi : svs.length = i) {x : Rx} (hx : l[i]? = some x) {sv : Value} {p : Nat → Prop} (hs : StepP s.data.toList.length w p sv (fun f => stepC x s.data.toList f))
    (hp : ∀ k, p k → (k = 0 ∨ H ≤ k) ∧ k < w.heap.size ∧ v.ownBlock ≠ some k) : Made s l H w v (svs ++ [sv]) := fun j u y h1 h2 => by
  rcases Nat.lt_or_ge j i with hj | hj
  · rw [List.getElem?_append_left (by omega)] at h1
    exact h j u y h1 h2
  · rw [List.getElem?_append_right (by omega)] at h1
    obtain rfl : j = i := by
      have := (List.getElem?_eq_some_iff.1 h1).1
      simp at this
      omega
    rw [hi, Nat.sub_self] at h1
    cases h1
    rw [hx] at h2
    cases h2
    exact ⟨p, hs, hp⟩
set_option maxRecDepth 100000 in
set_option maxHeartbeats 2000000 in
theorem steps53 (s : ByteArray) (l : List Rx) (hl : ∀ x ∈ l, MakesStep s x) (W : World) (ok : Nat → Prop) (hT : HasT W) (B : Option Addr) (m d : Nat) (hm6 : m ≤ 1000000) (h : SubsS W ok B m d l) :
    Calls Tryz.prog 65 #[.slice B m d, .string s] W fun e w' => ∃ A n c, e = .returned (.slice A n c) ∧ StepsP s.data.toList.length w' (Rng W.heap.size w'.heap.size) A n c (l.map fun x f => stepC x s.data.toList f) ∧ Below W.heap.size W w' := by
  obtain ⟨i0, hi, hz0, hz1, hz2⟩ := info_parts info54
  have hlen := h.2.2.1
  have Hs := hide h
  have HT := hide hT
  have Hl := hide hl
  have Hlen := hide hlen
  clear h hT hl hlen
  go_enter Tryz.func65, Tryz.ntmps65
  go_wp2
  go_loopw [5, 10] (fun v y wr => ∃ (i : Nat) (svs : List Value), i ≤ m ∧ y = .int .i64 (i : Int) ∧ Own wr W.heap.size 64 v svs ∧ svs.length = i ∧ Made s l W.heap.size wr v svs ∧ Below W.heap.size W wr) (fun _ y _ => m - (intOf y).toNat)
  case atStart => exact ⟨0, [], Nat.zero_le _, rfl, World.ownsRow_nil _ _ _ _, rfl, fun j sv x hj => (by simp at hj), Below.refl _ _⟩
  case round =>
    obtain ⟨i, svs, him, rfl, hown, hsl, hok, hbel⟩ := hrel
    obtain ⟨w3, hw3⟩ : ∃ w3, w3 = wr := ⟨wr, rfl⟩
    subst hw3
    have O := hide hown
    have Ok := hide hok
    have B3 := hide hbel
    have Hsl := hide hsl
    by_cases hlt : i < m
    · have hlt' : (i : Int) < (m : Int) := by omega
      obtain ⟨x, g, o, q0, qA, qn, qc, q1, q2, qB, qm, qd, hxl, rfl, x0, x1, x2, x3, x4, rx⟩ := (Hs.out.below hbel).at_ hlt
      have hb5 := bnew (Below.refl _ w3) (.cells #[.int .i64 q0, .slice qA qn qc, .int .i64 q1, .int .i64 q2, .slice qB qm qd] 25)
      have hfv := five_new w3 (.int .i64 q0) (.slice qA qn qc) (.int .i64 q1) (.int .i64 q2) (.slice qB qm qd) 25
      obtain ⟨-, y0, y1, y2, y3, y4⟩ := hfv
      have HC := hide (Hl.out x (List.mem_of_getElem? hxl) _ ok _ (rx.kept hb5) ((HT.out.below hbel).below hb5))
      have B5 := hide hb5
      have Hx := hide hxl
      clear hxl rx hown hsl hok hbel hb5
      go_wp2_with fail
      with_reducible refine HC.out.mono ?_
      rintro e w4 ⟨sv, rfl, hsv, hb4⟩
      have hlow : ∀ k, u5.ownBlock = some k → W.heap.size ≤ k ∧ k < w3.heap.size := fun k hk => World.ownsRow.lt O.out k hk
      have h0w : 0 < W.heap.size := HT.out.pos
      have hb43 := bgo B5.out hb4
      have hszw : W.heap.size ≤ w4.heap.size := Nat.le_trans B3.out.size hb43.size
      have Mk := hide ((Ok.out.far (Far.of_below hb43) hb43).push Hsl.out Hx.out hsv fun k hk => by
        rcases hk with hk | ⟨hk1, hk2⟩
        · exact ⟨Or.inl hk, by omega, fun e => by have := hlow k e; omega⟩
        · rw [World.size_alloc] at hk1
          have := B3.out.size
          exact ⟨Or.inr (by omega), hk2, fun e => by have := hlow k e; omega⟩)
      obtain ⟨K, caps, rfl, hrun⟩ := hsv
      have O4 := hide (O.out.below hb43)
      have B6 := hide (B3.out.trans (hb43.mono B3.out.size))
      clear hb4 hb43 hrun hlow y0 y1 y2 y3 y4 x0 x1 x2 x3 x4
      go_wp2_with (at_builtin; refine wp_push_far rfl (.tmp 14) (.tmp 18) 98 rfl 64 i0 .nilFunc 8 Tryz.underlying98 hi hz0 hz1 hz2 rfl W.heap.size _ svs rfl _ _ rfl O4.out hszw _ rfl rfl (by rw [Hsl.out]; omega) (by rw [Hsl.out]; unfold maxLen; omega) _ ?_)
      intro v' w5 ho5 hb5 hf5
      have O5 := hide ho5
      have B7 := hide (B6.out.trans hb5)
      have M5 := hide (Mk.out.far hf5 hb5)
      clear ho5 hb5 hf5
      go_wp2
      go_roundw
      case rel => exact ⟨i + 1, svs ++ [.func (.func K) #[] caps], by omega, by go_num, O5.out, by rw [List.length_append, Hsl.out]; rfl, M5.out, B7.out⟩
      case measure => simp [intOf]; omega
    · have hlt' : ¬ (i : Int) < (m : Int) := by omega
      obtain rfl : i = m := by omega
      obtain ⟨A, c, rfl, hsls⟩ := hown.sl
      have hlow : ∀ k, (Value.slice A svs.length c).ownBlock = some k → W.heap.size ≤ k ∧ k < w3.heap.size := fun k hk => World.ownsRow.lt O.out k hk
      have hfin : StepsP s.data.toList.length w3 (Rng W.heap.size w3.heap.size) A svs.length c (l.map fun x f => stepC x s.data.toList f) := by
        refine ⟨svs, hsls, by rw [List.length_map, Hlen.out, hsl], fun ad hA hn => ?_, fun k hk => ?_, fun j sv T h1 h2 => ?_⟩
        · subst hA
          obtain ⟨g, cap, hv, hB, hlt2⟩ := World.ownsRow.form hown (by omega)
          simp only [Value.slice.injEq, Option.some.injEq] at hv
          obtain ⟨rfl, -, -⟩ := hv
          exact Or.inr ⟨hB, hlt2⟩
        · rcases hk with hk | hk
          · have := HT.out.pos; have := hbel.size; omega
          · exact hk.2
        · rw [List.getElem?_map] at h2
          cases hx : l[j]? with
          | none => rw [hx] at h2; cases h2
          | some x =>
            rw [hx] at h2
            cases h2
            obtain ⟨p, h3, h4⟩ := hok j sv x h1 hx
            refine h3.more (fun k hk => ?_) fun k hk => ?_
            · obtain ⟨h5 | h5, h6, _⟩ := h4 k hk
              · exact Or.inl h5
              · exact Or.inr ⟨h5, h6⟩
            · rcases hk with hk | hk
              · have := HT.out.pos; have := hbel.size; omega
              · exact hk.2
      have Fin := hide hfin
      clear hfin hown hsl hok hbel hsls hlow
      go_wp2
      go_ret
      exact ⟨A, svs.length, c, rfl, Fin.out, B3.out⟩
end Go.Proofs.YtlnbjdlooghpeaaGreatDoor
namespace Go.Proofs.YtlnbjdlooghpeaaGreatDoor
open Go.RowKit
open Go.ChangeShapes (block_add)
theorem store_fnZ {P : Program} (a : Addr) (fn : Fn) (x y : Array Value) (m : Mode) (w : World) : (store a (.func fn x y) m).run P w = stored P w a (.func fn x y) m := run_store P w a _ m rfl
attribute [local go_sem] store_fnZ
structure Open (W w2 w3 Wx : World) (s : ByteArray) (c0 c1 c2 c3 c4 : Value) : Prop where
  bel : Below W.heap.size W Wx
  size2 : w2.heap.size = W.heap.size + 2
  size3 : w3.heap.size = W.heap.size + 3
  size : Wx.heap.size = W.heap.size + 4
  five : Five Wx W.heap.size c0 c1 c2 c3 c4
  str : Wx.heap[W.heap.size + 1]? = some (.cells #[.string s] 9 (0, 0))
  lf : Wx.heap[w2.heap.size]? = some (.cells #[.func (.func 58) #[] #[.pointer (some ⟨W.heap.size + 1, 0, none⟩)]] 93 (0, 0))
  iw : Wx.heap[w3.heap.size]? = some (.cells #[.func (.func 59) #[] #[.pointer (some ⟨W.heap.size + 1, 0, none⟩)]] 93 (0, 0))
theorem open_is (W : World) (s : ByteArray) (c0 c1 c2 c3 c4 : Value) : ∃ w2 w3, (W.alloc (.cells #[c0, c1, c2, c3, c4] 25)).alloc (.cells #[.string s] 9) = w2 ∧ w2.alloc (.cells #[.func (.func 58) #[] #[.pointer (some ⟨W.heap.size + 1, 0, none⟩)]] 93) = w3 ∧
    Open W w2 w3 (w3.alloc (.cells #[.func (.func 59) #[] #[.pointer (some ⟨W.heap.size + 1, 0, none⟩)]] 93)) s c0 c1 c2 c3 c4 := by
  obtain ⟨w1, hw1⟩ : ∃ w1, W.alloc (.cells #[c0, c1, c2, c3, c4] 25) = w1 := ⟨_, rfl⟩
  have s1 : w1.heap.size = W.heap.size + 1 := by rw [← hw1]; simp
  have f1 : Five w1 W.heap.size c0 c1 c2 c3 c4 := by rw [← hw1]; exact five_new _ _ _ _ _ _ _
  have b1 : Below W.heap.size W w1 := by rw [← hw1]; exact bnew (Below.refl _ _) _
  rw [hw1, ← s1]
  obtain ⟨w2, hw2⟩ : ∃ w2, w1.alloc (.cells #[.string s] 9) = w2 := ⟨_, rfl⟩
  have s2 : w2.heap.size = w1.heap.size + 1 := by rw [← hw2]; simp
  have q2 : w2.heap[w1.heap.size]? = some (.cells #[.string s] 9 (0, 0)) := by rw [← hw2]; exact heap_alloc_new _ _
  have b2 : Below w1.heap.size w1 w2 := by rw [← hw2]; exact bnew (Below.refl _ _) _
  rw [hw2]
  obtain ⟨w3, hw3⟩ : ∃ w3, w2.alloc (.cells #[.func (.func 58) #[] #[.pointer (some ⟨w1.heap.size, 0, none⟩)]] 93) = w3 := ⟨_, rfl⟩
  have s3 : w3.heap.size = w2.heap.size + 1 := by rw [← hw3]; simp
  have q3 : w3.heap[w2.heap.size]? = some (.cells #[.func (.func 58) #[] #[.pointer (some ⟨w1.heap.size, 0, none⟩)]] 93 (0, 0)) := by rw [← hw3]; exact heap_alloc_new _ _
  have b3 : Below w2.heap.size w2 w3 := by rw [← hw3]; exact bnew (Below.refl _ _) _
  have s4 : (w3.alloc (.cells #[.func (.func 59) #[] #[.pointer (some ⟨w1.heap.size, 0, none⟩)]] 93)).heap.size = w3.heap.size + 1 := by simp
  have q4 := heap_alloc_new w3 (.cells #[.func (.func 59) #[] #[.pointer (some ⟨w1.heap.size, 0, none⟩)]] 93)
  have b4 := bnew (Below.refl _ w3) (.cells #[.func (.func 59) #[] #[.pointer (some ⟨w1.heap.size, 0, none⟩)]] 93)
  refine ⟨w2, w3, rfl, hw3, bgo (bgo (bgo b1 b2) b3) b4, by omega, by omega, by omega, ((f1.keep b2).keep b3).keep b4, ?_, (b4.block _ (by omega)).trans ?_, ?_⟩
  · rw [← s1]; exact (b4.block _ (by omega)).trans ((b3.block _ (by omega)).trans q2)
  · rw [← s1]; exact q3
  · rw [← s1]; exact q4
theorem strlen (s : ByteArray) : s.data.toList.length = s.size := by simp
theorem cond_p (s : ByteArray) {Wx : World} {c : Value} {b1 b2 : Nat} (K : Nat) (o : Obj) (h1 : Wx.heap[b1]? = some (.cells #[.string s] 9 (0, 0))) (h2 : Wx.heap[b2]? = some o) (P : Nat → Bool) (caps : Array Value) (hc : c = .func (.func K) #[] caps)
    (hrun : ∀ xs W, (callFunc K xs).run Tryz.prog W = .ok (.enter K xs) W)
    (h : ∀ (W' : World) (i : Nat), i ≤ s.size → W'.cell? ⟨b1, 0, none⟩ = some (.string s) → W'.heap[b2]? = some o → Calls Tryz.prog K (#[.int .i64 (i : Int)] ++ caps) W' fun e w' => e = .returned (.bool (P i)) ∧ Below W'.heap.size W' w') : CondP s.data.toList.length Wx (fun k => k = b1 ∨ k = b2) c P := by
  have l1 := lt_of_block h1
  have l2 := lt_of_block h2
  refine ⟨K, caps, hc, hrun, fun k hk => by omega, fun W' i hk hi => h W' i (by rw [strlen] at hi; exact hi) (cell_of_one ((hk.at_ (Or.inl rfl) l1).trans h1)) ((hk.at_ (Or.inr rfl) l2).trans h2)⟩
theorem new_rng {W Wx w' : World} {p : Nat → Prop} (hb : Below W.heap.size W Wx) (hb2 : Below Wx.heap.size Wx w') (hp : ∀ k, p k → W.heap.size ≤ k ∧ k < Wx.heap.size) {k : Nat} (h : AndNew p Wx w' k) : Rng W.heap.size w'.heap.size k := by
  have := hb.size
  have := hb2.size
  rcases h with h | h | h
  · have := hp k h; exact Or.inr (by omega)
  · exact Or.inl h
  · exact Or.inr (by omega)
theorem rng_lt {W w' : World} (h0 : 0 < W.heap.size) (hb : Below W.heap.size W w') {k : Nat} (h : Rng W.heap.size w'.heap.size k) : k < w'.heap.size := by
  have := hb.size
  rcases h with h | h <;> omega
theorem step_place (k : Int) (h : 5 ≤ k) (set : List (UInt8 × UInt8)) (a b : Int) (l : List Rx) (s : List UInt8) (f : List Bool) : stepC (.mk k set a b l) s f = leafC k set s f := by
  unfold stepC
  rw [if_neg (by omega), if_neg (by omega), if_neg (by omega)]
set_option maxRecDepth 100000 in
set_option maxHeartbeats 2000000 in
theorem step29_5 (s : ByteArray) (hs : s.size ≤ 60) (set : List (UInt8 × UInt8)) (a b : Int) (l : List Rx) : MakesStep s (.mk 5 set a b l) := by
  intro W ok v hv hT
  cases hv with
  | mk _ _ _ A B n c m d _ vs _ hset hvs hlen hk ha hb hr =>
  obtain ⟨w2, w3, hw2, hw3, hO⟩ := open_is W s (.int .i64 5) (.slice A n c) (.int .i64 a) (.int .i64 b) (.slice B m d)
  obtain ⟨_, t0, t1, t2, t3, t4⟩ := hO.five
  obtain ⟨Wx, hWx⟩ : ∃ Wx, w3.alloc (.cells #[.func (.func 59) #[] #[.pointer (some ⟨W.heap.size + 1, 0, none⟩)]] 93) = Wx := ⟨_, rfl⟩
  rw [hWx] at hO
  have O := hide hO
  have HW2 := hide hw2
  have HW3 := hide hw3
  have HWx := hide hWx
  have HT := hide hT
  have HC := advance_stepP s.data.toList.length 0 (by rw [strlen]; omega) (standsB 5 s.data.toList) (fun i hi _ => by rw [strlen] at hi; omega) (fun f => stepC (.mk 5 set a b l) s.data.toList f) (fun f hf j => by show On (stepC _ _ _) j ↔ _; rw [step_place 5 (by omega)]; exact leaf_place 5 (by omega) set _ f hf j)
    (.func (.func 68) #[] #[.pointer (some ⟨w2.heap.size, 0, none⟩)]) Wx _ (cond_p s 68 _ hO.str hO.lf (standsB 5 s.data.toList) #[.pointer (some ⟨w2.heap.size, 0, none⟩)] rfl run56 fun W' i hi h1 h2 => (cond56 s _ _ i W' hi (by omega) h1 (cell_of_one h2)).mono fun e w' ⟨he, hw⟩ => ⟨he, by rw [hw]; exact Below.refl _ _⟩) (hT.below hO.bel)
  rw [show ((0 : Nat) : Int) = 0 from rfl] at HC
  have HC := hide HC
  clear hO hWx hT hset hvs hlen hk ha hb hr hw2 hw3
  go_enter Tryz.func30, Tryz.ntmps30
  go_upto_region 1 with fail
  rw [HW2.out]
  go_upto_region 2 with fail
  rw [HW3.out]
  go_wp2_with fail
  rw [HWx.out]
  with_reducible refine HC.out.mono ?_
  rintro e w2 ⟨sv, rfl, hsv, hb2⟩
  have Hsv := hide hsv
  have B2 := hide hb2
  clear hsv hb2 t0 t1 t2 t3 t4
  go_wp2
  go_ret
  have hbb := bgo O.out.bel B2.out
  exact ⟨sv, rfl, Hsv.out.more (fun k hk => new_rng O.out.bel B2.out (fun q hq => by have := O.out.size; have := O.out.size2; have := O.out.size3; omega) hk) (fun k hk => rng_lt HT.out.pos hbb hk), hbb⟩
set_option maxRecDepth 100000 in
set_option maxHeartbeats 2000000 in
theorem step29_6 (s : ByteArray) (hs : s.size ≤ 60) (set : List (UInt8 × UInt8)) (a b : Int) (l : List Rx) : MakesStep s (.mk 6 set a b l) := by
  intro W ok v hv hT
  cases hv with
  | mk _ _ _ A B n c m d _ vs _ hset hvs hlen hk ha hb hr =>
  obtain ⟨w2, w3, hw2, hw3, hO⟩ := open_is W s (.int .i64 6) (.slice A n c) (.int .i64 a) (.int .i64 b) (.slice B m d)
  obtain ⟨_, t0, t1, t2, t3, t4⟩ := hO.five
  obtain ⟨Wx, hWx⟩ : ∃ Wx, w3.alloc (.cells #[.func (.func 59) #[] #[.pointer (some ⟨W.heap.size + 1, 0, none⟩)]] 93) = Wx := ⟨_, rfl⟩
  rw [hWx] at hO
  have O := hide hO
  have HW2 := hide hw2
  have HW3 := hide hw3
  have HWx := hide hWx
  have HT := hide hT
  have HC := advance_stepP s.data.toList.length 0 (by rw [strlen]; omega) (standsB 6 s.data.toList) (fun i hi _ => by rw [strlen] at hi; omega) (fun f => stepC (.mk 6 set a b l) s.data.toList f) (fun f hf j => by show On (stepC _ _ _) j ↔ _; rw [step_place 6 (by omega)]; exact leaf_place 6 (by omega) set _ f hf j)
    (.func (.func 69) #[] #[.pointer (some ⟨W.heap.size + 1, 0, none⟩), .pointer (some ⟨w2.heap.size, 0, none⟩)]) Wx _ (cond_p s 69 _ hO.str hO.lf (standsB 6 s.data.toList) #[.pointer (some ⟨W.heap.size + 1, 0, none⟩), .pointer (some ⟨w2.heap.size, 0, none⟩)] rfl run57 fun W' i hi h1 h2 => (cond57 s _ _ i W' hi (by omega) h1 (cell_of_one h2)).mono fun e w' ⟨he, hw⟩ => ⟨he, by rw [hw]; exact Below.refl _ _⟩) (hT.below hO.bel)
  rw [show ((0 : Nat) : Int) = 0 from rfl] at HC
  have HC := hide HC
  clear hO hWx hT hset hvs hlen hk ha hb hr hw2 hw3
  go_enter Tryz.func30, Tryz.ntmps30
  go_upto_region 1 with fail
  rw [HW2.out]
  go_upto_region 2 with fail
  rw [HW3.out]
  go_wp2_with fail
  rw [HWx.out]
  with_reducible refine HC.out.mono ?_
  rintro e w2 ⟨sv, rfl, hsv, hb2⟩
  have Hsv := hide hsv
  have B2 := hide hb2
  clear hsv hb2 t0 t1 t2 t3 t4
  go_wp2
  go_ret
  have hbb := bgo O.out.bel B2.out
  exact ⟨sv, rfl, Hsv.out.more (fun k hk => new_rng O.out.bel B2.out (fun q hq => by have := O.out.size; have := O.out.size2; have := O.out.size3; omega) hk) (fun k hk => rng_lt HT.out.pos hbb hk), hbb⟩
set_option maxRecDepth 100000 in
set_option maxHeartbeats 2000000 in
theorem step29_7 (s : ByteArray) (hs : s.size ≤ 60) (set : List (UInt8 × UInt8)) (a b : Int) (l : List Rx) : MakesStep s (.mk 7 set a b l) := by
  intro W ok v hv hT
  cases hv with
  | mk _ _ _ A B n c m d _ vs _ hset hvs hlen hk ha hb hr =>
  obtain ⟨w2, w3, hw2, hw3, hO⟩ := open_is W s (.int .i64 7) (.slice A n c) (.int .i64 a) (.int .i64 b) (.slice B m d)
  obtain ⟨_, t0, t1, t2, t3, t4⟩ := hO.five
  obtain ⟨Wx, hWx⟩ : ∃ Wx, w3.alloc (.cells #[.func (.func 59) #[] #[.pointer (some ⟨W.heap.size + 1, 0, none⟩)]] 93) = Wx := ⟨_, rfl⟩
  rw [hWx] at hO
  have O := hide hO
  have HW2 := hide hw2
  have HW3 := hide hw3
  have HWx := hide hWx
  have HT := hide hT
  have HC := advance_stepP s.data.toList.length 0 (by rw [strlen]; omega) (standsB 7 s.data.toList) (fun i hi _ => by rw [strlen] at hi; omega) (fun f => stepC (.mk 7 set a b l) s.data.toList f) (fun f hf j => by show On (stepC _ _ _) j ↔ _; rw [step_place 7 (by omega)]; exact leaf_place 7 (by omega) set _ f hf j)
    (.func (.func 70) #[] #[.pointer (some ⟨w3.heap.size, 0, none⟩)]) Wx _ (cond_p s 70 _ hO.str hO.iw (standsB 7 s.data.toList) #[.pointer (some ⟨w3.heap.size, 0, none⟩)] rfl run58Z fun W' i hi h1 h2 => ((fun i W' => cond58 s _ _ i 7 (by omega) (by omega) W') i W' hi (by omega) h1 (cell_of_one h2)).mono fun e w' ⟨he, hw⟩ => ⟨he, hw.below _⟩) (hT.below hO.bel)
  rw [show ((0 : Nat) : Int) = 0 from rfl] at HC
  have HC := hide HC
  clear hO hWx hT hset hvs hlen hk ha hb hr hw2 hw3
  go_enter Tryz.func30, Tryz.ntmps30
  go_upto_region 1 with fail
  rw [HW2.out]
  go_upto_region 2 with fail
  rw [HW3.out]
  go_wp2_with fail
  rw [HWx.out]
  with_reducible refine HC.out.mono ?_
  rintro e w2 ⟨sv, rfl, hsv, hb2⟩
  have Hsv := hide hsv
  have B2 := hide hb2
  clear hsv hb2 t0 t1 t2 t3 t4
  go_wp2
  go_ret
  have hbb := bgo O.out.bel B2.out
  exact ⟨sv, rfl, Hsv.out.more (fun k hk => new_rng O.out.bel B2.out (fun q hq => by have := O.out.size; have := O.out.size2; have := O.out.size3; omega) hk) (fun k hk => rng_lt HT.out.pos hbb hk), hbb⟩
theorem step_set (set : List (UInt8 × UInt8)) (a b : Int) (l : List Rx) (s : List UInt8) (f : List Bool) : stepC (.mk 1 set a b l) s f = leafC 1 set s f := by
  unfold stepC
  rw [if_neg (by omega), if_neg (by omega), if_neg (by omega)]
set_option maxRecDepth 100000 in
set_option maxHeartbeats 2000000 in
theorem step29_1 (s : ByteArray) (hs : s.size ≤ 60) (set : List (UInt8 × UInt8)) (a b : Int) (l : List Rx) : MakesStep s (.mk 1 set a b l) := by
  intro W ok v hv hT
  cases hv with
  | mk _ _ _ A B n c m d _ vs _ hset hvs hlen hk ha hb hr =>
  obtain ⟨w2, w3, hw2, hw3, hO⟩ := open_is W s (.int .i64 1) (.slice A n c) (.int .i64 a) (.int .i64 b) (.slice B m d)
  obtain ⟨_, t0, t1, t2, t3, t4⟩ := hO.five
  obtain ⟨Wx, hWx⟩ : ∃ Wx, w3.alloc (.cells #[.func (.func 59) #[] #[.pointer (some ⟨W.heap.size + 1, 0, none⟩)]] 93) = Wx := ⟨_, rfl⟩
  rw [hWx] at hO
  have O := hide hO
  have HW2 := hide hw2
  have HW3 := hide hw3
  have HWx := hide hWx
  have HT := hide hT
  have HM := hide (table49 (hset.below hO.bel))
  clear hO hWx hT hset hvs hlen hk ha hb hr hw2 hw3
  go_enter Tryz.func30, Tryz.ntmps30
  go_upto_region 1 with fail
  rw [HW2.out]
  go_upto_region 2 with fail
  rw [HW3.out]
  go_wp2_with fail
  rw [HWx.out]
  with_reducible refine HM.out.mono ?_
  rintro e w5 ⟨rfl, hb5⟩
  have hR : (w5.alloc (.cells Tryz.zeroCells94 94)).heap[w5.heap.size]? = some (.cells (tabC [] 0).toArray 94 (0, 0)) := by rw [zero73]; exact heap_alloc_new _ _
  have hb6 := bgo hb5 (bnew (Below.refl _ w5) (.cells Tryz.zeroCells94 94))
  obtain ⟨w6, hw6⟩ : ∃ w6, (w5.alloc (.cells Tryz.zeroCells94 94)).setRow w5.heap.size (tabC set 256).toArray = w6 := ⟨_, rfl⟩
  have h6 : w6.heap[w5.heap.size]? = some (.cells (tabC set 256).toArray 94 (0, 0)) := by rw [← hw6]; exact setRow_heap _ _ _ _ _ _ hR
  have b6 : Below Wx.heap.size Wx w6 := by
    rw [← hw6]
    exact ⟨hb6.os, hb6.tape, hb6.output, by rw [setRow_size]; exact hb6.size, fun k hk => by
      have hne : w5.heap.size ≠ k := by have := hb5.size; omega
      have e : ((w5.alloc (.cells Tryz.zeroCells94 94)).setRow w5.heap.size (tabC set 256).toArray).heap[k]? = (w5.alloc (.cells Tryz.zeroCells94 94)).heap[k]? := by simp only [World.setRow]; simp [Array.getElem?_modify, hne]
      exact e.trans (hb6.block k hk)⟩
  have bW := bgo O.out.bel b6
  have HC := advance_stepP s.data.toList.length 1 (by rw [strlen]; omega) (fun i => match s.data.toList[i]? with | some c => hasS set c | none => false) (fun i hi h => by
      rw [strlen] at hi
      rcases Nat.lt_or_ge i s.size with h5 | h5
      · omega
      · rw [List.getElem?_eq_none (by rw [strlen]; exact h5)] at h
        cases h) (fun f => stepC (.mk 1 set a b l) s.data.toList f) (fun f hf j => by show On (stepC _ _ _) j ↔ _; rw [step_set]; exact leaf_set set _ f hf j)
    (.func (.func 63) #[] #[.pointer (some ⟨W.heap.size + 1, 0, none⟩), .pointer (some ⟨w5.heap.size, 0, none⟩)]) w6 _ (cond_p s 63 _ ((b6.block _ (lt_of_block O.out.str)).trans O.out.str) h6 _ #[.pointer (some ⟨W.heap.size + 1, 0, none⟩), .pointer (some ⟨w5.heap.size, 0, none⟩)] rfl run51 fun W' i hi h1 h2 => (cond51 s _ _ i set W' hi h1 h2).mono fun e w' ⟨he, hw⟩ => ⟨he, by rw [hw]; exact Below.refl _ _⟩) (HT.out.below bW)
  rw [show ((1 : Nat) : Int) = 1 from rfl] at HC
  have HC := hide HC
  have R := hide hR
  have HW6 := hide hw6
  have B6 := hide b6
  have BW := hide bW
  have hwl : Wx.heap.size ≤ w5.heap.size := hb5.size
  have h6l := lt_of_block h6
  clear hR hw6 b6 bW h6 hb5 hb6 t0 t1 t2 t3 t4
  go_wp2_with (first | (refine wpList_store_row rfl 94 _ _ rfl _ (tabC set 256).toArray rfl rfl 94 _ R.out (by rw [info73]; simp [tabC_len]) (by simp [tabC_len]) (tab_one _ _) ?_))
  rw [HW6.out]
  with_reducible refine HC.out.mono ?_
  rintro e w7 ⟨sv, rfl, hsv, hb7⟩
  have Hsv := hide hsv
  have B7 := hide hb7
  clear hsv hb7
  go_wp2
  go_ret
  have hbb := bgo BW.out B7.out
  exact ⟨sv, rfl, Hsv.out.more (fun k hk => new_rng BW.out B7.out (fun q hq => by have := O.out.size; have := O.out.size2; have := O.out.size3; omega) hk) (fun k hk => rng_lt HT.out.pos hbb hk), hbb⟩
end Go.Proofs.YtlnbjdlooghpeaaGreatDoor
namespace Go.Proofs.YtlnbjdlooghpeaaGreatDoor
open Go.RowKit
open Go.ChangeShapes (block_add)
attribute [local go_sem] store_fnZ
theorem size_pos : ∀ r : Rx, 1 ≤ sizeR r
  | .mk _ _ _ _ l => by unfold sizeR; omega
theorem len_size : ∀ l : List Rx, l.length ≤ sizeL l
  | [] => by simp [sizeL]
  | x :: l => by
    have := len_size l
    have := size_pos x
    unfold sizeL
    rw [List.length_cons]
    omega
theorem mem_size {x : Rx} : ∀ {l : List Rx}, x ∈ l → sizeR x ≤ sizeL l
  | y :: l, h => by
    unfold sizeL
    rcases List.mem_cons.1 h with rfl | h
    · omega
    · have := mem_size h; omega
theorem step_cat (set : List (UInt8 × UInt8)) (a b : Int) (l : List Rx) (s : List UInt8) (f : List Bool) : catT (l.map fun x f => stepC x s f) f = stepC (.mk 2 set a b l) s f := by
  rw [stepC, if_pos rfl]
  exact catT_map s l f
theorem step_alt (set : List (UInt8 × UInt8)) (a b : Int) (l : List Rx) (s : List UInt8) (f : List Bool) (hf : f.length = s.length + 1) : altT s.length (l.map fun x f => stepC x s f) f = stepC (.mk 3 set a b l) s f := by
  rw [stepC, if_neg (by omega), if_pos rfl]
  exact altT_map s f hf l
theorem step_rep (set : List (UInt8 × UInt8)) (a b : Int) (x : Rx) (s : List UInt8) (f : List Bool) : repC (fun f => stepC x s f) a b s.length f = stepC (.mk 4 set a b [x]) s f := by
  rw [stepC, if_neg (by omega), if_neg (by omega), if_pos rfl]
  congr 1
set_option maxRecDepth 100000 in
set_option maxHeartbeats 2000000 in
theorem step29_2 (s : ByteArray) (set : List (UInt8 × UInt8)) (a b : Int) (l : List Rx) (hl : ∀ x ∈ l, MakesStep s x) (hl6 : l.length ≤ 1000000) : MakesStep s (.mk 2 set a b l) := by
  intro W ok v hv hT
  cases hv with
  | mk _ _ _ A B n c m d _ vs _ hset hvs hlen hk ha hb hr =>
  obtain ⟨w2, w3, hw2, hw3, hO⟩ := open_is W s (.int .i64 2) (.slice A n c) (.int .i64 a) (.int .i64 b) (.slice B m d)
  obtain ⟨_, t0, t1, t2, t3, t4⟩ := hO.five
  obtain ⟨Wx, hWx⟩ : ∃ Wx, w3.alloc (.cells #[.func (.func 59) #[] #[.pointer (some ⟨W.heap.size + 1, 0, none⟩)]] 93) = Wx := ⟨_, rfl⟩
  rw [hWx] at hO
  have O := hide hO
  have HW2 := hide hw2
  have HW3 := hide hw3
  have HWx := hide hWx
  have HT := hide hT
  have HM := hide (steps53 s l hl Wx ok (hT.below hO.bel) B m d (by omega) ((SubsS.of hvs hlen hr).below hO.bel))
  have c3 := cell_of_one hO.str
  have C3 := hide hO.str
  have hs1 := hw3
  clear hO hT hset hvs hlen hk ha hb hr hw2 hw3 hl hs1
  have c3w := hWx ▸ c3
  clear hWx c3
  go_enter Tryz.func30, Tryz.ntmps30
  go_upto_region 1 with fail
  rw [HW2.out]
  go_upto_region 2 with fail
  rw [HW3.out]
  go_wp2_with fail
  rw [HWx.out]
  with_reducible refine HM.out.mono ?_
  rintro e w5 ⟨A5, n5, d5, rfl, hst, hb5⟩
  have hbb := O.out.bel.trans (hb5.mono (by have := O.out.size; omega))
  have HC := hide (inorder_stepP s.data.toList.length _ (map_len s.data.toList l) A5 n5 d5 w5 _ hst (by have := HT.out.pos; have := hbb.size; omega))
  have BW := hide hbb
  have hwl : Wx.heap.size ≤ w5.heap.size := hb5.size
  clear hst hb5 hbb t0 t1 t2 t3 t4 c3w
  go_wp2_with fail
  with_reducible refine HC.out.mono ?_
  rintro e w7 ⟨sv, rfl, hsv, hb7⟩
  have Hsv := hide hsv
  have B7 := hide hb7
  clear hsv hb7
  go_wp2
  go_ret
  have hbb := bgo BW.out B7.out
  refine ⟨sv, rfl, (Hsv.out.more (fun k hk => ?_) (fun k hk => rng_lt HT.out.pos hbb hk)).congr fun f hf => step_cat set a b l _ f, hbb⟩
  have h1 := BW.out.size
  have h2 := B7.out.size
  have h3 := O.out.size
  rcases hk with (hk | hk) | hk | hk
  · exact Or.inl hk
  · exact Or.inr (by omega)
  · exact Or.inl hk
  · exact Or.inr (by omega)
set_option maxRecDepth 100000 in
set_option maxHeartbeats 2000000 in
theorem step29_3 (s : ByteArray) (hs : s.size ≤ 60) (set : List (UInt8 × UInt8)) (a b : Int) (l : List Rx) (hl : ∀ x ∈ l, MakesStep s x) (hl6 : l.length ≤ 1000000) : MakesStep s (.mk 3 set a b l) := by
  intro W ok v hv hT
  cases hv with
  | mk _ _ _ A B n c m d _ vs _ hset hvs hlen hk ha hb hr =>
  obtain ⟨w2, w3, hw2, hw3, hO⟩ := open_is W s (.int .i64 3) (.slice A n c) (.int .i64 a) (.int .i64 b) (.slice B m d)
  obtain ⟨_, t0, t1, t2, t3, t4⟩ := hO.five
  obtain ⟨Wx, hWx⟩ : ∃ Wx, w3.alloc (.cells #[.func (.func 59) #[] #[.pointer (some ⟨W.heap.size + 1, 0, none⟩)]] 93) = Wx := ⟨_, rfl⟩
  rw [hWx] at hO
  have O := hide hO
  have HW2 := hide hw2
  have HW3 := hide hw3
  have HWx := hide hWx
  have HT := hide hT
  have HM := hide (steps53 s l hl Wx ok (hT.below hO.bel) B m d (by omega) ((SubsS.of hvs hlen hr).below hO.bel))
  have c3 := cell_of_one hO.str
  have C3 := hide hO.str
  have hs1 := hw3
  clear hO hT hset hvs hlen hk ha hb hr hw2 hw3 hl hs1
  have c3w := hWx ▸ c3
  clear hWx c3
  go_enter Tryz.func30, Tryz.ntmps30
  go_upto_region 1 with fail
  rw [HW2.out]
  go_upto_region 2 with fail
  rw [HW3.out]
  go_wp2_with fail
  rw [HWx.out]
  with_reducible refine HM.out.mono ?_
  rintro e w5 ⟨A5, n5, d5, rfl, hst, hb5⟩
  have hbb := O.out.bel.trans (hb5.mono (by have := O.out.size; omega))
  have HC := hide (oneof_stepP s.data.toList.length (by rw [strlen]; omega) _ (map_len s.data.toList l) A5 n5 d5 w5 _ hst (by have := HT.out.pos; have := hbb.size; omega))
  have BW := hide hbb
  have hwl : Wx.heap.size ≤ w5.heap.size := hb5.size
  clear hst hb5 hbb t0 t1 t2 t3 t4 c3w
  go_wp2_with fail
  with_reducible refine HC.out.mono ?_
  rintro e w7 ⟨sv, rfl, hsv, hb7⟩
  have Hsv := hide hsv
  have B7 := hide hb7
  clear hsv hb7
  go_wp2
  go_ret
  have hbb := bgo BW.out B7.out
  refine ⟨sv, rfl, (Hsv.out.more (fun k hk => ?_) (fun k hk => rng_lt HT.out.pos hbb hk)).congr fun f hf => step_alt set a b l _ f hf, hbb⟩
  have h1 := BW.out.size
  have h2 := B7.out.size
  have h3 := O.out.size
  rcases hk with (hk | hk) | hk | hk
  · exact Or.inl hk
  · exact Or.inr (by omega)
  · exact Or.inl hk
  · exact Or.inr (by omega)
set_option maxRecDepth 100000 in
set_option maxHeartbeats 2000000 in
theorem step29_4 (s : ByteArray) (hs : s.size ≤ 60) (set : List (UInt8 × UInt8)) (L : Nat) (b : Int) (x : Rx) (hx : nodeR x = 0) (hL : L ≤ 1000000) (hb1 : b = -1 ∨ (L ≤ b ∧ b ≤ 1000000)) (hl : MakesStep s x) : MakesStep s (.mk 4 set (L : Int) b [x]) := by
  intro W ok v hv hT
  cases hv with
  | mk _ _ _ A B n c m d _ vs _ hset hvs hlen hk ha hb hr =>
  obtain ⟨w2, w3, hw2, hw3, hO⟩ := open_is W s (.int .i64 4) (.slice A n c) (.int .i64 (L : Int)) (.int .i64 b) (.slice B m d)
  obtain ⟨_, t0, t1, t2, t3, t4⟩ := hO.five
  obtain ⟨Wx, hWx⟩ : ∃ Wx, w3.alloc (.cells #[.func (.func 59) #[] #[.pointer (some ⟨W.heap.size + 1, 0, none⟩)]] 93) = Wx := ⟨_, rfl⟩
  rw [hWx] at hO
  have O := hide hO
  have HW2 := hide hw2
  have HW3 := hide hw3
  have HWx := hide hWx
  have HT := hide hT
  have hone : 0 < m := by rw [← hlen]; simp
  obtain ⟨x', g, o, q0, qA, qn, qc, q1, q2, qB, qm, qd, hxl, rfl, x0, x1, x2, x3, x4, rx⟩ := ((SubsS.of hvs hlen hr).below hO.bel).at_ hone
  obtain rfl : x' = x := by simpa using hxl.symm
  have hD := bel_drew Wx
  have HM := hide (hl Wx.drew ok _ (rx.kept hD) ((hT.below hO.bel).below hD))
  have HR := hide (fun (sv : Value) (w5 : World) (p : Nat → Prop) (hsv : StepP s.data.toList.length w5 p sv (fun f => stepC x' s.data.toList f)) (h0 : 0 < w5.heap.size) => repeated_stepP s.data.toList.length (by rw [strlen]; omega) (fun f => stepC x' s.data.toList f) (fun g hg => stepC_len x' s.data.toList g hg) (stepC_none x' hx s.data.toList) L hL b hb1 sv w5 p hsv h0)
  obtain ⟨_, u0, u1, u2, u3, u4⟩ := hO.five
  have cs := cell_of_one hO.str
  have h0 := HT.out.pos
  have hbW := hO.bel
  have H0 := hide (fun (w5 : World) (hb : Below Wx.drew.heap.size Wx.drew w5) => show 0 < w5.heap.size from Nat.lt_of_lt_of_le (show 0 < Wx.heap.size by rw [hO.size]; omega) hb.size)
  have hsx := hO.size
  have HKp := hide (fun (p : Addr) (v : Value) (w' : World) (hb : Below Wx.drew.heap.size Wx.drew w') (h : Wx.cell? p = some v) => show w'.cell? p = some v from (hb.cell (p := p) (World.block_lt_of_cell? _ _ h)).trans h)
  clear hO hT hset hvs hlen hk ha hb hr hw2 hw3 hl hxl rx hD hWx
  rw [Nat.zero_mul, Nat.add_zero] at x0 x1 x2 x3 x4
  go_enter Tryz.func30, Tryz.ntmps30
  go_upto_region 1 with fail
  rw [HW2.out]
  go_upto_region 2 with fail
  rw [HW3.out]
  go_upto_region 12 with fail
  rw [HWx.out]
  clear t0 t1 t2 t3 t4
  go_region_held3 (fun w' => (w'.cell? ⟨W.heap.size, 2, none⟩ = some (.int .i64 (L : Int)) ∧ w'.cell? ⟨W.heap.size, 3, none⟩ = some (.int .i64 b) ∧ w'.cell? ⟨W.heap.size, 4, none⟩ = some (.slice (some ⟨g, o, none⟩) m d) ∧ w'.cell? ⟨W.heap.size + 1, 0, none⟩ = some (.string s)) ∧
      w'.cell? ⟨g, o, none⟩ = some (.int .i64 q0) ∧ w'.cell? ⟨g, o + 1, none⟩ = some (.slice qA qn qc) ∧ w'.cell? ⟨g, o + 2, none⟩ = some (.int .i64 q1) ∧ w'.cell? ⟨g, o + 3, none⟩ = some (.int .i64 q2) ∧ w'.cell? ⟨g, o + 4, none⟩ = some (.slice qB qm qd))
    (first | exact ⟨⟨u2, u3, u4, cs⟩, x0, x1, x2, x3, x4⟩ | exact ⟨⟨HKp.out _ _ _ hb5 u2, HKp.out _ _ _ hb5 u3, HKp.out _ _ _ hb5 u4, HKp.out _ _ _ hb5 cs⟩, HKp.out _ _ _ hb5 x0, HKp.out _ _ _ hb5 x1, HKp.out _ _ _ hb5 x2, HKp.out _ _ _ hb5 x3, HKp.out _ _ _ hb5 x4⟩ | exact ⟨⟨HKp.out _ _ _ (bgo hb5 hb6) u2, HKp.out _ _ _ (bgo hb5 hb6) u3, HKp.out _ _ _ (bgo hb5 hb6) u4, HKp.out _ _ _ (bgo hb5 hb6) cs⟩, HKp.out _ _ _ (bgo hb5 hb6) x0, HKp.out _ _ _ (bgo hb5 hb6) x1, HKp.out _ _ _ (bgo hb5 hb6) x2, HKp.out _ _ _ (bgo hb5 hb6) x3, HKp.out _ _ _ (bgo hb5 hb6) x4⟩)
    (first
      | (go_at_call 30; (with_reducible refine HM.out.mono ?_); rintro e w5 ⟨sv, rfl, hsv, hb5⟩)
      | (go_at_call 67; (with_reducible refine (HR.out _ _ _ hsv (H0.out _ hb5)).mono ?_); rintro e w6 ⟨sv2, rfl, hsv2, hb6⟩))
  go_wp2
  go_ret
  have hb5' : Below Wx.heap.size Wx w5 := (bel_drew Wx).trans hb5
  have hbb := bgo (bgo hbW hb5') hb6
  refine ⟨sv2, rfl, (hsv2.more (fun k hk => ?_) (fun k hk => rng_lt h0 hbb hk)).congr fun f hf => step_rep set L b x' _ f, hbb⟩
  have h1 := hb5'.size
  have h2 := hb6.size
  have h3 : Wx.drew.heap.size = Wx.heap.size := rfl
  rcases hk with (hk | hk) | hk | hk
  · exact Or.inl hk
  · exact Or.inr (by omega)
  · exact Or.inl hk
  · exact Or.inr (by omega)
theorem step29 (s : ByteArray) (hs : s.size ≤ 60) (r : Rx) : nodeR r = 0 → sizeR r ≤ 1000000 → MakesStep s r := by
  induction r using Rx.ind with
  | h k set a b l ih =>
    intro h0 h1
    obtain ⟨hf, hb, hsub⟩ := node_ok h0
    unfold sizeR at h1
    have hl : ∀ x ∈ l, MakesStep s x := fun x hx => ih x hx (hsub x hx) (by have := mem_size hx; omega)
    have hl6 : l.length ≤ 1000000 := by have := len_size l; omega
    have hk : 1 ≤ k ∧ k ≤ 7 := by
      unfold fieldsR at hf
      simp at hf
      omega
    rcases (show k = 1 ∨ k = 2 ∨ k = 3 ∨ k = 4 ∨ k = 5 ∨ k = 6 ∨ k = 7 by omega) with rfl | rfl | rfl | rfl | rfl | rfl | rfl
    · exact step29_1 s hs set a b l
    · exact step29_2 s set a b l hl hl6
    · exact step29_3 s hs set a b l hl hl6
    · have hbd := hb rfl
      unfold boundsR at hbd
      simp at hbd
      have hl1 : l.length = 1 := by
        unfold fieldsR at hf
        simp at hf
        omega
      obtain ⟨x, rfl⟩ := List.length_eq_one_iff.1 hl1
      obtain ⟨L, rfl⟩ : ∃ L : Nat, a = (L : Int) := ⟨a.toNat, by omega⟩
      exact step29_4 s hs set L b x (hsub x (by simp)) (by omega) (by omega) (hl x (by simp))
    · exact step29_5 s hs set a b l
    · exact step29_6 s hs set a b l
    · exact step29_7 s hs set a b l
end Go.Proofs.YtlnbjdlooghpeaaGreatDoor
namespace Go.Proofs.YtlnbjdlooghpeaaGreatDoor
open Go.RowKit
set_option maxRecDepth 100000 in
set_option maxHeartbeats 2000000 in
theorem upto36 (N : Nat) (hN : N < 61) (W : World) : Calls Tryz.prog 31 #[.int .i64 (N : Int)] W (RetO W (2 ^ (N + 1) - 1)) := by
  have hB0 := bnew (bnew (Below.refl _ W) (.cells #[.slice none 0 0] 62)) (.cells #[.slice none 0 0] 62)
  have hbox : Box (W.heap.size + 1) ((W.alloc (.cells #[.slice none 0 0] 62)).alloc (.cells #[.slice none 0 0] 62)) (W.heap.size + 1) (.slice none 0 0) 0 := by
    have := Box.new (n0 := W.heap.size + 1) (W.alloc (.cells #[.slice none 0 0] 62)) (by simp)
    simpa using this
  have r0 : ((W.alloc (.cells #[.slice none 0 0] 62)).alloc (.cells #[.slice none 0 0] 62)).heap[W.heap.size]? = some (.cells #[.slice none 0 0] 62 (0, 0)) := (Below.heap_alloc _ _ _ (by simp)).trans (heap_alloc_new W _)
  have BB := hide hB0
  have HX := hide hbox
  have HR := hide r0
  clear hB0 hbox r0
  go_enter Tryz.func31, Tryz.ntmps31
  go_wp2
  go_loopw [7] (fun y wr => ∃ k : Nat, k ≤ N + 1 ∧ y = .int .i64 (k : Int) ∧ (∃ A n c, Box (W.heap.size + 1) wr (W.heap.size + 1) (.slice A n c) (2 ^ k - 1)) ∧ wr.heap[W.heap.size]? = some (.cells #[.slice none 0 0] 62 (0, 0)) ∧ Below W.heap.size W wr) (fun y _ => N + 1 - (intOf y).toNat)
  case atStart => exact ⟨0, by omega, rfl, ⟨_, _, _, HX.out⟩, HR.out, BB.out⟩
  case round =>
    obtain ⟨k, hk, rfl, ⟨A, n, c, hX⟩, hr, hb⟩ := hrel
    obtain ⟨w1, hw1⟩ : ∃ w1, w1 = wr := ⟨wr, rfl⟩
    subst hw1
    have X := hide hX
    have R := hide hr
    have B := hide hb
    by_cases hlt : k < N + 1
    · have hpow : 2 ^ k - 1 < 2305843009213693952 := by
        have : 2 ^ k < 2 ^ 61 := Nat.pow_lt_pow_right (by omega) (by omega)
        omega
      have hlo : W.heap.size + 1 ≤ w1.heap.size := by have := lt_of_block hr; omega
      have HP := hide (put_own (W.heap.size + 1) (W.heap.size + 1) (2 ^ k - 1) k _ _ hX hlo hpow (by omega))
      clear hX hr hb hpow
      go_wp2_with fail
      with_reducible refine HP.out.mono ?_
      rintro e w2 ⟨rfl, A2, n2, c2, hbx, hb2⟩
      rw [pow_or] at hbx
      have X2 := hide hbx
      have R2 := hide ((hb2.block W.heap.size (by omega)).trans R.out)
      have B2 := hide (B.out.trans (hb2.mono (by omega)))
      clear hbx hb2 HP
      go_wp2
      go_roundw
      case rel => exact ⟨k + 1, by omega, by go_num, ⟨_, _, _, X2.out⟩, R2.out, B2.out⟩
      case measure => simp [intOf]; omega
    · obtain rfl : k = N + 1 := by omega
      have c1 := cell_of_one hX.2.1
      have c2 := cell_of_one hr
      have f2 := free_of_one hr
      have hs := World.cell?_setCell_same' w1 ⟨W.heap.size, 0, none⟩ (.slice A n c) (by rw [c2]; rfl)
      clear hX hr hb
      go_wp2
      refine bodyPost_ret (v := .agg #[.slice A n c]) (by simp [results, Tryz.results31, go_sem, hs]) rfl ⟨_, rfl, ⟨_, rfl, ?_⟩, B.out.setCell (p := ⟨W.heap.size, 0, none⟩) (Nat.le_refl _) _⟩
      exact (acc_off X.out.2.2 W.heap.size _ (by omega)).set
end Go.Proofs.YtlnbjdlooghpeaaGreatDoor
namespace Go.Proofs.YtlnbjdlooghpeaaGreatDoor
open Go.RowKit
open Go.ChangeShapes (block_add)
def allC (N : Nat) : List Bool := List.replicate (N + 1) true
theorem all_len (N : Nat) : (allC N).length = N + 1 := by simp [allC]
theorem all_on (N j : Nat) : On (allC N) j ↔ j ≤ N := by
  unfold On allC
  by_cases h : j < N + 1
  · simp [List.getD, h]; omega
  · simp [List.getD, h]; omega
theorem all_mask (N : Nat) : maskC (allC N) = 2 ^ (N + 1) - 1 := Nat.eq_of_testBit_eq fun j => by
  rw [Bool.eq_iff_iff, mask_on, all_on, Nat.testBit_two_pow_sub_one, decide_eq_true_eq]
  omega
def matchA (r : Rx) (s : List UInt8) : Bool := decide (rightR r = 0) && decide (maskC (stepC r s (allC s.length)) ≠ 0)
set_option maxRecDepth 100000 in
set_option maxHeartbeats 2000000 in
theorem match16 (s : ByteArray) (hs : s.size ≤ 60) (r : Rx) (h1 : sizeR r ≤ 1000000) (h2 : depthR r ≤ 1000000) (W : World) (ok : Nat → Prop) (v : Value) (hv : RxV W ok v r) (hT : HasT W) :
    Calls Tryz.prog 8 #[v, .string s] W fun e w' => e = .returned (.bool (matchA r s.data.toList)) ∧ Below W.heap.size W w' := by
  have hlen := strlen s
  have hv0 := hv
  cases hv with
  | mk k a b A B n c m d set vs l hset hvs hl hk ha hb hr =>
  have hB := bnew (Below.refl _ W) (.cells #[.int .i64 k, .slice A n c, .int .i64 a, .int .i64 b, .slice B m d] 25)
  have F := hide (five_new W (.int .i64 k) (.slice A n c) (.int .i64 a) (.int .i64 b) (.slice B m d) 25)
  have V := hide (hv0.kept hB)
  have BB := hide hB
  have HT := hide hT
  obtain ⟨_, t0, t1, t2, t3, t4⟩ := F.out
  obtain ⟨r, hr'⟩ : ∃ r, Rx.mk k set a b l = r := ⟨_, rfl⟩
  rw [hr'] at V h1 h2 ⊢
  clear hset hvs hl hk ha hb hr hB hv0 hT hr'
  have HR := hide (pright27 V.out h1 h2)
  obtain ⟨q, hq⟩ : ∃ q, rightR r = q := ⟨_, rfl⟩
  rw [hq] at HR
  by_cases c3 : q = 0
  · have hne : (q != 0) = false := int_eq c3
    subst c3
    obtain ⟨hn, hsz⟩ := right_nodeB hq
    have he : matchA r s.data.toList = decide (maskC (stepC r s.data.toList (allC s.data.toList.length)) ≠ 0) := by unfold matchA; rw [hq]; rfl
    rw [he]
    have HM := hide (step29 s hs r hn (by omega))
    clear he hq
    go_enter Tryz.func8, Tryz.ntmps8
    go_wp2_with fail
    with_reducible refine HR.out.mono ?_
    rintro e w2 ⟨rfl, hb2⟩
    have B2 := hide (bgo BB.out hb2)
    have HC := hide (HM.out w2 ok _ (V.out.kept hb2) ((HT.out.below BB.out).below hb2))
    clear t0 t1 t2 t3 t4
    obtain ⟨_, t0, t1, t2, t3, t4⟩ := F.out.keep hb2
    clear hb2
    go_wp2_with fail
    with_reducible refine HC.out.mono ?_
    rintro e w3 ⟨sv, rfl, hsv, hb3⟩
    have hsok := hsv.ok (Kept.of (Below.refl _ w3))
    obtain ⟨K, caps, rfl, hrun, hcall⟩ := hsok
    have HS := hide (fun W' f v hW hf hv => hcall W' f v hW hf hv)
    have HO := hide (upto36 s.size (by omega) w3)
    have B3 := hide (bgo B2.out hb3)
    clear hsv hb3 hcall t0 t1 t2 t3 t4
    go_wp2_with fail
    with_reducible refine HO.out.mono ?_
    rintro e w4 ⟨u4, rfl, ⟨s4, rfl, hs4⟩, hb4⟩
    rw [← all_mask s.size, ← hlen] at hs4
    have HQ := hide (HS.out w4 _ s4 hb4 (all_len _) hs4)
    have B4 := hide (bgo B3.out hb4)
    clear hs4 hb4
    go_wp2_with fail
    with_reducible refine HQ.out.mono ?_
    rintro e w5 ⟨u5, rfl, ⟨s5, rfl, hs5⟩, hb5⟩
    obtain ⟨a5, n5, d5, rfl⟩ := hs5.form
    have hq5 := heap_alloc_new w5 (.cells #[.slice a5 n5 d5] 62)
    have B5 := hide (bgo (bgo B4.out hb5) (bnew (Below.refl _ w5) (.cells #[.slice a5 n5 d5] 62)))
    obtain ⟨q, hq⟩ : ∃ q, ((n5 : Int) == 0) = q := ⟨_, rfl⟩
    have hres : decide (maskC (stepC r s.data.toList (allC s.data.toList.length)) ≠ 0) = !q := by
      rw [← hq]
      rcases hs5 with ⟨h0, _, _, h, _⟩ | ⟨h0, _, _, h, _⟩
      · simp only [Value.slice.injEq] at h
        obtain ⟨-, rfl, -⟩ := h
        rw [h0]
        rfl
      · simp only [Value.slice.injEq] at h
        obtain ⟨-, rfl, -⟩ := h
        rw [decide_eq_true h0]
        rfl
    have HE := hide (fun w (h : w.heap[w5.heap.size]? = some (.cells #[.slice a5 n5 d5] 62 (0, 0))) => empty37 q w5.heap.size n5 d5 a5 w (cell_of_one h) hq)
    have Hres := hide hres
    have Q5 := hide hq5
    clear hs5 hb5 hq hres hq5
    go_wp2_with fail
    with_reducible refine (HE.out _ Q5.out).mono ?_
    rintro e w6 ⟨rfl, rfl⟩
    go_wp2
    go_ret
    exact ⟨congrArg (fun b => Ending.returned (Value.bool b)) Hres.out.symm, B5.out⟩
  · have hne : (q != 0) = true := int_ne c3
    have he : matchA r s.data.toList = false := by unfold matchA; rw [hq, decide_eq_false c3]; rfl
    rw [he]
    clear he hq
    go_enter Tryz.func8, Tryz.ntmps8
    go_wp2_with fail
    with_reducible refine HR.out.mono ?_
    rintro e w2 ⟨rfl, hb2⟩
    have B2 := hide (bgo BB.out hb2)
    clear hb2
    go_wp2
    go_ret
    exact ⟨rfl, B2.out⟩
end Go.Proofs.YtlnbjdlooghpeaaGreatDoor
