/- The search of Knuth, Morris and Pratt over plain lists of bytes; no program. -/
import Derived.Test.YtdneoeiggebijaaLoc
namespace Go.Proofs.Ytdneoeiggebijaa

/-- The greatest number below n of which p is true, or -1. -/
def best (p : Nat → Bool) : Nat → Int
  | 0 => -1
  | n + 1 => if p n = true then (n : Int) else best p n
theorem best_lo (p : Nat → Bool) : ∀ n, -1 ≤ best p n
  | 0 => by unfold best; omega
  | n + 1 => by
    unfold best
    split
    · omega
    · exact best_lo p n
theorem best_hi (p : Nat → Bool) : ∀ n, best p n < (n : Int)
  | 0 => by unfold best; omega
  | n + 1 => by
    unfold best
    split
    · omega
    · have := best_hi p n; omega
theorem best_yes (p : Nat → Bool) (j : Nat) : ∀ n, best p n = (j : Int) → p j = true
  | 0, h => by unfold best at h; omega
  | n + 1, h => by
    unfold best at h
    split at h
    · rename_i hp
      obtain rfl : n = j := by omega
      exact hp
    · exact best_yes p j n h
theorem best_max (p : Nat → Bool) (j : Nat) (hj : p j = true) : ∀ n, j < n → (j : Int) ≤ best p n
  | 0, h => by omega
  | n + 1, h => by
    unfold best
    split
    · omega
    · rename_i hp
      by_cases e : j = n
      · subst e; exact absurd hj hp
      · exact best_max p j hj n (by omega)
theorem best_is (p : Nat → Bool) (j n : Nat) (hn : j < n) (hj : p j = true) (hm : ∀ k, k < n → p k = true → k ≤ j) : best p n = (j : Int) := by
  have h1 := best_max p j hj n hn
  have h2 := best_hi p n
  obtain ⟨k, hk⟩ : ∃ k : Nat, best p n = (k : Int) := ⟨(best p n).toNat, by omega⟩
  have h3 := best_yes p k n hk
  have h4 := hm k (by omega) h3
  omega
theorem best_none (p : Nat → Bool) (n : Nat) (hm : ∀ k, k < n → p k = true → False) : best p n = -1 := by
  have h1 := best_lo p n
  have h2 := best_hi p n
  by_cases h : best p n = -1
  · exact h
  · obtain ⟨k, hk⟩ : ∃ k : Nat, best p n = (k : Int) := ⟨(best p n).toNat, by omega⟩
    exact absurd (best_yes p k n hk) fun h3 => hm k (by omega) h3

/-- The first m bytes of d end with the first n of e. -/
def Suf (d e : List UInt8) (m n : Nat) : Prop := n ≤ m ∧ n ≤ e.length ∧ ∀ i, i < n → d.getD (m - n + i) 0 = e.getD i 0
def sufB (d e : List UInt8) (m n : Nat) : Bool := decide (n ≤ m) && decide (n ≤ e.length) && (List.range n).all fun i => decide (d.getD (m - n + i) 0 = e.getD i 0)
theorem suf_iff (d e : List UInt8) (m n : Nat) : sufB d e m n = true ↔ Suf d e m n := by
  unfold sufB Suf
  simp [List.all_eq_true, and_assoc]
theorem suf_zero (d e : List UInt8) (m : Nat) : Suf d e m 0 := ⟨Nat.zero_le _, Nat.zero_le _, fun i hi => by omega⟩
/-- One byte less on both sides. -/
theorem Suf.pre {d e : List UInt8} {m n : Nat} (h : Suf d e (m + 1) (n + 1)) : Suf d e m n ∧ d.getD m 0 = e.getD n 0 ∧ n < e.length := by
  obtain ⟨h1, h2, h3⟩ := h
  refine ⟨⟨by omega, by omega, fun i hi => ?_⟩, ?_, by omega⟩
  · have := h3 i (by omega)
    rwa [show m + 1 - (n + 1) + i = m - n + i by omega] at this
  · have := h3 n (by omega)
    rwa [show m + 1 - (n + 1) + n = m by omega] at this
theorem Suf.snoc {d e : List UInt8} {m n : Nat} (h : Suf d e m n) (hb : d.getD m 0 = e.getD n 0) (hn : n < e.length) : Suf d e (m + 1) (n + 1) := by
  obtain ⟨h1, h2, h3⟩ := h
  refine ⟨by omega, by omega, fun i hi => ?_⟩
  by_cases e' : i = n
  · subst e'
    rw [show m + 1 - (i + 1) + i = m by omega]
    exact hb
  · rw [show m + 1 - (n + 1) + i = m - n + i by omega]
    exact h3 i (by omega)
/-- A border of what matched matches. -/
theorem Suf.border {d e : List UInt8} {m n k : Nat} (h : Suf d e m n) (hk : Suf e e n k) : Suf d e m k := by
  obtain ⟨h1, h2, h3⟩ := h
  obtain ⟨k1, k2, k3⟩ := hk
  refine ⟨by omega, by omega, fun i hi => ?_⟩
  have := h3 (n - k + i) (by omega)
  rw [show m - n + (n - k + i) = m - k + i by omega] at this
  rw [this]
  exact k3 i hi
theorem Suf.of_both {d e : List UInt8} {m n k : Nat} (h : Suf d e m n) (hk : Suf d e m k) (hl : k ≤ n) : Suf e e n k := by
  obtain ⟨h1, h2, h3⟩ := h
  obtain ⟨k1, k2, k3⟩ := hk
  refine ⟨hl, by omega, fun i hi => ?_⟩
  have := h3 (n - k + i) (by omega)
  rw [show m - n + (n - k + i) = m - k + i by omega] at this
  rw [← this]
  exact k3 i hi

/-- The longest beginning, shorter than n, with which the first n bytes of e end; -1 for n = 0. -/
def bord (e : List UInt8) (n : Nat) : Int := best (sufB e e n) n
/-- The longest beginning of e with which the first m bytes of d end. -/
def lng (d e : List UInt8) (m : Nat) : Int := best (sufB d e m) (e.length + 1)
theorem bord_zero (e : List UInt8) : bord e 0 = -1 := rfl
theorem bord_lo (e : List UInt8) (n : Nat) : -1 ≤ bord e n := best_lo _ _
theorem bord_hi (e : List UInt8) (n : Nat) : bord e n < (n : Int) := best_hi _ _
theorem lng_nat (d e : List UInt8) (m : Nat) : ∃ j : Nat, lng d e m = (j : Int) ∧ Suf d e m j ∧ j ≤ e.length := by
  have h0 := best_max (sufB d e m) 0 ((suf_iff d e m 0).2 (suf_zero d e m)) (e.length + 1) (by omega)
  have h1 := best_hi (sufB d e m) (e.length + 1)
  refine ⟨(lng d e m).toNat, by unfold lng; omega, (suf_iff d e m _).1 (best_yes _ _ (e.length + 1) (by unfold lng; omega)), by unfold lng; omega⟩
theorem lng_max (d e : List UInt8) (m k : Nat) (h : Suf d e m k) : (k : Int) ≤ lng d e m := best_max _ k ((suf_iff d e m k).2 h) _ (by have := h.2.1; omega)
theorem lng_is (d e : List UInt8) (m j : Nat) (h : Suf d e m j) (hm : ∀ k, Suf d e m k → k ≤ j) : lng d e m = (j : Int) :=
  best_is _ j _ (by have := h.2.1; omega) ((suf_iff d e m j).2 h) fun k _ hk => hm k ((suf_iff d e m k).1 hk)
theorem bord_suf (e : List UInt8) (n j : Nat) (h : bord e n = (j : Int)) : Suf e e n j := (suf_iff e e n j).1 (best_yes _ j n h)
theorem bord_max (e : List UInt8) (n k : Nat) (h : Suf e e n k) (hk : k < n) : (k : Int) ≤ bord e n := best_max _ k ((suf_iff e e n k).2 h) n hk

/-- What the walk to the next length keeps: n matches, and whatever matches one byte later is at most n and that byte. -/
def Pre (d e : List UInt8) (m : Nat) (n : Int) : Prop := -1 ≤ n ∧ n < (e.length : Int) ∧ (∀ j : Nat, n = (j : Int) → Suf d e m j) ∧ ∀ k, Suf d e (m + 1) (k + 1) → (k : Int) ≤ n
theorem Pre.none {d e : List UInt8} {m : Nat} (h : Pre d e m (-1)) : lng d e (m + 1) = 0 :=
  lng_is d e (m + 1) 0 (suf_zero _ _ _) fun k hk => by
    cases k with
    | zero => omega
    | succ k => have := h.2.2.2 k hk; omega
theorem Pre.done {d e : List UInt8} {m j : Nat} (h : Pre d e m (j : Int)) (hb : d.getD m 0 = e.getD j 0) : lng d e (m + 1) = (j : Int) + 1 := by
  have := lng_is d e (m + 1) (j + 1) ((h.2.2.1 j rfl).snoc hb (by have := h.2.1; omega)) fun k hk => by
    cases k with
    | zero => omega
    | succ k => have := h.2.2.2 k hk; omega
  rw [this]
  omega
/-- The next shorter beginning. -/
theorem pre_down {d e : List UInt8} {m j : Nat} (h : Suf d e m j) (hm : ∀ k, Suf d e (m + 1) (k + 1) → k < j) (hj : j ≤ e.length) : Pre d e m (bord e j) := by
  refine ⟨bord_lo e j, by have := bord_hi e j; omega, fun k hk => h.border (bord_suf e j k hk), fun k hk => ?_⟩
  have hl := hm k hk
  exact bord_max e j k (h.of_both hk.pre.1 (by omega)) hl
theorem Pre.next {d e : List UInt8} {m j : Nat} (h : Pre d e m (j : Int)) (hb : d.getD m 0 ≠ e.getD j 0) : Pre d e m (bord e j) :=
  pre_down (h.2.2.1 j rfl) (fun k hk => by
    have h1 := h.2.2.2 k hk
    have h2 := hk.pre.2.1
    by_cases e' : k = j
    · subst e'; exact absurd h2 hb
    · omega) (by have := h.2.1; omega)
theorem pre_lng {d e : List UInt8} {m j : Nat} (h : lng d e m = (j : Int)) (hj : j < e.length) : Pre d e m (j : Int) := by
  obtain ⟨j', h1, h2, _⟩ := lng_nat d e m
  obtain rfl : j = j' := by omega
  refine ⟨by omega, by omega, fun k hk => ?_, fun k hk => ?_⟩
  · obtain rfl : j = k := by omega
    exact h2
  · rw [← h]
    exact lng_max d e m k hk.pre.1
theorem pre_full {d e : List UInt8} {m j : Nat} (h : lng d e m = (j : Int)) (hj : j = e.length) : Pre d e m (bord e j) := by
  obtain ⟨j', h1, h2, _⟩ := lng_nat d e m
  obtain rfl : j = j' := by omega
  exact pre_down h2 (fun k hk => by have := hk.2.1; omega) (by omega)

/-! ### The borders: e searched in itself from the second byte on -/
theorem drop_at (e : List UInt8) (i : Nat) : (e.drop 1).getD i 0 = e.getD (i + 1) 0 := by
  rw [List.getD_eq_getElem?_getD, List.getD_eq_getElem?_getD, List.getElem?_drop, Nat.add_comm]
theorem suf_drop (e : List UInt8) (m k : Nat) (hk : k ≤ m) : Suf (e.drop 1) e m k ↔ Suf e e (m + 1) k := by
  unfold Suf
  constructor
  · rintro ⟨_, h2, h3⟩
    refine ⟨by omega, h2, fun i hi => ?_⟩
    have := h3 i hi
    rw [drop_at] at this
    rwa [show m + 1 - k + i = m - k + i + 1 by omega]
  · rintro ⟨_, h2, h3⟩
    refine ⟨hk, h2, fun i hi => ?_⟩
    rw [drop_at, show m - k + i + 1 = m + 1 - k + i by omega]
    exact h3 i hi
theorem bord_next (e : List UInt8) (m : Nat) : bord e (m + 1) = lng (e.drop 1) e m := by
  obtain ⟨j, h1, h2, h3⟩ := lng_nat (e.drop 1) e m
  rw [h1]
  have hj := h2.1
  refine best_is _ j _ (by omega) ((suf_iff _ _ _ _).2 ((suf_drop e m j hj).1 h2)) fun k hk hs => ?_
  have := lng_max (e.drop 1) e m k ((suf_drop e m k (by omega)).2 ((suf_iff _ _ _ _).1 hs))
  omega
theorem bord_one (e : List UInt8) : bord e 1 = 0 :=
  best_is _ 0 _ (by omega) ((suf_iff _ _ _ _).2 (suf_zero _ _ _)) fun k hk _ => by omega
theorem pre_bord (e : List UInt8) (m : Nat) (hm : m < e.length) : Pre (e.drop 1) e m (bord e (m + 1)) := by
  have h := bord_next e m
  obtain ⟨j, h1, h2, h3⟩ := lng_nat (e.drop 1) e m
  rw [h, h1]
  have hj := h2.1
  exact pre_lng h1 (by omega)
/-- The borders of the first lengths below n. -/
def bords (e : List UInt8) (n : Nat) : List Int := (List.range n).map (bord e)
theorem bords_len (e : List UInt8) (n : Nat) : (bords e n).length = n := by simp [bords]
theorem bords_succ (e : List UInt8) (n : Nat) : bords e (n + 1) = bords e n ++ [bord e n] := by
  unfold bords
  rw [List.range_succ, List.map_append]
  rfl
theorem bords_at (e : List UInt8) (n i : Nat) (h : i < n) : (bords e n)[i]? = some (bord e i) := by
  unfold bords
  rw [List.getElem?_map, List.getElem?_range h]
  rfl
theorem bords_one (e : List UInt8) : bords e 1 = [-1] := rfl

/-! ### Where it occurs -/
theorem occ_suf (d e : List UInt8) (k : Nat) (hk : k + e.length ≤ d.length) : occB false d e k = true ↔ Suf d e (k + e.length) e.length := by
  rw [occ_iff]
  unfold Occ Suf
  constructor
  · rintro ⟨_, h⟩
    refine ⟨by omega, Nat.le_refl _, fun i hi => ?_⟩
    have := h i hi
    unfold fb at this
    rw [if_neg (by simp), if_neg (by simp)] at this
    rw [show k + e.length - e.length + i = k + i by omega]
    exact UInt8.toNat_inj.1 this
  · rintro ⟨_, _, h⟩
    refine ⟨hk, fun i hi => ?_⟩
    have := h i hi
    rw [show k + e.length - e.length + i = k + i by omega] at this
    unfold fb
    rw [if_neg (by simp), if_neg (by simp), this]
theorem lng_full (d e : List UInt8) (m j : Nat) (h : lng d e m = (j : Int)) : j = e.length ↔ Suf d e m e.length := by
  obtain ⟨j', h1, h2, h3⟩ := lng_nat d e m
  obtain rfl : j = j' := by omega
  constructor
  · intro h'; rw [← h']; exact h2
  · intro h'
    have := lng_max d e m _ h'
    omega
/-- The offsets found when the first m bytes have been looked at. -/
theorem find_yes (d e : List UInt8) (m j : Nat) (h : lng d e m = (j : Int)) (hm : m ≤ d.length) (hj : j = e.length) : e.length ≤ m ∧ findN false d e (m + 1 - e.length) = findN false d e (m - e.length) ++ [((m - e.length : Nat) : Int)] := by
  have hs := (lng_full d e m j h).1 hj
  have hl := hs.1
  refine ⟨hl, ?_⟩
  rw [show m + 1 - e.length = (m - e.length) + 1 by omega]
  refine findN_yes false d e (m - e.length) ((occ_suf d e _ (by omega)).2 ?_)
  rw [show m - e.length + e.length = m by omega]
  exact hs
theorem find_no (d e : List UInt8) (m j : Nat) (h : lng d e m = (j : Int)) (hm : m ≤ d.length) (hj : j ≠ e.length) : findN false d e (m + 1 - e.length) = findN false d e (m - e.length) := by
  by_cases hl : e.length ≤ m
  · rw [show m + 1 - e.length = (m - e.length) + 1 by omega]
    refine findN_no false d e (m - e.length) ?_
    cases hb : occB false d e (m - e.length) with
    | false => rfl
    | true =>
      have := (occ_suf d e (m - e.length) (by omega)).1 hb
      rw [show m - e.length + e.length = m by omega] at this
      exact absurd ((lng_full d e m j h).2 this) hj
  · rw [show m + 1 - e.length = 0 by omega, show m - e.length = 0 by omega]
theorem find_end (d e : List UInt8) : findN false d e (d.length + 1 - e.length) = findS false d e := by
  by_cases h : e.length ≤ d.length
  · exact find_upto false d e _ (by omega)
  · rw [show d.length + 1 - e.length = 0 by omega, find_short false d e (by omega)]
    rfl
theorem lng_zero (d e : List UInt8) : lng d e 0 = 0 := lng_is d e 0 0 (suf_zero _ _ _) fun _ hk => hk.1
theorem lng_empty (d e : List UInt8) (m : Nat) (he : e.length = 0) : lng d e m = 0 := lng_is d e m 0 (suf_zero _ _ _) fun k hk => by have := hk.2.1; omega

end Go.Proofs.Ytdneoeiggebijaa
