/- The comparisons of lists. -/
import Derived.Test.YtniapakheegijaaW5
import Derived.Deep.QuietTactic
import Derived.BigQuiet
namespace Go.Proofs.Ytniapakheegijaa
open Go.RowKit

/-- The slice v of n elements of sz cells reads as xs. -/
def Rd (w : World) (v : Value) (n sz : Nat) (xs : List Value) : Prop :=
  xs.length = n * sz ∧ ∃ ao cap, v = .slice ao n cap ∧ n ≤ cap ∧ (0 < n → ∃ g, ao = some ⟨g, 0, none⟩ ∧ g < w.heap.size ∧ ∀ j, j < n * sz → w.cell? ⟨g, j, none⟩ = xs[j]?)

theorem Rd.of_owns {w : World} {B e : Nat} {sz n : Nat} {v : Value} {xs : List Value} (h : w.ownsRow B e sz v n xs) : Rd w v n sz xs := by
  refine ⟨h.1, ?_⟩
  rcases h.2 with ⟨rfl, rfl⟩ | ⟨g, cap, cur, rfl, hg, hh, hcap, r⟩
  · exact ⟨none, 0, rfl, Nat.le_refl _, fun h => by omega⟩
  · exact ⟨_, cap, rfl, hcap, fun _ => ⟨g, rfl, lt_of_block hh, fun j hj => h.cellAt j hj⟩⟩

theorem Rd.below {w w' : World} {n sz : Nat} {v : Value} {xs : List Value} (h : Rd w v n sz xs) (hb : Below w.heap.size w w') : Rd w' v n sz xs := by
  obtain ⟨h1, ao, cap, hv, hcap, h2⟩ := h
  refine ⟨h1, ao, cap, hv, hcap, fun hn => ?_⟩
  obtain ⟨g, hg, hlt, hc⟩ := h2 hn
  exact ⟨g, hg, by have := hb.size; omega, fun j hj => (hb.cell (p := ⟨g, j, none⟩) hlt).trans (hc j hj)⟩

def Drawn (w w' : World) : Prop := ∃ m, w' = w.drewN m
theorem Drawn.refl (w : World) : Drawn w w := ⟨0, rfl⟩
theorem Drawn.more {w w' : World} (h : Drawn w w') (m : Nat) : Drawn w (w'.drewN m) := by
  obtain ⟨k, rfl⟩ := h
  exact ⟨k + m, by simp⟩
theorem Drawn.cell {w w' : World} (h : Drawn w w') (a : Addr) : w'.cell? a = w.cell? a := by
  obtain ⟨k, rfl⟩ := h
  rfl
theorem Drawn.below {w w' : World} (h : Drawn w w') (B : Nat) : Below B w w' := by
  obtain ⟨k, rfl⟩ := h
  exact ⟨rfl, rfl, rfl, Nat.le_refl _, fun _ _ => rfl⟩
theorem Below.drawn {B : Nat} {a w w' : World} (h : Below B a w) (k : Drawn w w') : Below B a w' := h.trans (k.below B)

set_option maxHeartbeats 800000 in
theorem same16 (v1 v2 : Value) (n : Nat) (ts : List ByteArray) (w : World) (hn : n ≤ 100000) (h1 : Rd w v1 n 1 (ts.map Value.string)) (h2 : Rd w v2 n 1 (ts.map Value.string)) :
    Calls Try.prog 16 #[v1, v2] w fun e w' => e = .returned (.bool true) ∧ Drawn w w' := by
  obtain ⟨hl, ao1, cap1, rfl, hcap1, hc1⟩ := h1
  obtain ⟨_, ao2, cap2, rfl, hcap2, hc2⟩ := h2
  have Hl := hide hl
  have Hc1 := hide hc1
  have Hc2 := hide hc2
  clear hl hc1 hc2
  go_enter Try.func16, Try.ntmps16
  go_wp2
  go_loopw [5] (fun i wr => ∃ k : Nat, k ≤ n ∧ i = .int .i64 k ∧ Drawn w wr) (fun i _ => n - (intOf i).toNat)
  case atStart => exact ⟨0, Nat.zero_le _, rfl, Drawn.refl _⟩
  case round =>
    obtain ⟨k, hk, rfl, hdr⟩ := hrel
    by_cases hlt : k < n
    · obtain ⟨g1, rfl, hg1, hcl1⟩ := Hc1.out (by omega)
      obtain ⟨g2, rfl, hg2, hcl2⟩ := Hc2.out (by omega)
      have hkl : k < ts.length := by have := Hl.out; simp at this; omega
      obtain ⟨t, ht⟩ : ∃ t, (ts.map Value.string)[k]? = some (.string t) := ⟨ts[k], by simp [hkl]⟩
      have ha := (hdr.cell ⟨g1, k, none⟩).trans ((hcl1 k (by omega)).trans ht)
      have hb := (hdr.cell ⟨g2, k, none⟩).trans ((hcl2 k (by omega)).trans ht)
      have hlt' : (k : Int) < (n : Int) := by omega
      have h0' : (0 : Int) ≤ (k : Int) := by omega
      clear hcl1 hcl2 ht Hc1 Hc2
      go_wp2
      go_quiet (fail)
      go_wp2
      go_roundw
      case rel => exact ⟨k + 1, by omega, by go_num, hdr.more _⟩
      case measure => simp [intOf]; omega
    · go_wp2
      go_ret
      exact ⟨rfl, hdr⟩

set_option maxHeartbeats 800000 in
theorem same19 (v1 v2 : Value) (n : Nat) (ts : List Nat) (w : World) (hn : n ≤ 100000) (h1 : Rd w v1 n 1 (nums ts)) (h2 : Rd w v2 n 1 (nums ts)) :
    Calls Try.prog 19 #[v1, v2] w fun e w' => e = .returned (.bool true) ∧ Drawn w w' := by
  obtain ⟨hl, ao1, cap1, rfl, hcap1, hc1⟩ := h1
  obtain ⟨_, ao2, cap2, rfl, hcap2, hc2⟩ := h2
  have Hl := hide hl
  have Hc1 := hide hc1
  have Hc2 := hide hc2
  clear hl hc1 hc2
  go_enter Try.func19, Try.ntmps19
  go_wp2
  go_loopw [5] (fun i wr => ∃ k : Nat, k ≤ n ∧ i = .int .i64 k ∧ Drawn w wr) (fun i _ => n - (intOf i).toNat)
  case atStart => exact ⟨0, Nat.zero_le _, rfl, Drawn.refl _⟩
  case round =>
    obtain ⟨k, hk, rfl, hdr⟩ := hrel
    by_cases hlt : k < n
    · obtain ⟨g1, rfl, hg1, hcl1⟩ := Hc1.out (by omega)
      obtain ⟨g2, rfl, hg2, hcl2⟩ := Hc2.out (by omega)
      have hkl : k < ts.length := by have := Hl.out; simp [nums] at this; omega
      obtain ⟨t, ht⟩ : ∃ t : Nat, (nums ts)[k]? = some (.int .i64 (t : Int)) := ⟨ts[k], by simp [nums, hkl]⟩
      have ha := (hdr.cell ⟨g1, k, none⟩).trans ((hcl1 k (by omega)).trans ht)
      have hb := (hdr.cell ⟨g2, k, none⟩).trans ((hcl2 k (by omega)).trans ht)
      have hlt' : (k : Int) < (n : Int) := by omega
      have h0' : (0 : Int) ≤ (k : Int) := by omega
      clear hcl1 hcl2 ht Hc1 Hc2
      go_wp2
      go_quiet (fail)
      go_wp2
      go_roundw
      case rel => exact ⟨k + 1, by omega, by go_num, hdr.more _⟩
      case measure => simp [intOf]; omega
    · go_wp2
      go_ret
      exact ⟨rfl, hdr⟩

def spans : List (Nat × Nat) → List Value
  | [] => []
  | (a, b) :: l => .int .i64 (a : Int) :: .int .i64 (b : Int) :: spans l
theorem spans_len (l : List (Nat × Nat)) : (spans l).length = l.length * 2 := by
  induction l with
  | nil => rfl
  | cons x l ih => simp [spans, ih]; omega
theorem spans_get : ∀ (l : List (Nat × Nat)) (k : Nat) (t : Nat × Nat), l[k]? = some t → (spans l)[k * 2]? = some (.int .i64 (t.1 : Int)) ∧ (spans l)[k * 2 + 1]? = some (.int .i64 (t.2 : Int)) := by
  intro l
  induction l with
  | nil => intro k t h; simp at h
  | cons x l ih =>
    intro k t h
    cases k with
    | zero => simp at h; subst h; exact ⟨rfl, rfl⟩
    | succ k =>
      have := ih k t (by simpa using h)
      rw [show (k + 1) * 2 = k * 2 + 1 + 1 by omega]
      exact this
theorem spans_append (l m : List (Nat × Nat)) : spans (l ++ m) = spans l ++ spans m := by
  induction l with
  | nil => rfl
  | cons x l ih => simp [spans, ih]

set_option maxHeartbeats 800000 in
theorem same26 (v1 v2 : Value) (n : Nat) (ts : List (Nat × Nat)) (w : World) (hn : n ≤ 100000) (h1 : Rd w v1 n 2 (spans ts)) (h2 : Rd w v2 n 2 (spans ts)) :
    Calls Try.prog 26 #[v1, v2] w fun e w' => e = .returned (.bool true) ∧ Drawn w w' := by
  obtain ⟨hl, ao1, cap1, rfl, hcap1, hc1⟩ := h1
  obtain ⟨_, ao2, cap2, rfl, hcap2, hc2⟩ := h2
  have Hl := hide hl
  have Hc1 := hide hc1
  have Hc2 := hide hc2
  clear hl hc1 hc2
  go_enter Try.func26, Try.ntmps26
  go_wp2
  go_loopw [5] (fun i wr => ∃ k : Nat, k ≤ n ∧ i = .int .i64 k ∧ Drawn w wr) (fun i _ => n - (intOf i).toNat)
  case atStart => exact ⟨0, Nat.zero_le _, rfl, Drawn.refl _⟩
  case round =>
    obtain ⟨k, hk, rfl, hdr⟩ := hrel
    by_cases hlt : k < n
    · obtain ⟨g1, rfl, hg1, hcl1⟩ := Hc1.out (by omega)
      obtain ⟨g2, rfl, hg2, hcl2⟩ := Hc2.out (by omega)
      have hkl : k < ts.length := by have := Hl.out; rw [spans_len] at this; omega
      obtain ⟨t, ht⟩ : ∃ t, ts[k]? = some t := ⟨ts[k], by simp [hkl]⟩
      obtain ⟨e1, e2⟩ := spans_get ts k t ht
      have ha := (hdr.cell ⟨g1, k * 2, none⟩).trans ((hcl1 (k * 2) (by omega)).trans e1)
      have hb := (hdr.cell ⟨g2, k * 2, none⟩).trans ((hcl2 (k * 2) (by omega)).trans e1)
      have ha2 := (hdr.cell ⟨g1, k * 2 + 1, none⟩).trans ((hcl1 (k * 2 + 1) (by omega)).trans e2)
      have hb2 := (hdr.cell ⟨g2, k * 2 + 1, none⟩).trans ((hcl2 (k * 2 + 1) (by omega)).trans e2)
      have hlt' : (k : Int) < (n : Int) := by omega
      have h0' : (0 : Int) ≤ (k : Int) := by omega
      clear hcl1 hcl2 ht e1 e2 Hc1 Hc2
      go_wp2
      go_quiet (fail)
      go_wp2
      go_roundw
      case rel => exact ⟨k + 1, by omega, by go_num, hdr.more _⟩
      case measure => simp [intOf]; omega
    · go_wp2
      go_ret
      exact ⟨rfl, hdr⟩

end Go.Proofs.Ytniapakheegijaa
