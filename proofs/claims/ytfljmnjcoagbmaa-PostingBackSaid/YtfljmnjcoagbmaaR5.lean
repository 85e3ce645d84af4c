/- Walks of layer 5's reference: Valid, Has. -/
import Derived.Test.YtfljmnjcoagbmaaR4
import Derived.Test.YtfljmnjcoagbmaaBlocks
namespace Go.Proofs.Ytfljmnjcoagbmaa
open Go.RowKit

theorem val_range (l : List Int) (z : Int) (hz : z ∈ l) (h : z < 0 ∨ 9999 < z) : valP l = false := by
  cases hv : valP l with
  | false => rfl
  | true =>
    have := ((val_iff l).1 hv).2 z hz
    omega
theorem up_at (l : List Int) (h : Up l) (i j : Nat) (x y : Int) (hij : i < j) (hx : l[i]? = some x) (hy : l[j]? = some y) : x < y := by
  obtain ⟨hi, rfl⟩ := List.getElem?_eq_some_iff.1 hx
  obtain ⟨hj, rfl⟩ := List.getElem?_eq_some_iff.1 hy
  exact (List.pairwise_iff_getElem.1 h) i j hi hj hij
theorem val_order (l : List Int) (k : Nat) (p z : Int) (hp : l[k]? = some p) (hz : l[k + 1]? = some z) (h : z ≤ p) : valP l = false := by
  cases hv : valP l with
  | false => rfl
  | true =>
    have := up_at l ((val_iff l).1 hv).1 k (k + 1) p z (by omega) hp hz
    omega
theorem up_snoc (l : List Int) (z : Int) (h : Up l) (hz : ∀ y ∈ l, y < z) : Up (l ++ [z]) := by
  unfold Up at *
  rw [List.pairwise_append]
  exact ⟨h, by simp, fun a ha b hb => by simp at hb; subst hb; exact hz a ha⟩
theorem val_next (l : List Int) (k : Nat) (z : Int) (hz : l[k]? = some z) (hv : valP (l.take k) = true) (h0 : 0 ≤ z) (h9 : z ≤ 9999) (hp : ∀ y ∈ l.take k, y < z) : valP (l.take (k + 1)) = true := by
  obtain ⟨h1, h2⟩ := (val_iff _).1 hv
  rw [take_at l k z hz]
  refine (val_iff _).2 ⟨up_snoc _ z h1 hp, fun x hx => ?_⟩
  rcases List.mem_append.1 hx with hx | hx
  · exact h2 x hx
  · simp at hx; omega
theorem less_all (l : List Int) (k : Nat) (p z : Int) (hv : valP (l.take (k + 1)) = true) (hp : l[k]? = some p) (h : p < z) : ∀ y ∈ l.take (k + 1), y < z := by
  intro y hy
  rw [take_at l k p hp] at hv hy
  have hu := ((val_iff _).1 hv).1
  rcases List.mem_append.1 hy with hy | hy
  · unfold Up at hu
    rw [List.pairwise_append] at hu
    have := hu.2.2 y hy p (by simp)
    omega
  · simp at hy; omega

set_option maxRecDepth 20000 in
set_option maxHeartbeats 3200000 in
theorem rvalid12 (A : Option Addr) (n c : Nat) (l : List Int) (w : World) (h : Sl w A n c (numCells l)) :
    Calls Try.prog 12 #[.slice A n c] w fun e w' => e = .returned (.bool (valP l)) ∧ Drawn w w' := by
  have hc := h.2.1
  have hnc := h.1
  have Hlen := hide h.nlen
  have H := hide h
  clear h
  go_enter Try.func12, Try.ntmps12
  go_wp2
  go_loopw [3] (fun x wr => ∃ k : Nat, k ≤ n ∧ x = .int .i64 k ∧ valP (l.take k) = true ∧ Drawn w wr) (fun x _ => n - (intOf x).toNat)
  case atStart => exact ⟨0, Nat.zero_le _, rfl, rfl, Drawn.refl _⟩
  case round =>
    obtain ⟨k, hk, rfl, hv, hd⟩ := hrel
    have Hd := hide hd
    have Hv := hide hv
    have hbel := hd.below w.heap.size
    clear hd hv
    by_cases hlt : k < n
    · obtain ⟨ad, z, rfl, hz, hcell⟩ := num_cell (H.out.below hbel).reads hlt
      have hkn : (k : Int) < (n : Int) := by omega
      by_cases hneg : z < 0
      · have Hr := hide (val_range l z (List.mem_of_getElem? hz) (Or.inl hneg))
        have d1 : decide (z < 0) = true := decide_eq_true hneg
        clear hz hbel
        go_wp2
        go_quiet (fail)
        go_wp2
        go_ret
        exact ⟨ret_bool Hr.out.symm, Hd.out.more _⟩
      by_cases hbig : 9999 < z
      · have Hr := hide (val_range l z (List.mem_of_getElem? hz) (Or.inr hbig))
        have d1 : decide (z < 0) = false := decide_eq_false hneg
        have d2 : decide (9999 < z) = true := decide_eq_true hbig
        clear hz hbel
        go_wp2
        go_quiet (fail)
        go_wp2
        go_ret
        exact ⟨ret_bool Hr.out.symm, Hd.out.more _⟩
      have d1 : decide (z < 0) = false := decide_eq_false hneg
      have d2 : decide (9999 < z) = false := decide_eq_false hbig
      by_cases hk0 : k = 0
      · have Hn := hide (val_next l k z hz Hv.out (by omega) (by omega) (by rw [hk0]; simp))
        have hkz : decide (0 < k) = false := decide_eq_false (by omega)
        have hkz' : decide ((0 : Int) < (k : Int)) = false := decide_eq_false (by omega)
        clear hz hbel hk0
        go_wp2
        go_quiet (fail)
        go_wp2
        go_roundw
        case rel => exact ⟨k + 1, by omega, by go_num, Hn.out, Hd.out.more _⟩
        case measure => simp [intOf]; omega
      · obtain ⟨K, rfl⟩ : ∃ K, k = K + 1 := ⟨k - 1, by omega⟩
        have hKn : K < n := by omega
        obtain ⟨ad', p, e, hp, hcellp⟩ := num_cell (H.out.below hbel).reads hKn
        cases e
        obtain ⟨k, hkk⟩ : ∃ k, K + 1 = k := ⟨_, rfl⟩
        rw [hkk] at hz hcell hkn hlt hk
        have hv2 := Hv.out
        have hkk' : ((K + 1 : Nat) : Int) = (k : Int) := by omega
        have hk1 : (k : Int) - 1 = (K : Int) := by omega
        have hkpos : decide (0 < k) = true := decide_eq_true (by omega)
        have hkpos' : decide ((0 : Int) < (k : Int)) = true := decide_eq_true (by omega)
        have hKn' : (K : Int) < (n : Int) := by omega
        by_cases hle : z ≤ p
        · have Hr := hide (val_order l K p z hp (by rw [hkk]; exact hz) hle)
          have d3 : decide (z ≤ p) = true := decide_eq_true hle
          clear hz hp hbel hv2
          rw [hkk]
          clear hkk hkk'
          go_wp2
          go_quiet (fail)
          go_wp2
          go_ret
          exact ⟨ret_bool Hr.out.symm, Hd.out.more _⟩
        · have d3 : decide (z ≤ p) = false := decide_eq_false hle
          have Hn := hide (val_next l k z hz (by rw [← hkk]; exact hv2) (by omega) (by omega) (by rw [← hkk]; exact less_all l K p z hv2 hp (by omega)))
          clear hz hp hbel hv2
          rw [hkk]
          clear hkk hkk'
          go_wp2
          go_quiet (fail)
          go_wp2
          go_roundw
          case rel => exact ⟨k + 1, by omega, by go_num, Hn.out, Hd.out.more _⟩
          case measure => simp [intOf]; omega
    · have hv2 := Hv.out
      rw [List.take_of_length_le (by rw [Hlen.out]; omega)] at hv2
      have Hr := hide hv2
      clear hv2 hbel
      go_wp2
      go_ret
      exact ⟨ret_bool Hr.out.symm, Hd.out⟩

end Go.Proofs.Ytfljmnjcoagbmaa
