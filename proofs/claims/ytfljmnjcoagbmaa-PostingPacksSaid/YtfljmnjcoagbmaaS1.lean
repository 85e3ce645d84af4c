/- Walks of layer 5's program: Valid, Contains, Has. -/
import Derived.Test.YtfljmnjcoagbmaaV6
namespace Go.Proofs.Ytfljmnjcoagbmaa
open Go.RowKit

theorem last_take (l : List Int) (k : Nat) (p : Int) (h : l[k]? = some p) : (l.take (k + 1)).getLastD (-1) = p := by
  rw [take_at l k p h]
  simp
theorem lastV_ok (l : List Int) (k : Nat) (z : Int) (hk : k ≤ l.length) (hv : valP (l.take k) = true) (h : (l.take k).getLastD (-1) < z) : 0 ≤ z ∧ ∀ y ∈ l.take k, y < z := by
  cases k with
  | zero => exact ⟨by simp at h; omega, by simp⟩
  | succ K =>
    have hp : l[K]? = some l[K] := List.getElem?_eq_getElem (by omega)
    rw [last_take l K _ hp] at h
    refine ⟨?_, less_all l K _ z hv hp h⟩
    have := ((val_iff _).1 hv).2 l[K] (by rw [take_at l K _ hp]; exact List.mem_append_right _ (List.mem_singleton_self _))
    omega
theorem lastV_bad (l : List Int) (k : Nat) (z : Int) (hz : l[k]? = some z) (h : z ≤ (l.take k).getLastD (-1)) : valP l = false := by
  cases k with
  | zero => exact val_range l z (List.mem_of_getElem? hz) (Or.inl (by simp at h; omega))
  | succ K =>
    have hk := (List.getElem?_eq_some_iff.1 hz).1
    have hp : l[K]? = some l[K] := List.getElem?_eq_getElem (by omega)
    rw [last_take l K _ hp] at h
    exact val_order l K _ z hp hz h

set_option maxRecDepth 20000 in
set_option maxHeartbeats 3200000 in
theorem valid11 (A : Option Addr) (n c : Nat) (l : List Int) (w : World) (h : Sl w A n c (numCells l)) :
    Calls Try.prog 11 #[.slice A n c] w fun e w' => e = .returned (.bool (valP l)) ∧ w = w' := by
  have hc := h.2.1
  have hnc := h.1
  have Hlen := hide h.nlen
  have H := hide h
  clear h
  go_enter Try.func11, Try.ntmps11
  go_wp2
  go_loop [3, 8] (fun x y => ∃ k : Nat, ∃ la : Int, k ≤ n ∧ y = .int .i64 k ∧ x = .int .i64 la ∧ la = (l.take k).getLastD (-1) ∧ valP (l.take k) = true) (fun _ y => n - (intOf y).toNat)
  case atStart => exact ⟨0, -1, Nat.zero_le _, rfl, rfl, rfl, rfl⟩
  case round =>
    obtain ⟨k, la, hk, rfl, rfl, hla, hv⟩ := hrel
    have Hla := hide hla
    have Hv := hide hv
    clear hla hv
    by_cases hlt : k < n
    · obtain ⟨ad, z, rfl, hz, hcell⟩ := num_cell H.out.reads hlt
      have hkn : (k : Int) < (n : Int) := by omega
      by_cases hle : z ≤ la
      · have Hr := hide (lastV_bad l k z hz (by rw [← Hla.out]; exact hle))
        clear hz
        go_wp2
        go_ret
        exact ⟨ret_bool Hr.out.symm, rfl⟩
      by_cases hbig : 9999 < z
      · have Hr := hide (val_range l z (List.mem_of_getElem? hz) (Or.inr hbig))
        clear hz
        go_wp2
        go_ret
        exact ⟨ret_bool Hr.out.symm, rfl⟩
      have hh := lastV_ok l k z (by rw [Hlen.out]; exact hk) Hv.out (by rw [← Hla.out]; omega)
      have Hn := hide (val_next l k z hz Hv.out hh.1 (by omega) hh.2)
      have Hl2 := hide (last_take l k z hz)
      clear hz hh
      go_wp2
      go_round
      case rel => exact ⟨k + 1, z, by omega, by go_num, rfl, Hl2.out.symm, Hn.out⟩
      case measure => simp [intOf]; omega
    · have hv2 := Hv.out
      rw [List.take_of_length_le (by rw [Hlen.out]; omega)] at hv2
      have Hr := hide hv2
      clear hv2
      go_wp2
      go_ret
      exact ⟨ret_bool Hr.out.symm, rfl⟩

set_option maxRecDepth 20000 in
set_option maxHeartbeats 1600000 in
/-- slices.Index, as far as Contains asks it: at least 0 exactly if the element is there. -/
theorem index60 (A : Option Addr) (n c : Nat) (l : List Int) (m : Int) (w : World) (h : Sl w A n c (numCells l)) :
    Calls Try.prog 60 #[.slice A n c, .int .i64 m] w fun e w' => (∃ i : Int, e = .returned (.int .i64 i) ∧ (0 ≤ i ↔ m ∈ l)) ∧ w = w' := by
  have hc := h.2.1
  have hnc := h.1
  have Hlen := hide h.nlen
  have H := hide h
  clear h
  go_enter Try.func60, Try.ntmps60
  go_wp2
  go_loop [8] (fun x => ∃ k : Nat, k ≤ n ∧ x = .int .i64 k ∧ m ∉ l.take k) (fun x => n - (intOf x).toNat)
  case atStart => exact ⟨0, Nat.zero_le _, rfl, by simp⟩
  case round =>
    obtain ⟨k, hk, rfl, hm⟩ := hrel
    have Hm := hide hm
    clear hm
    by_cases hlt : k < n
    · obtain ⟨ad, z, rfl, hz, hcell⟩ := num_cell H.out.reads hlt
      by_cases he : z = m
      · subst he
        have Hr := hide (List.mem_of_getElem? hz)
        clear hz
        go_wp2
        go_ret
        exact ⟨⟨_, rfl, ⟨fun _ => Hr.out, fun _ => by omega⟩⟩, rfl⟩
      · have Hnx := hide (notin_take l k z m Hm.out hz he)
        have hb : (z == m) = false := beq_eq_false_iff_ne.2 he
        have hb' : (m == z) = false := beq_eq_false_iff_ne.2 (fun h => he h.symm)
        clear hz he
        go_wp2
        go_round
        case rel => exact ⟨k + 1, by omega, by go_num, Hnx.out⟩
        case measure => simp [intOf]; omega
    · have hm2 := Hm.out
      rw [List.take_of_length_le (by rw [Hlen.out]; omega)] at hm2
      have Hr := hide hm2
      clear hm2
      go_wp2
      go_ret
      exact ⟨⟨_, rfl, ⟨fun h => by omega, fun h => absurd h Hr.out⟩⟩, rfl⟩

set_option maxRecDepth 20000 in
theorem contains44 (A : Option Addr) (n c : Nat) (l : List Int) (m : Int) (w : World) (h : Sl w A n c (numCells l)) :
    Calls Try.prog 44 #[.slice A n c, .int .i64 m] w fun e w' => e = .returned (.bool (decide (m ∈ l))) ∧ w = w' := by
  have H := hide h
  clear h
  go_enter Try.func44, Try.ntmps44
  go_wp2_with fail
  with_reducible refine (index60 A n c l m _ H.out).mono ?_
  rintro e w1 ⟨⟨i, rfl, hi⟩, rfl⟩
  have Hi := hide hi
  clear hi
  go_wp2
  go_ret
  exact ⟨ret_bool (decide_eq_decide.2 Hi.out), rfl⟩

set_option maxRecDepth 20000 in
theorem has25 (A : Option Addr) (n c : Nat) (l : List Int) (m : Int) (w : World) (h : Sl w A n c (numCells l)) :
    Calls Try.prog 25 #[.slice A n c, .int .i64 m] w fun e w' => e = .returned (.bool (valP l && decide (m ∈ l))) ∧ w = w' := by
  have H := hide h
  clear h
  cases hv : valP l with
  | true =>
    have Hv := hide hv
    clear hv
    go_enter Try.func25, Try.ntmps25
    go_wp2_with fail
    with_reducible refine (valid11 A n c l _ H.out).mono ?_
    rintro e w1 ⟨rfl, rfl⟩
    rw [Hv.out]
    go_wp2_with fail
    with_reducible refine (contains44 A n c l m _ H.out).mono ?_
    rintro e w2 ⟨rfl, rfl⟩
    go_wp2
    go_ret
    exact ⟨ret_bool (by simp), rfl⟩
  | false =>
    have Hv := hide hv
    clear hv
    go_enter Try.func25, Try.ntmps25
    go_wp2_with fail
    with_reducible refine (valid11 A n c l _ H.out).mono ?_
    rintro e w1 ⟨rfl, rfl⟩
    rw [Hv.out]
    go_wp2
    go_ret
    exact ⟨ret_bool (by simp), rfl⟩

end Go.Proofs.Ytfljmnjcoagbmaa
