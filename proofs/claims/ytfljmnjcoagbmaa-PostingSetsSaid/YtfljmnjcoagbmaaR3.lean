/- Walks of layer 5's reference: And, Or, Minus. -/
import Derived.Test.YtfljmnjcoagbmaaR2
namespace Go.Proofs.Ytfljmnjcoagbmaa
open Go.RowKit

theorem put_len (l : List Int) (n : Int) : (putS l n).length ≤ l.length + 1 := by
  induction l with
  | nil => simp [putS]
  | cons x l ih =>
    unfold putS
    split
    · simp
    · split
      · simp
      · simp; omega
theorem fold_len : ∀ (l acc : List Int), (l.foldl putS acc).length ≤ acc.length + l.length
  | [], acc => by simp
  | x :: l, acc => by
    rw [List.foldl_cons, List.length_cons]
    have := fold_len l (putS acc x)
    have := put_len acc x
    omega
theorem take_at (a : List Int) (k : Nat) (z : Int) (hz : a[k]? = some z) : a.take (k + 1) = a.take k ++ [z] := by
  rw [List.take_succ_eq_append_getElem (List.getElem?_eq_some_iff.1 hz).1, (List.getElem?_eq_some_iff.1 hz).2]
theorem andS_len (a b : List Int) : (andS a b).length ≤ a.length := by
  have := fold_len (a.filter fun x => decide (x ∈ b)) []
  have := List.length_filter_le (fun x => decide (x ∈ b)) a
  unfold andS
  simp at *
  omega
theorem minusS_len (a b : List Int) : (minusS a b).length ≤ a.length := by
  have := fold_len (a.filter fun x => decide (x ∉ b)) []
  have := List.length_filter_le (fun x => decide (x ∉ b)) a
  unfold minusS
  simp at *
  omega
theorem andS_in (a b : List Int) (k : Nat) (z : Int) (hz : a[k]? = some z) (h : z ∈ b) : andS (a.take (k + 1)) b = putS (andS (a.take k) b) z := by
  unfold andS
  rw [take_at a k z hz, List.filter_append, List.foldl_append]
  simp [h]
theorem andS_out (a b : List Int) (k : Nat) (z : Int) (hz : a[k]? = some z) (h : z ∉ b) : andS (a.take (k + 1)) b = andS (a.take k) b := by
  unfold andS
  rw [take_at a k z hz, List.filter_append, List.foldl_append]
  simp [h]
theorem minusS_in (a b : List Int) (k : Nat) (z : Int) (hz : a[k]? = some z) (h : z ∈ b) : minusS (a.take (k + 1)) b = minusS (a.take k) b := by
  unfold minusS
  rw [take_at a k z hz, List.filter_append, List.foldl_append]
  simp [h]
theorem minusS_out (a b : List Int) (k : Nat) (z : Int) (hz : a[k]? = some z) (h : z ∉ b) : minusS (a.take (k + 1)) b = putS (minusS (a.take k) b) z := by
  unfold minusS
  rw [take_at a k z hz, List.filter_append, List.foldl_append]
  simp [h]
theorem fold_at (a acc : List Int) (k : Nat) (z : Int) (hz : a[k]? = some z) : (a.take (k + 1)).foldl putS acc = putS ((a.take k).foldl putS acc) z := by
  rw [take_at a k z hz, List.foldl_append]
  rfl

set_option maxRecDepth 20000 in
set_option maxHeartbeats 1600000 in
theorem rand15 (A A' : Option Addr) (n c n' c' : Nat) (a b : List Int) (w : World) (h : Sl w A n c (numCells a)) (h' : Sl w A' n' c' (numCells b)) (hn : n ≤ 10000000) (hn' : n' ≤ 10000000) :
    Calls Try.prog 15 #[.slice A n c, .slice A' n' c'] w (GrewI w (andS a b)) := by
  have hlen := h.nlen
  have Hlen := hide hlen
  have H := hide h
  have H' := hide h'
  clear hlen h h'
  go_enter Try.func15, Try.ntmps15
  go_wp2
  go_loopw [5, 6] (fun u x wr => ∃ k : Nat, k ≤ n ∧ x = .int .i64 k ∧ Own wr w.heap.size 3 u (numCells (andS (a.take k) b)) ∧ Below w.heap.size w wr) (fun _ x _ => n - (intOf x).toNat)
  case atStart => exact ⟨0, Nat.zero_le _, rfl, own_none w, bnew (Below.refl _ w) _⟩
  case round =>
    obtain ⟨k, hk, rfl, hown, hbel⟩ := hrel
    have hsz := hbel.size
    have Hb := hide hbel
    obtain ⟨A1, m1, c1, rfl, hm1, hs1⟩ := hown.slI
    have hm1b : m1 ≤ 10000000 := by
      have := andS_len (a.take k) b
      rw [List.length_take, Hlen.out] at this
      omega
    have Hown := hide hown
    have S1 := hide hs1
    clear hm1 hs1 hown
    by_cases hlt : k < n
    · obtain ⟨ad, z, rfl, hz, hcell⟩ := num_cell (H.out.below hbel).reads hlt
      have K' := hide (H'.out.below hbel).reads
      clear hbel
      by_cases hin : z ∈ b
      · have hst := andS_in a b k z hz hin
        have Hst := hide hst
        have hd : decide (z ∈ b) = true := decide_eq_true hin
        clear hst hz hin
        go_wp2_with fail
        refine (rin31 _ A' n' c' b z _ K'.out (by omega)).mono ?_
        rintro e w2 ⟨rfl, rfl⟩
        rw [hd]
        go_wp2_with fail
        refine (rput34 A1 m1 c1 _ z _ S1.out (by omega)).mono ?_
        rintro e w2 ⟨v2, rfl, hown2, hb2⟩
        rw [← Hst.out] at hown2
        have Hown2 := hide (Own.mono hown2 hsz)
        have B2 := hide (Hb.out.trans (hb2.mono hsz))
        clear hown2 hb2 Hown S1
        go_wp2
        go_roundw
        case rel => exact ⟨k + 1, by omega, by go_num, Hown2.out, B2.out⟩
        case measure => simp [intOf]; omega
      · have hst := andS_out a b k z hz hin
        have Hst := hide hst
        have hd : decide (z ∈ b) = false := decide_eq_false hin
        clear hst hz hin
        go_wp2_with fail
        refine (rin31 _ A' n' c' b z _ K'.out (by omega)).mono ?_
        rintro e w2 ⟨rfl, rfl⟩
        rw [hd]
        go_wp2
        go_roundw
        case rel => exact ⟨k + 1, by omega, by go_num, by rw [Hst.out]; exact Hown.out, Hb.out⟩
        case measure => simp [intOf]; omega
    · have ho := Hown.out
      rw [List.take_of_length_le (by rw [Hlen.out]; omega)] at ho
      have Ho := hide ho
      clear ho Hown hbel
      go_wp2
      go_ret
      exact ⟨_, rfl, Ho.out, Hb.out⟩

set_option maxRecDepth 20000 in
set_option maxHeartbeats 1600000 in
theorem rminus19 (A A' : Option Addr) (n c n' c' : Nat) (a b : List Int) (w : World) (h : Sl w A n c (numCells a)) (h' : Sl w A' n' c' (numCells b)) (hn : n ≤ 10000000) (hn' : n' ≤ 10000000) :
    Calls Try.prog 19 #[.slice A n c, .slice A' n' c'] w (GrewI w (minusS a b)) := by
  have hlen := h.nlen
  have Hlen := hide hlen
  have H := hide h
  have H' := hide h'
  clear hlen h h'
  go_enter Try.func19, Try.ntmps19
  go_wp2
  go_loopw [5, 6] (fun u x wr => ∃ k : Nat, k ≤ n ∧ x = .int .i64 k ∧ Own wr w.heap.size 3 u (numCells (minusS (a.take k) b)) ∧ Below w.heap.size w wr) (fun _ x _ => n - (intOf x).toNat)
  case atStart => exact ⟨0, Nat.zero_le _, rfl, own_none w, bnew (Below.refl _ w) _⟩
  case round =>
    obtain ⟨k, hk, rfl, hown, hbel⟩ := hrel
    have hsz := hbel.size
    have Hb := hide hbel
    obtain ⟨A1, m1, c1, rfl, hm1, hs1⟩ := hown.slI
    have hm1b : m1 ≤ 10000000 := by
      have := minusS_len (a.take k) b
      rw [List.length_take, Hlen.out] at this
      omega
    have Hown := hide hown
    have S1 := hide hs1
    clear hm1 hs1 hown
    by_cases hlt : k < n
    · obtain ⟨ad, z, rfl, hz, hcell⟩ := num_cell (H.out.below hbel).reads hlt
      have K' := hide (H'.out.below hbel).reads
      clear hbel
      by_cases hin : z ∈ b
      · have hst := minusS_in a b k z hz hin
        have Hst := hide hst
        have hd : decide (z ∈ b) = true := decide_eq_true hin
        clear hst hz hin
        go_wp2_with fail
        refine (rin31 _ A' n' c' b z _ K'.out (by omega)).mono ?_
        rintro e w2 ⟨rfl, rfl⟩
        rw [hd]
        go_wp2
        go_roundw
        case rel => exact ⟨k + 1, by omega, by go_num, by rw [Hst.out]; exact Hown.out, Hb.out⟩
        case measure => simp [intOf]; omega
      · have hst := minusS_out a b k z hz hin
        have Hst := hide hst
        have hd : decide (z ∈ b) = false := decide_eq_false hin
        clear hst hz hin
        go_wp2_with fail
        refine (rin31 _ A' n' c' b z _ K'.out (by omega)).mono ?_
        rintro e w2 ⟨rfl, rfl⟩
        rw [hd]
        go_wp2_with fail
        refine (rput34 A1 m1 c1 _ z _ S1.out (by omega)).mono ?_
        rintro e w2 ⟨v2, rfl, hown2, hb2⟩
        rw [← Hst.out] at hown2
        have Hown2 := hide (Own.mono hown2 hsz)
        have B2 := hide (Hb.out.trans (hb2.mono hsz))
        clear hown2 hb2 Hown S1
        go_wp2
        go_roundw
        case rel => exact ⟨k + 1, by omega, by go_num, Hown2.out, B2.out⟩
        case measure => simp [intOf]; omega
    · have ho := Hown.out
      rw [List.take_of_length_le (by rw [Hlen.out]; omega)] at ho
      have Ho := hide ho
      clear ho Hown hbel
      go_wp2
      go_ret
      exact ⟨_, rfl, Ho.out, Hb.out⟩

set_option maxRecDepth 20000 in
set_option maxHeartbeats 1600000 in
theorem ror17 (A A' : Option Addr) (n c n' c' : Nat) (a b : List Int) (w : World) (h : Sl w A n c (numCells a)) (h' : Sl w A' n' c' (numCells b)) (hn : n ≤ 10000000) (hn' : n' ≤ 10000000) :
    Calls Try.prog 17 #[.slice A n c, .slice A' n' c'] w (GrewI w (orS a b)) := by
  have Hlen := hide h.nlen
  have Hlen' := hide h'.nlen
  have H := hide h
  have H' := hide h'
  clear h h'
  go_enter Try.func17, Try.ntmps17
  go_wp2
  go_loopw [5, 6] (fun u x wr => ∃ k : Nat, k ≤ n ∧ x = .int .i64 k ∧ Own wr w.heap.size 3 u (numCells ((a.take k).foldl putS [])) ∧ Below w.heap.size w wr) (fun _ x _ => n - (intOf x).toNat)
  case atStart => exact ⟨0, Nat.zero_le _, rfl, own_none w, bnew (Below.refl _ w) _⟩
  case round =>
    obtain ⟨k, hk, rfl, hown, hbel⟩ := hrel
    have hsz := hbel.size
    have Hb := hide hbel
    obtain ⟨A1, m1, c1, rfl, hm1, hs1⟩ := hown.slI
    have hm1b : m1 ≤ 10000000 := by
      have := fold_len (a.take k) []
      rw [List.length_take, Hlen.out] at this
      simp at this
      omega
    have Hown := hide hown
    have S1 := hide hs1
    clear hm1 hs1 hown
    by_cases hlt : k < n
    · obtain ⟨ad, z, rfl, hz, hcell⟩ := num_cell (H.out.below hbel).reads hlt
      have Hst := hide (fold_at a [] k z hz)
      clear hbel hz
      go_wp2_with fail
      refine (rput34 A1 m1 c1 _ z _ S1.out (by omega)).mono ?_
      rintro e w2 ⟨v2, rfl, hown2, hb2⟩
      rw [← Hst.out] at hown2
      have Hown2 := hide (Own.mono hown2 hsz)
      have B2 := hide (Hb.out.trans (hb2.mono hsz))
      clear hown2 hb2 Hown S1
      go_wp2
      go_roundw
      case rel => exact ⟨k + 1, by omega, by go_num, Hown2.out, B2.out⟩
      case measure => simp [intOf]; omega
    · have ho := Hown.out
      rw [List.take_of_length_le (by rw [Hlen.out]; omega)] at ho
      have Ho := hide ho
      clear ho Hown hbel S1 hm1b
      go_wp2
      go_loopw [5, 7] (fun u x wr => ∃ k : Nat, k ≤ n' ∧ x = .int .i64 k ∧ Own wr w.heap.size 3 u (numCells ((b.take k).foldl putS (a.foldl putS []))) ∧ Below w.heap.size w wr) (fun _ x _ => n' - (intOf x).toNat)
      case atStart => exact ⟨0, Nat.zero_le _, rfl, Ho.out, Hb.out⟩
      case round =>
        clear Ho Hb hsz
        obtain ⟨j, hj, rfl, hown, hbel⟩ := hrel
        have hsz := hbel.size
        have Hb := hide hbel
        obtain ⟨A1, m1, c1, rfl, hm1, hs1⟩ := hown.slI
        have hm1b : m1 ≤ 20000000 := by
          have h1 := fold_len (b.take j) (a.foldl putS [])
          have h2 := fold_len a []
          rw [List.length_take, Hlen'.out] at h1
          rw [Hlen.out] at h2
          simp at h2
          omega
        have Hown := hide hown
        have S1 := hide hs1
        clear hm1 hs1 hown
        by_cases hlt : j < n'
        · obtain ⟨ad, z, rfl, hz, hcell⟩ := num_cell (H'.out.below hbel).reads hlt
          have Hst := hide (fold_at b (a.foldl putS []) j z hz)
          clear hbel hz
          go_wp2_with fail
          refine (rput34 A1 m1 c1 _ z _ S1.out (by omega)).mono ?_
          rintro e w2 ⟨v2, rfl, hown2, hb2⟩
          rw [← Hst.out] at hown2
          have Hown2 := hide (Own.mono hown2 hsz)
          have B2 := hide (Hb.out.trans (hb2.mono hsz))
          clear hown2 hb2 Hown S1
          go_wp2
          go_roundw
          case rel => exact ⟨j + 1, by omega, by go_num, Hown2.out, B2.out⟩
          case measure => simp [intOf]; omega
        · have ho := Hown.out
          rw [List.take_of_length_le (by rw [Hlen'.out]; omega)] at ho
          have Ho := hide ho
          clear ho Hown hbel
          go_wp2
          go_ret
          exact ⟨_, rfl, Ho.out, Hb.out⟩

end Go.Proofs.Ytfljmnjcoagbmaa
