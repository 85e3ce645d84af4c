/- Off of both. -/
import Derived.Test.YtniapakheegijaaWA
namespace Go.Proofs.Ytniapakheegijaa
open Go.RowKit

theorem quiet_left {P : Program} {f : FuncId} {args : Array Value} {w : World} {n : Nat} {v : Value}
    (h : Calls P f args (w.drewN n) fun e w' => e = .returned v ∧ w.drewN n = w') : Calls P f args (w.drewN n) fun e w'' => e = .returned v ∧ ∃ m, w'' = w.drewN m :=
  h.mono fun _ _ ⟨he, hm⟩ => ⟨he, n, hm.symm⟩

theorem starts20' (s : ByteArray) (L : Nat) (hL : (starts s.data.toList s.size).length = L) (w : World) (hs : s.size ≤ 100000) :
    Calls Try.prog 20 #[.string s] w fun e w' => (∃ ao cap, e = .returned (.slice ao L cap) ∧ RdS w' ao L cap 1 (nums (starts s.data.toList s.size))) ∧ Below w.heap.size w w' := by
  subst hL
  refine (starts20 s w hs).mono ?_
  rintro e w1 ⟨⟨v, rfl, hown⟩, hb⟩
  obtain ⟨ao, cap, rfl, h⟩ := (Rd.of_owns hown).s
  exact ⟨⟨ao, cap, rfl, h⟩, hb⟩

/-- There is no byte at line ln, column col. -/
def NoOff (s : ByteArray) (ln col : Int) : Prop :=
  ln < 1 ∨ ((starts s.data.toList s.size).length : Int) < ln ∨ ∃ i a : Nat, ln = (i : Int) + 1 ∧ (starts s.data.toList s.size)[i]? = some a ∧ (col < 1 ∨ (stopN s.data.toList a : Int) - a < col)

theorem off_cases (s : ByteArray) (ln col : Int) : NoOff s ln col ∨ ∃ i a : Nat, ln = (i : Int) + 1 ∧ (starts s.data.toList s.size)[i]? = some a ∧ 1 ≤ col ∧ col ≤ (stopN s.data.toList a : Int) - a := by
  by_cases h1 : ln < 1
  · exact Or.inl (Or.inl h1)
  · by_cases h2 : ((starts s.data.toList s.size).length : Int) < ln
    · exact Or.inl (Or.inr (Or.inl h2))
    · obtain ⟨i, rfl⟩ : ∃ i : Nat, ln = (i : Int) + 1 := ⟨(ln - 1).toNat, by omega⟩
      have hi : i < (starts s.data.toList s.size).length := by omega
      have hg := List.getElem?_eq_getElem hi
      by_cases h3 : col < 1 ∨ (stopN s.data.toList (starts s.data.toList s.size)[i] : Int) - ((starts s.data.toList s.size)[i] : Nat) < col
      · exact Or.inl (Or.inr (Or.inr ⟨i, _, rfl, hg, h3⟩))
      · exact Or.inr ⟨i, _, rfl, hg, by omega, by omega⟩

theorem stop_le (s : ByteArray) (a : Nat) (ha : a < s.size) : a < stopN s.data.toList a ∧ stopN s.data.toList a ≤ s.size := by
  have := le_lineEnd s.data.toList a
  unfold stopN
  rw [size_list]
  omega

theorem starts_next (s : ByteArray) (i a b : Nat) (h : (starts s.data.toList s.size)[i]? = some a) (hb : (starts s.data.toList s.size)[i + 1]? = some b) : stopN s.data.toList a = b := by
  have := stop_next s.data.toList i a (by rw [size_list]; exact h)
  rw [size_list, List.getD_eq_getElem?_getD, hb] at this
  exact this
theorem starts_lastone (s : ByteArray) (i a : Nat) (h : (starts s.data.toList s.size)[i]? = some a) (hL : (starts s.data.toList s.size).length ≤ i + 1) : stopN s.data.toList a = s.size := by
  have := stop_next s.data.toList i a (by rw [size_list]; exact h)
  rw [size_list, List.getD_eq_getElem?_getD, List.getElem?_eq_none hL] at this
  exact this

set_option maxHeartbeats 1600000 in
theorem off24_no (s : ByteArray) (ln col : Int) (w : World) (hs : s.size ≤ 100000) (h : NoOff s ln col) : Calls Try.prog 24 #[.string s, .agg #[.int .i64 ln, .int .i64 col]] w fun e w' => e = .returned (.tuple #[.int .i64 0, .bool false]) ∧ Below w.heap.size w w' := by
  obtain ⟨L, hLe⟩ : ∃ L, (starts s.data.toList s.size).length = L := ⟨_, rfl⟩
  have hL : L ≤ 100000 := by rw [← hLe]; exact Nat.le_trans (upto_len _ _) hs
  have HL := hide hLe
  unfold NoOff at h
  rw [hLe] at h
  clear hLe
  rcases h with h | h | ⟨i, a, rfl, ha, h⟩
  · go_enter Try.func24, Try.ntmps24
    go_wp2_with fail
    refine (starts20' s L HL.out _ hs).mono ?_
    rintro e w1 ⟨⟨ao, cap, rfl, hrd⟩, hb1⟩
    obtain ⟨q0, q1, _, _, hsz⟩ := two_new _ _ _ _ _ hb1
    have hb : Below w.heap.size w w1 := ((Below.refl _ _).alloc (Nat.le_refl _) _).trans (hb1.mono (by simp))
    have Hb := hide hb
    clear hb hb1
    go_wp2
    go_ret2
    exact ⟨rfl, Hb.out⟩
  · go_enter Try.func24, Try.ntmps24
    go_wp2_with fail
    refine (starts20' s L HL.out _ hs).mono ?_
    rintro e w1 ⟨⟨ao, cap, rfl, hrd⟩, hb1⟩
    obtain ⟨q0, q1, _, _, hsz⟩ := two_new _ _ _ _ _ hb1
    have hb : Below w.heap.size w w1 := ((Below.refl _ _).alloc (Nat.le_refl _) _).trans (hb1.mono (by simp))
    have Hb := hide hb
    clear hb hb1
    go_wp2
    go_ret2
    exact ⟨rfl, Hb.out⟩
  · have hi : i < L := by rw [← HL.out]; exact (List.getElem?_eq_some_iff.1 ha).1
    have has := starts_get s i a ha
    have hst := stop_le s a has
    have Ha := hide ha
    clear ha
    rcases (show col < 1 ∨ (1 ≤ col ∧ (stopN s.data.toList a : Int) - a < col) by omega) with hco | ⟨hc1, hco⟩
    · go_enter Try.func24, Try.ntmps24
      go_wp2_with fail
      refine (starts20' s L HL.out _ hs).mono ?_
      rintro e w1 ⟨⟨ao, cap, rfl, hrd⟩, hb1⟩
      obtain ⟨q0, q1, _, _, hsz⟩ := two_new _ _ _ _ _ hb1
      have hb : Below w.heap.size w w1 := ((Below.refl _ _).alloc (Nat.le_refl _) _).trans (hb1.mono (by simp))
      have Hb := hide hb
      clear hb hb1
      obtain ⟨g, rfl, x, hx, hcx⟩ := hrd.at hi
      obtain ⟨a', ha', rfl⟩ := nums_get _ _ _ hx
      obtain rfl : a' = a := by rw [Ha.out] at ha'; exact (Option.some.inj ha').symm
      clear hx ha'
      by_cases hn : i + 1 < L
      · obtain ⟨g', hg', y, hy, hcy⟩ := hrd.at hn
        obtain rfl : g = g' := by simpa using hg'
        obtain ⟨b, hb', rfl⟩ := nums_get _ _ _ hy
        have hsb := starts_next s i a' b Ha.out hb'
        rw [hsb] at hst
        clear hsb hy hb' hrd hg'
        go_wp2
        go_ret2
        exact ⟨rfl, Hb.out⟩
      · have hsb := starts_lastone s i a' Ha.out (by rw [HL.out]; omega)
        rw [hsb] at hst
        clear hsb hrd
        go_wp2
        go_ret2
        exact ⟨rfl, Hb.out⟩
    · go_enter Try.func24, Try.ntmps24
      go_wp2_with fail
      refine (starts20' s L HL.out _ hs).mono ?_
      rintro e w1 ⟨⟨ao, cap, rfl, hrd⟩, hb1⟩
      obtain ⟨q0, q1, _, _, hsz⟩ := two_new _ _ _ _ _ hb1
      have hb : Below w.heap.size w w1 := ((Below.refl _ _).alloc (Nat.le_refl _) _).trans (hb1.mono (by simp))
      have Hb := hide hb
      clear hb hb1
      obtain ⟨g, rfl, x, hx, hcx⟩ := hrd.at hi
      obtain ⟨a', ha', rfl⟩ := nums_get _ _ _ hx
      obtain rfl : a' = a := by rw [Ha.out] at ha'; exact (Option.some.inj ha').symm
      clear hx ha'
      by_cases hn : i + 1 < L
      · obtain ⟨g', hg', y, hy, hcy⟩ := hrd.at hn
        obtain rfl : g = g' := by simpa using hg'
        obtain ⟨b, hb', rfl⟩ := nums_get _ _ _ hy
        have hsb := starts_next s i a' b Ha.out hb'
        rw [hsb] at hst hco
        clear hsb hy hb' hrd hg'
        go_wp2
        go_ret2
        exact ⟨rfl, Hb.out⟩
      · have hsb := starts_lastone s i a' Ha.out (by rw [HL.out]; omega)
        rw [hsb] at hst hco
        clear hsb hrd
        go_wp2
        go_ret2
        exact ⟨rfl, Hb.out⟩

set_option maxHeartbeats 1600000 in
theorem off24 (s : ByteArray) (i a : Nat) (col : Int) (w : World) (hs : s.size ≤ 100000) (ha : (starts s.data.toList s.size)[i]? = some a) (hc1 : 1 ≤ col) (hco : col ≤ (stopN s.data.toList a : Int) - a) : Calls Try.prog 24 #[.string s, .agg #[.int .i64 ((i : Int) + 1), .int .i64 col]] w fun e w' => e = .returned (.tuple #[.int .i64 ((a : Int) + col - 1), .bool true]) ∧ Below w.heap.size w w' := by
  obtain ⟨L, hLe⟩ : ∃ L, (starts s.data.toList s.size).length = L := ⟨_, rfl⟩
  have hL : L ≤ 100000 := by rw [← hLe]; exact Nat.le_trans (upto_len _ _) hs
  have HL := hide hLe
  clear hLe
  have hi : i < L := by rw [← HL.out]; exact (List.getElem?_eq_some_iff.1 ha).1
  have has := starts_get s i a ha
  have hst := stop_le s a has
  have Ha := hide ha
  clear ha
  go_enter Try.func24, Try.ntmps24
  go_wp2_with fail
  refine (starts20' s L HL.out _ hs).mono ?_
  rintro e w1 ⟨⟨ao, cap, rfl, hrd⟩, hb1⟩
  obtain ⟨q0, q1, _, _, hsz⟩ := two_new _ _ _ _ _ hb1
  have hb : Below w.heap.size w w1 := ((Below.refl _ _).alloc (Nat.le_refl _) _).trans (hb1.mono (by simp))
  have Hb := hide hb
  clear hb hb1
  obtain ⟨g, rfl, x, hx, hcx⟩ := hrd.at hi
  obtain ⟨a', ha', rfl⟩ := nums_get _ _ _ hx
  obtain rfl : a' = a := by rw [Ha.out] at ha'; exact (Option.some.inj ha').symm
  clear hx ha'
  by_cases hn : i + 1 < L
  · obtain ⟨g', hg', y, hy, hcy⟩ := hrd.at hn
    obtain rfl : g = g' := by simpa using hg'
    obtain ⟨b, hb', rfl⟩ := nums_get _ _ _ hy
    have hsb := starts_next s i a' b Ha.out hb'
    rw [hsb] at hst hco
    clear hsb hy hb' hrd hg'
    go_wp2
    go_ret2
    exact ⟨rfl, Hb.out⟩
  · have hsb := starts_lastone s i a' Ha.out (by rw [HL.out]; omega)
    rw [hsb] at hst hco
    clear hsb hrd
    go_wp2
    go_ret2
    exact ⟨rfl, Hb.out⟩

set_option maxHeartbeats 1600000 in
theorem off25_no (s : ByteArray) (ln col : Int) (w : World) (hs : s.size ≤ 100000) (h : NoOff s ln col) : Calls Try.prog 25 #[.string s, .agg #[.int .i64 ln, .int .i64 col]] w fun e w' => e = .returned (.tuple #[.int .i64 0, .bool false]) ∧ Below w.heap.size w w' := by
  obtain ⟨L, hLe⟩ : ∃ L, (starts s.data.toList s.size).length = L := ⟨_, rfl⟩
  have hL : L ≤ 100000 := by rw [← hLe]; exact Nat.le_trans (upto_len _ _) hs
  have HL := hide hLe
  unfold NoOff at h
  rw [hLe] at h
  clear hLe
  rcases h with h | h | ⟨i, a, rfl, ha, h⟩
  · go_enter Try.func25, Try.ntmps25
    go_wp2_with fail
    refine (starts21' s L HL.out _ hs).mono ?_
    rintro e w1 ⟨⟨ao, cap, rfl, hrd⟩, hb1⟩
    obtain ⟨q0, q1, _, _, hsz⟩ := two_new _ _ _ _ _ hb1
    have hb : Below w.heap.size w w1 := ((Below.refl _ _).alloc (Nat.le_refl _) _).trans (hb1.mono (by simp))
    have Hb := hide hb
    clear hb hb1
    go_wp2
    go_ret2
    exact ⟨rfl, Hb.out⟩
  · go_enter Try.func25, Try.ntmps25
    go_wp2_with fail
    refine (starts21' s L HL.out _ hs).mono ?_
    rintro e w1 ⟨⟨ao, cap, rfl, hrd⟩, hb1⟩
    obtain ⟨q0, q1, _, _, hsz⟩ := two_new _ _ _ _ _ hb1
    have hb : Below w.heap.size w w1 := ((Below.refl _ _).alloc (Nat.le_refl _) _).trans (hb1.mono (by simp))
    have Hb := hide hb
    clear hb hb1
    go_wp2
    go_ret2
    exact ⟨rfl, Hb.out⟩
  · have hi : i < L := by rw [← HL.out]; exact (List.getElem?_eq_some_iff.1 ha).1
    have has := starts_get s i a ha
    have hst := stop_le s a has
    have Ha := hide ha
    clear ha
    rcases (show col < 1 ∨ (1 ≤ col ∧ (stopN s.data.toList a : Int) - a < col) by omega) with hco | ⟨hc1, hco⟩
    · go_enter Try.func25, Try.ntmps25
      go_wp2_with fail
      refine (starts21' s L HL.out _ hs).mono ?_
      rintro e w1 ⟨⟨ao, cap, rfl, hrd⟩, hb1⟩
      obtain ⟨q0, q1, _, _, hsz⟩ := two_new _ _ _ _ _ hb1
      have hb : Below w.heap.size w w1 := ((Below.refl _ _).alloc (Nat.le_refl _) _).trans (hb1.mono (by simp))
      have Hb := hide hb
      clear hb hb1
      go_wp2
      go_ret2
      exact ⟨rfl, Hb.out⟩
    · go_enter Try.func25, Try.ntmps25
      go_wp2_with fail
      refine (starts21' s L HL.out _ hs).mono ?_
      rintro e w1 ⟨⟨ao, cap, rfl, hrd⟩, hb1⟩
      obtain ⟨q0, q1, _, _, hsz⟩ := two_new _ _ _ _ _ hb1
      have hb : Below w.heap.size w w1 := ((Below.refl _ _).alloc (Nat.le_refl _) _).trans (hb1.mono (by simp))
      have Hb := hide hb
      clear hb hb1
      obtain ⟨g, rfl, x, hx, hcx⟩ := hrd.at hi
      obtain ⟨a', ha', rfl⟩ := nums_get _ _ _ hx
      obtain rfl : a' = a := by rw [Ha.out] at ha'; exact (Option.some.inj ha').symm
      clear hx ha' hrd
      obtain ⟨b, hsb⟩ : ∃ b, stopN s.data.toList a' = b := ⟨_, rfl⟩
      rw [hsb] at hst hco
      have Hsb := hide hsb
      clear hsb
      go_wp2
      go_quiet ((go_at_call 36; exact quiet_left (stop36' s _ b _ hs (by omega) Hsb.out)))
      go_wp2
      go_ret2
      exact ⟨rfl, Hb.out.trans (Drawn.below ⟨_, rfl⟩ _)⟩

set_option maxHeartbeats 1600000 in
theorem off25 (s : ByteArray) (i a : Nat) (col : Int) (w : World) (hs : s.size ≤ 100000) (ha : (starts s.data.toList s.size)[i]? = some a) (hc1 : 1 ≤ col) (hco : col ≤ (stopN s.data.toList a : Int) - a) : Calls Try.prog 25 #[.string s, .agg #[.int .i64 ((i : Int) + 1), .int .i64 col]] w fun e w' => e = .returned (.tuple #[.int .i64 ((a : Int) + col - 1), .bool true]) ∧ Below w.heap.size w w' := by
  obtain ⟨L, hLe⟩ : ∃ L, (starts s.data.toList s.size).length = L := ⟨_, rfl⟩
  have hL : L ≤ 100000 := by rw [← hLe]; exact Nat.le_trans (upto_len _ _) hs
  have HL := hide hLe
  clear hLe
  have hi : i < L := by rw [← HL.out]; exact (List.getElem?_eq_some_iff.1 ha).1
  have has := starts_get s i a ha
  have hst := stop_le s a has
  have Ha := hide ha
  clear ha
  go_enter Try.func25, Try.ntmps25
  go_wp2_with fail
  refine (starts21' s L HL.out _ hs).mono ?_
  rintro e w1 ⟨⟨ao, cap, rfl, hrd⟩, hb1⟩
  obtain ⟨q0, q1, _, _, hsz⟩ := two_new _ _ _ _ _ hb1
  have hb : Below w.heap.size w w1 := ((Below.refl _ _).alloc (Nat.le_refl _) _).trans (hb1.mono (by simp))
  have Hb := hide hb
  clear hb hb1
  obtain ⟨g, rfl, x, hx, hcx⟩ := hrd.at hi
  obtain ⟨a', ha', rfl⟩ := nums_get _ _ _ hx
  obtain rfl : a' = a := by rw [Ha.out] at ha'; exact (Option.some.inj ha').symm
  clear hx ha' hrd
  obtain ⟨b, hsb⟩ : ∃ b, stopN s.data.toList a' = b := ⟨_, rfl⟩
  rw [hsb] at hst hco
  have Hsb := hide hsb
  clear hsb
  go_wp2
  go_quiet ((go_at_call 36; exact quiet_left (stop36' s _ b _ hs (by omega) Hsb.out)))
  go_wp2
  go_ret2
  exact ⟨rfl, Hb.out.trans (Drawn.below ⟨_, rfl⟩ _)⟩

end Go.Proofs.Ytniapakheegijaa
