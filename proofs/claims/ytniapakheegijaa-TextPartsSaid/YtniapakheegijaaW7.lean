/- Lines of the reference; Words of both. -/
import Derived.Test.YtniapakheegijaaW6
namespace Go.Proofs.Ytniapakheegijaa
open Go.RowKit

theorem stop36' (s : ByteArray) (a e : Nat) (w : World) (hs : s.size ≤ 100000) (ha : a ≤ s.size) (he : stopN s.data.toList a = e) : Calls Try.prog 36 #[.string s, .int .i64 a] w fun e' w' => e' = .returned (.int .i64 (e : Nat)) ∧ w = w' := by
  subst he
  exact stop36 s a w hs ha

theorem starts_get (s : ByteArray) (k a : Nat) (h : (starts s.data.toList s.size)[k]? = some a) : a < s.size := (upto_idx _ _ _ _ h).2.2

/-- Where the line that begins at a ends. -/
theorem line_cases (s : ByteArray) (a : Nat) (ha : a < s.size) :
    (∃ q, a ≤ q ∧ ∃ hq : q < s.size, lineEnd s.data.toList a = q ∧ stopN s.data.toList a = q + 1 ∧ s[q].toNat = 10) ∨
    (lineEnd s.data.toList a = s.size ∧ stopN s.data.toList a = s.size ∧ ∃ h : s.size - 1 < s.size, ¬ (s[s.size - 1]'h).toNat = 10) := by
  have hle := lineEnd_le s.data.toList a (by rw [size_list]; omega)
  have hge := le_lineEnd s.data.toList a
  rw [size_list] at hle
  by_cases h : lineEnd s.data.toList a < s.size
  · refine Or.inl ⟨lineEnd s.data.toList a, hge, h, rfl, ?_, ?_⟩
    · unfold stopN; rw [size_list]; omega
    · have := line_at s.data.toList a (by rw [size_list]; exact h)
      rw [getD_byte s _ h] at this
      exact (byte_nl _).1 this
  · refine Or.inr ⟨by omega, by unfold stopN; rw [size_list]; omega, by omega, fun hc => ?_⟩
    exact line_before s.data.toList a (s.size - 1) (by omega) (by omega) (nl_yes s _ (by omega) hc)

theorem strs_take (s : ByteArray) (k a : Nat) (h : (starts s.data.toList s.size)[k]? = some a) : (strs s s.size).take (k + 1) = (strs s s.size).take k ++ [.string (lineStr s a)] := by
  have hk := (List.getElem?_eq_some_iff.1 h).1
  rw [List.take_succ_eq_append_getElem (by unfold strs; simpa using hk)]
  congr 2
  unfold strs
  rw [List.getElem_map, (List.getElem?_eq_some_iff.1 h).2]

/-- The slice of n elements of sz cells at ao reads as xs. -/
def RdS (w : World) (ao : Option Addr) (n cap sz : Nat) (xs : List Value) : Prop :=
  xs.length = n * sz ∧ n ≤ cap ∧ (0 < n → ∃ g, ao = some ⟨g, 0, none⟩ ∧ g < w.heap.size ∧ ∀ j, j < n * sz → w.cell? ⟨g, j, none⟩ = xs[j]?)
theorem Rd.s {w : World} {v : Value} {n sz : Nat} {xs : List Value} (h : Rd w v n sz xs) : ∃ ao cap, v = .slice ao n cap ∧ RdS w ao n cap sz xs := by
  obtain ⟨h1, ao, cap, hv, h2⟩ := h
  exact ⟨ao, cap, hv, h1, h2⟩
theorem RdS.rd {w : World} {ao : Option Addr} {n cap sz : Nat} {xs : List Value} (h : RdS w ao n cap sz xs) : Rd w (.slice ao n cap) n sz xs := ⟨h.1, ao, cap, rfl, h.2⟩
theorem RdS.below {w w' : World} {ao : Option Addr} {n cap sz : Nat} {xs : List Value} (h : RdS w ao n cap sz xs) (hb : Below w.heap.size w w') : RdS w' ao n cap sz xs := by
  obtain ⟨ao', cap', hv, h'⟩ := (h.rd.below hb).s
  simp at hv
  obtain ⟨rfl, rfl⟩ := hv
  exact h'
theorem RdS.at {w : World} {ao : Option Addr} {n cap : Nat} {xs : List Value} (h : RdS w ao n cap 1 xs) {k : Nat} (hk : k < n) : ∃ g, ao = some ⟨g, 0, none⟩ ∧ ∃ x, xs[k]? = some x ∧ w.cell? ⟨g, k, none⟩ = some x := by
  obtain ⟨g, hg, _, hc⟩ := h.2.2 (by omega)
  have hx : k < xs.length := by have := h.1; omega
  exact ⟨g, hg, xs[k], List.getElem?_eq_getElem hx, (hc k (by omega)).trans (List.getElem?_eq_getElem hx)⟩

theorem starts21' (s : ByteArray) (L : Nat) (hL : (starts s.data.toList s.size).length = L) (w : World) (hs : s.size ≤ 100000) :
    Calls Try.prog 21 #[.string s] w fun e w' => (∃ ao cap, e = .returned (.slice ao L cap) ∧ RdS w' ao L cap 1 (nums (starts s.data.toList s.size))) ∧ Below w.heap.size w w' := by
  subst hL
  refine (starts21 s w hs).mono ?_
  rintro e w1 ⟨⟨v, rfl, hown⟩, hb⟩
  obtain ⟨ao, cap, rfl, h⟩ := (Rd.of_owns hown).s
  exact ⟨⟨ao, cap, rfl, h⟩, hb⟩

theorem nums_get (l : List Nat) (k : Nat) (x : Value) (h : (nums l)[k]? = some x) : ∃ a, l[k]? = some a ∧ x = .int .i64 (a : Int) := by
  unfold nums at h
  rw [List.getElem?_map] at h
  cases hl : l[k]? with
  | none => rw [hl] at h; simp at h
  | some a => rw [hl] at h; simp at h; exact ⟨a, rfl, h.symm⟩

set_option maxHeartbeats 1600000 in
theorem lines18 (s : ByteArray) (w : World) (hs : s.size ≤ 100000) : Calls Try.prog 18 #[.string s] w fun e w' => (∃ v, e = .returned v ∧ w'.ownsRow w.heap.size 9 1 v (starts s.data.toList s.size).length (strs s s.size)) ∧ Below w.heap.size w w' := by
  obtain ⟨i0, hi, hz0, hz1, hz2⟩ := info_parts Try.info9
  obtain ⟨L, hLe⟩ : ∃ L, (starts s.data.toList s.size).length = L := ⟨_, rfl⟩
  have hL : L ≤ 100000 := by rw [← hLe]; exact Nat.le_trans (upto_len _ _) hs
  have HL := hide hLe
  clear hLe
  go_enter Try.func18, Try.ntmps18
  go_wp2_with fail
  refine (starts21' s L HL.out _ hs).mono ?_
  rintro e w1 ⟨⟨ao, cap, rfl, hrd⟩, hb1⟩
  have hsz1 := hb1.size
  go_wp2
  go_loopw [3, 5] (fun v i wr => ∃ k : Nat, k ≤ L ∧ i = .int .i64 k ∧ wr.ownsRow w1.heap.size 9 1 v k ((strs s s.size).take k) ∧ Below w1.heap.size w1 wr) (fun _ i _ => L - (intOf i).toNat)
  case atStart => exact ⟨0, Nat.zero_le _, rfl, World.ownsRow_nil _ _ _ _, Below.refl _ _⟩
  case round =>
    obtain ⟨k, hk, rfl, hown, hbw⟩ := hrel
    by_cases hlt : k < L
    · obtain ⟨g, rfl, x, hx, hcx⟩ := (hrd.below hbw).at hlt
      obtain ⟨a, ha, rfl⟩ := nums_get _ _ _ hx
      have has := starts_get s k a ha
      have hst := strs_take s k a ha
      have Hst := hide hst
      clear hx ha hst
      rcases line_cases s a has with ⟨q, haq, hq, h1, h2, h3⟩ | ⟨h1, h2, hp, h3⟩
      · have hb : ((s[q].toNat : Int) == 10) = true := by simp [h3]
        have H1 := hide h1
        have H2 := hide h2
        clear h1 h2 h3
        go_wp2_with (first | (go_at_call 36; refine (stop36' s _ (q + 1) _ hs (by omega) H2.out).mono ?_; rintro e w' ⟨rfl, rfl⟩) | (at_builtin; refine wpList_append_own _ rfl (.tmp 28) (.tmp 36) 26 rfl w1.heap.size 9 i0 (.string ⟨#[]⟩) 1 16 Try.underlying26 hi hz0 hz1 hz2 rfl (by decide) _ _ _ rfl (hown.alloc _) ⟨wr.heap.size, 0, none⟩ 1 1 [.string (s.extract a q)] rfl rfl (c1_one _ _ _) (c2_str _) (by unfold maxLen; omega) (by omega) (c5_one _ _ _ hbw) ?_))
        intro v' w2 hown' hgrow _
        have hbel := below_app hbw hown hgrow
        have hown2 : w2.ownsRow w1.heap.size 9 1 v' (k + 1) ((strs s s.size).take (k + 1)) := by rw [Hst.out, lineStr, H1.out]; exact hown'
        clear hown' hgrow hown
        go_wp2
        go_roundw
        case rel => exact ⟨k + 1, by omega, by go_num, hown2, hbel⟩
        case measure => simp [intOf]; omega
      · have hb : ((s[s.size - 1].toNat : Int) == 10) = false := by simp; omega
        have H1 := hide h1
        have H2 := hide h2
        clear h1 h2 h3
        go_wp2_with (first | (go_at_call 36; refine (stop36' s _ s.size _ hs (by omega) H2.out).mono ?_; rintro e w' ⟨rfl, rfl⟩) | (at_builtin; refine wpList_append_own _ rfl (.tmp 28) (.tmp 36) 26 rfl w1.heap.size 9 i0 (.string ⟨#[]⟩) 1 16 Try.underlying26 hi hz0 hz1 hz2 rfl (by decide) _ _ _ rfl (hown.alloc _) ⟨wr.heap.size, 0, none⟩ 1 1 [.string (s.extract a s.size)] rfl rfl (c1_one _ _ _) (c2_str _) (by unfold maxLen; omega) (by omega) (c5_one _ _ _ hbw) ?_))
        intro v' w2 hown' hgrow _
        have hbel := below_app hbw hown hgrow
        have hown2 : w2.ownsRow w1.heap.size 9 1 v' (k + 1) ((strs s s.size).take (k + 1)) := by rw [Hst.out, lineStr, H1.out]; exact hown'
        clear hown' hgrow hown
        go_wp2
        go_roundw
        case rel => exact ⟨k + 1, by omega, by go_num, hown2, hbel⟩
        case measure => simp [intOf]; omega
    · obtain rfl : k = L := by omega
      go_wp2
      go_ret
      have h1 := HL.out
      rw [h1]
      rw [List.take_of_length_le (by simp [strs, h1])] at hown
      exact ⟨⟨_, rfl, owns_mono hown hsz1⟩, hb1.trans (hbw.mono hsz1)⟩

end Go.Proofs.Ytniapakheegijaa
