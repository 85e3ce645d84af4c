/- Words of both. -/
import Derived.Test.YtniapakheegijaaW7
namespace Go.Proofs.Ytniapakheegijaa
open Go.RowKit

theorem wordN_int (c : UInt8) : wordN c = wordI (c.toNat : Int) := by
  unfold wordN wordI
  rw [Bool.eq_iff_iff]
  simp
  omega
theorem wordN_at (s : ByteArray) (k : Nat) (h : k < s.size) : wordN (s.data.toList.getD k 0) = wordI (s[k].toNat : Int) := by rw [getD_byte s k h, wordN_int]

theorem words_len (l : List UInt8) (k : Nat) : (words l k).length ≤ k := by
  unfold words
  rw [List.length_map]
  exact upto_len _ _

def AllW (s : ByteArray) (a k : Nat) : Prop := ∀ j, a ≤ j → j < k → wordN (s.data.toList.getD j 0) = true
theorem AllW.step {s : ByteArray} {a k : Nat} (h : AllW s a k) (hk : k < s.size) (hw : wordI (s[k].toNat : Int) = true) : AllW s a (k + 1) := by
  intro j h1 h2
  by_cases hj : j = k
  · subst hj; rw [wordN_at s j hk]; exact hw
  · exact h j h1 (by omega)
theorem AllW.stop {s : ByteArray} {a k : Nat} (h : AllW s a k) (hak : a ≤ k) (hk : k < s.size) (hw : wordI (s[k].toNat : Int) = false) : wordEnd s.data.toList a = k :=
  wordEnd_eq _ a k hak h (Or.inl ⟨by rw [size_list]; exact hk, by rw [wordN_at s k hk]; exact hw⟩)
theorem AllW.all {s : ByteArray} {a k : Nat} (h : AllW s a k) (hak : a ≤ k) (hk : k = s.size) : wordEnd s.data.toList a = k :=
  wordEnd_eq _ a k hak h (Or.inr (by rw [size_list]; exact hk))

def Fresh (s : ByteArray) (k : Nat) : Prop := k < s.size → isWs s.data.toList k = wordN (s.data.toList.getD k 0)
theorem Fresh.zero (s : ByteArray) : Fresh s 0 := fun _ => isWs_zero _
theorem fresh_skip {s : ByteArray} {k : Nat} (hk : k < s.size) (he : wordEnd s.data.toList k = k) : Fresh s (k + 1) := by
  intro _
  have := word_at s.data.toList k (by rw [he, size_list]; exact hk)
  rw [he] at this
  rw [isWs_succ, this]
  simp
theorem words_skip {s : ByteArray} {k : Nat} (h : Fresh s k) (hk : k < s.size) (he : wordEnd s.data.toList k = k) : words s.data.toList (min (k + 1) s.size) = words s.data.toList (min k s.size) := by
  have := word_at s.data.toList k (by rw [he, size_list]; exact hk)
  rw [he] at this
  rw [show min (k + 1) s.size = k + 1 by omega, show min k s.size = k by omega]
  unfold words
  rw [upto_no _ _ (by rw [h hk]; exact this)]
theorem fresh_word {s : ByteArray} {k e : Nat} (he : wordEnd s.data.toList k = e) : Fresh s (e + 1) := by
  intro hlt
  have := word_at s.data.toList k (by rw [he, size_list]; omega)
  rw [he] at this
  rw [isWs_succ, this]
  simp
theorem words_put {s : ByteArray} {k e : Nat} (h : Fresh s k) (hk : k < s.size) (hke : k < e) (he : wordEnd s.data.toList k = e) : words s.data.toList (min (e + 1) s.size) = words s.data.toList (min k s.size) ++ [(k, e)] := by
  have hw : isWs s.data.toList k = true := by
    rw [h hk]
    exact word_before s.data.toList k k (Nat.le_refl _) (by omega)
  have := words_word s.data.toList k (by rw [size_list]; exact hk) hw
  rw [he, size_list] at this
  rw [show min k s.size = k by omega]
  exact this

theorem c1_two (w : World) (x y : Value) (T : TypeId) : ∀ (j : Nat) (u : Value), [x, y][j]? = some u → (w.alloc (.cells #[x, y] T)).cell? ((⟨w.heap.size, 0, none⟩ : Addr).add j) = some u := by
  intro j u h
  match j, h with
  | 0, h =>
    simp at h
    subst h
    rw [addr0, World.cell?_alloc_mark]
    rfl
  | 1, h =>
    simp at h
    subst h
    rw [addr0, World.cell?_alloc_mark]
    rfl
theorem c2_two (k : IntKind) (n m : Int) : ∀ u ∈ [Value.int k n, Value.int k m], u.oneCell' = true := by
  intro u hu
  simp at hu
  rcases hu with hu | hu <;> (subst hu; rfl)

set_option maxHeartbeats 1600000 in
theorem words27 (s : ByteArray) (w : World) (hs : s.size ≤ 100000) : Calls Try.prog 27 #[.string s] w fun e w' => (∃ v, e = .returned v ∧ w'.ownsRow w.heap.size 42 2 v (words s.data.toList s.size).length (spans (words s.data.toList s.size))) ∧ Below w.heap.size w w' := by
  obtain ⟨i0, hi, hz0, hz1, hz2⟩ := info_parts Try.info42
  go_enter Try.func27, Try.ntmps27
  go_wp2
  go_loopw [3, 4] (fun v i wr => ∃ k : Nat, k ≤ s.size + 1 ∧ i = .int .i64 k ∧ Fresh s k ∧ wr.ownsRow w.heap.size 42 2 v (words s.data.toList (min k s.size)).length (spans (words s.data.toList (min k s.size))) ∧ Below w.heap.size w wr) (fun _ i _ => s.size + 1 - (intOf i).toNat)
  case atStart => exact ⟨0, Nat.zero_le _, rfl, Fresh.zero s, by simpa [words, upto, spans] using World.ownsRow_nil _ _ _ _, Below.refl _ _⟩
  case round =>
    obtain ⟨k, hk, rfl, hfr, hown, hnx⟩ := hrel
    have hle : (words s.data.toList (min k s.size)).length ≤ 100000 := Nat.le_trans (words_len _ _) (by omega)
    obtain ⟨wo, rfl⟩ : ∃ wo : World, wo = wr := ⟨_, rfl⟩
    by_cases hlt : k < s.size
    · have Hfr := hide hfr
      clear hfr
      go_wp2_with fail
      go_loop [5] (fun i => ∃ e : Nat, k ≤ e ∧ e ≤ s.size ∧ i = .int .i64 e ∧ AllW s k e) (fun i => s.size - (intOf i).toNat)
      case atStart => exact ⟨k, Nat.le_refl _, by omega, rfl, fun j h1 h2 => by omega⟩
      case round =>
        obtain ⟨e, hke, he, rfl, hall⟩ := hrel
        by_cases hes : e < s.size
        · have hbb : s[e].toNat < 256 := UInt8.toNat_lt _
          cases hw : wordI (s[e].toNat : Int)
          · have hwe := hall.stop hke hes hw
            have Hwe := hide hwe
            clear hwe hall
            by_cases hek : k < e
            · have hput := words_put Hfr.out hlt hek Hwe.out
              have Hput := hide hput
              clear hput
              go_wp2_with (first | (go_at_call 41; refine (word41 _ _ (by omega) (by omega)).mono ?_; rintro e' w' ⟨rfl, rfl⟩) | (at_builtin; refine wpList_append_own _ rfl (.tmp 28) (.tmp 32) 39 rfl w.heap.size 42 i0 (.agg #[.int .i64 0, .int .i64 0]) 2 16 Try.underlying39 hi hz0 hz1 hz2 rfl (by decide) _ _ _ rfl (hown.alloc _) ⟨wo.heap.size, 0, none⟩ 1 1 [.int .i64 (k : Int), .int .i64 (e : Int)] rfl rfl (c1_two _ _ _ _) (c2_two _ _ _) (by unfold maxLen; omega) (by omega) (c5_one _ _ _ hnx) ?_))
              intro v' w2 hown' hgrow _
              have hbel := below_app hnx hown hgrow
              have hown2 : w2.ownsRow w.heap.size 42 2 v' (words s.data.toList (min (e + 1) s.size)).length (spans (words s.data.toList (min (e + 1) s.size))) := by rw [Hput.out, List.length_append, spans_append]; exact hown'
              clear hown' hgrow hown
              go_wp2
              go_roundw
              case rel => exact ⟨e + 1, by omega, by go_num, fresh_word Hwe.out, hown2, hbel⟩
              case measure => simp [intOf]; omega
            · obtain rfl : k = e := by omega
              go_wp2_with (go_at_call 41; refine (word41 _ _ (by omega) (by omega)).mono ?_; rintro e' w' ⟨rfl, rfl⟩)
              go_roundw
              case rel => exact ⟨k + 1, by omega, by go_num, fresh_skip hlt Hwe.out, by rw [words_skip Hfr.out hlt Hwe.out]; exact hown, hnx⟩
              case measure => simp [intOf]; omega
          · have hnext := hall.step hes hw
            have Hnext := hide hnext
            clear hnext hall
            go_wp2_with (go_at_call 41; refine (word41 _ _ (by omega) (by omega)).mono ?_; rintro e' w' ⟨rfl, rfl⟩)
            go_round
            case rel => exact ⟨e + 1, by omega, by omega, by go_num, Hnext.out⟩
            case measure => simp [intOf]; omega
        · have hwe := hall.all hke (by omega)
          have Hwe := hide hwe
          clear hwe hall
          have hek : k < e := by omega
          have hput := words_put Hfr.out hlt hek Hwe.out
          have Hput := hide hput
          clear hput
          go_wp2_with (first | (go_at_call 41; refine (word41 _ _ (by omega) (by omega)).mono ?_; rintro e' w' ⟨rfl, rfl⟩) | (at_builtin; refine wpList_append_own _ rfl (.tmp 28) (.tmp 32) 39 rfl w.heap.size 42 i0 (.agg #[.int .i64 0, .int .i64 0]) 2 16 Try.underlying39 hi hz0 hz1 hz2 rfl (by decide) _ _ _ rfl (hown.alloc _) ⟨wo.heap.size, 0, none⟩ 1 1 [.int .i64 (k : Int), .int .i64 (e : Int)] rfl rfl (c1_two _ _ _ _) (c2_two _ _ _) (by unfold maxLen; omega) (by omega) (c5_one _ _ _ hnx) ?_))
          intro v' w2 hown' hgrow _
          have hbel := below_app hnx hown hgrow
          have hown2 : w2.ownsRow w.heap.size 42 2 v' (words s.data.toList (min (e + 1) s.size)).length (spans (words s.data.toList (min (e + 1) s.size))) := by rw [Hput.out, List.length_append, spans_append]; exact hown'
          clear hown' hgrow hown
          go_wp2
          go_roundw
          case rel => exact ⟨e + 1, by omega, by go_num, fresh_word Hwe.out, hown2, hbel⟩
          case measure => simp [intOf]; omega
    · go_wp2
      go_ret
      rw [show min k s.size = s.size by omega] at hown
      exact ⟨⟨_, rfl, hown⟩, hnx⟩

end Go.Proofs.Ytniapakheegijaa
