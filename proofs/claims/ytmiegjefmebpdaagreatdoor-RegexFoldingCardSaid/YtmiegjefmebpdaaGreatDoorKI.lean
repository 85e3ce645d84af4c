/- Walks of layer 8's reference: an escape's ranges, one byte of a set. -/
import Derived.Test.YtmiegjefmebpdaaGreatDoorKH
namespace Go.Proofs.YtmiegjefmebpdaaGreatDoor
open Go.RowKit

theorem ownR_lit (w : World) (cs : Array Value) (l : List (UInt8 × UInt8)) (n : Nat) (h : cs.toList = rgCells l) (hn : l.length = n) (hl : n ≤ 1000) : OwnR (w.alloc (.cells cs 48)) w.heap.size (.slice (some ⟨w.heap.size, 0, none⟩) n n) l := by
  subst hn
  have hc : cs.size = l.length * 2 := by rw [← Array.length_toList, h, rgCells_len]
  refine ⟨rgCells_len l, Or.inr ⟨w.heap.size, l.length, cs, rfl, Nat.le_refl _, heap_alloc_new w _, Nat.le_refl _, by unfold maxLen; omega, hc, ?_⟩⟩
  rw [h, List.take_of_length_le (by rw [rgCells_len]; exact Nat.le_refl _)]
theorem OwnR.nil (w : World) (B : Nat) : OwnR w B (.slice none 0 0) [] := World.ownsRow_nil _ _ _ _
/-- Ranges, or none. -/
def GotE (w : World) (o : Option (List (UInt8 × UInt8))) (e : Ending) (w' : World) : Prop := ∃ v, e = .returned (.tuple #[v, .bool o.isSome]) ∧ OwnR w' w.heap.size v (o.getD []) ∧ Below w.heap.size w w'
theorem special_bs : (⟨#[92, 46, 42, 43, 63, 40, 41, 91, 93, 123, 125, 124, 94, 36]⟩ : ByteArray).data.toList = special := rfl
theorem inset_bs : (⟨#[92, 91, 93, 94, 45]⟩ : ByteArray).data.toList = inSet := rfl

set_option maxRecDepth 20000 in
set_option maxHeartbeats 1600000 in
theorem escape105 (c : UInt8) (o : Option (List (UInt8 × UInt8))) (ho : escapeS c = o) (w : World) : Calls Tryz.prog 105 #[.int .u8 (c.toNat : Int)] w (GotE w o) := by
  have e110 : ((c.toNat : Int) == 110) = decide (c = 110) := u8_eq rfl
  have e116 : ((c.toNat : Int) == 116) = decide (c = 116) := u8_eq rfl
  have e100 : ((c.toNat : Int) == 100) = decide (c = 100) := u8_eq rfl
  have e119 : ((c.toNat : Int) == 119) = decide (c = 119) := u8_eq rfl
  have e45 : ((c.toNat : Int) == 45) = decide (c = 45) := u8_eq rfl
  unfold escapeS at ho
  by_cases h0 : c = 110
  · rw [if_pos h0] at ho
    subst ho
    rw [decide_eq_true h0] at e110
    have L := hide (ownR_lit w #[.int .u8 10, .int .u8 10] [(10, 10)] 1 rfl rfl (by decide))
    clear e116 e100 e119 e45 h0
    go_enter Tryz.func105, Tryz.ntmps105
    go_wp2
    go_ret2
    exact ⟨_, rfl, L.out, bnew (Below.refl _ _) _⟩
  rw [if_neg h0] at ho
  rw [decide_eq_false h0] at e110
  by_cases h1 : c = 116
  · rw [if_pos h1] at ho
    subst ho
    rw [decide_eq_true h1] at e116
    have L := hide (ownR_lit w #[.int .u8 9, .int .u8 9] [(9, 9)] 1 rfl rfl (by decide))
    clear e100 e119 e45 h0 h1
    go_enter Tryz.func105, Tryz.ntmps105
    go_wp2
    go_ret2
    exact ⟨_, rfl, L.out, bnew (Below.refl _ _) _⟩
  rw [if_neg h1] at ho
  rw [decide_eq_false h1] at e116
  by_cases h2 : c = 100
  · rw [if_pos h2] at ho
    subst ho
    rw [decide_eq_true h2] at e100
    have L := hide (ownR_lit w #[.int .u8 48, .int .u8 57] [(48, 57)] 1 rfl rfl (by decide))
    clear e119 e45 h0 h1 h2
    go_enter Tryz.func105, Tryz.ntmps105
    go_wp2
    go_ret2
    exact ⟨_, rfl, L.out, bnew (Below.refl _ _) _⟩
  rw [if_neg h2] at ho
  rw [decide_eq_false h2] at e100
  by_cases h3 : c = 119
  · rw [if_pos h3] at ho
    subst ho
    rw [decide_eq_true h3] at e119
    have L := hide (ownR_lit w #[.int .u8 48, .int .u8 57, .int .u8 65, .int .u8 90, .int .u8 95, .int .u8 95, .int .u8 97, .int .u8 122] [(48, 57), (65, 90), (95, 95), (97, 122)] 4 rfl rfl (by decide))
    clear e45 h0 h1 h2 h3
    go_enter Tryz.func105, Tryz.ntmps105
    go_wp2
    go_ret2
    exact ⟨_, rfl, L.out, bnew (Below.refl _ _) _⟩
  rw [if_neg h3] at ho
  rw [decide_eq_false h3] at e119
  have L := hide (ownR_lit w #[.int .u8 (c.toNat : Int), .int .u8 (c.toNat : Int)] [(c, c)] 1 rfl rfl (by decide))
  by_cases h4 : c = 45
  · rw [if_pos (Or.inl h4)] at ho
    subst ho
    rw [decide_eq_true h4] at e45
    clear h0 h1 h2 h3 h4
    go_enter Tryz.func105, Tryz.ntmps105
    go_wp2
    go_ret2
    exact ⟨_, rfl, L.out, bnew (Below.refl _ _) _⟩
  rw [decide_eq_false h4] at e45
  by_cases h5 : c ∈ special
  · rw [if_pos (Or.inr h5)] at ho
    subst ho
    have H := hide (intext99 ⟨#[92, 46, 42, 43, 63, 40, 41, 91, 93, 123, 125, 124, 94, 36]⟩ c true (by rw [special_bs]; exact decide_eq_true h5))
    clear h0 h1 h2 h3 h4 h5
    go_enter Tryz.func105, Tryz.ntmps105
    go_wp2_with (first | (go_at_call 99; refine (H.out _ (by decide)).mono ?_; rintro e w' ⟨rfl, rfl⟩) | fail)
    go_ret2
    exact ⟨_, rfl, L.out, bnew (Below.refl _ _) _⟩
  · rw [if_neg (by simp [h4, h5])] at ho
    subst ho
    have H := hide (intext99 ⟨#[92, 46, 42, 43, 63, 40, 41, 91, 93, 123, 125, 124, 94, 36]⟩ c false (by rw [special_bs]; exact decide_eq_false h5))
    clear h0 h1 h2 h3 h4 h5
    go_enter Tryz.func105, Tryz.ntmps105
    go_wp2_with (first | (go_at_call 99; refine (H.out _ (by decide)).mono ?_; rintro e w' ⟨rfl, rfl⟩) | fail)
    go_ret2
    exact ⟨_, rfl, OwnR.nil _ _, Below.refl _ _⟩

theorem drop_cons {s : ByteArray} {k : Nat} (h : k < s.size) : s.data.toList.drop k = s[k] :: s.data.toList.drop (k + 1) := by
  have hl := size_list s
  rw [List.drop_eq_getElem_cons (by omega)]
  rfl
theorem drop_len (s : ByteArray) (k : Nat) : (s.data.toList.drop k).length = s.size - k := by rw [List.length_drop, size_list]
theorem drop_end {s : ByteArray} {k : Nat} (h : s.size ≤ k) : s.data.toList.drop k = [] := List.drop_of_length_le (by rw [size_list]; exact h)
/-- The offset behind what was read; -1 if nothing was. -/
def offO (s : ByteArray) {α : Type} (o : Option (α × List UInt8)) : Int := match o with | none => -1 | some p => (s.size : Int) - p.2.length
/-- Ranges and the offset behind them. -/
def GotO (s : ByteArray) (w : World) (o : Option (List (UInt8 × UInt8) × List UInt8)) (e : Ending) (w' : World) : Prop :=
  ∃ v, e = .returned (.tuple #[v, .int .i64 (offO s o)]) ∧ OwnR w' w.heap.size v (match o with | none => [] | some p => p.1) ∧ Below w.heap.size w w'
theorem offO_at (s : ByteArray) (k : Nat) (h : k ≤ s.size) {α : Type} (x : α) : offO s (some (x, s.data.toList.drop k)) = (k : Int) := by
  show (s.size : Int) - ((s.data.toList.drop k).length : Nat) = _
  rw [drop_len]
  omega

set_option maxRecDepth 20000 in
set_option maxHeartbeats 3200000 in
theorem one118 (s : ByteArray) (k : Nat) (hk : k ≤ s.size) (hs : s.size ≤ 100000) (o : Option (List (UInt8 × UInt8) × List UInt8)) (ho : oneS (s.data.toList.drop k) = o) (w : World) :
    Calls Tryz.prog 118 #[.string s, .int .i64 (k : Int)] w (GotO s w o) := by
  by_cases hlt : k < s.size
  · have hd := drop_cons hlt
    rw [hd] at ho
    have hge : decide ((k : Int) ≥ (s.size : Int)) = false := decide_eq_false (by omega)
    have hge' : decide (s.size ≤ k) = false := decide_eq_false (by omega)
    have hk0 : (0 : Int) ≤ (k : Int) := by omega
    have hk1 : (k : Int) < (s.size : Int) := by omega
    obtain ⟨c, hc⟩ : ∃ c, s[k] = c := ⟨_, rfl⟩
    rw [hc] at ho
    have hb : c.toNat < 256 := c.toNat_lt
    have hlo : (c < 32) ↔ c.toNat < 32 := by rw [UInt8.lt_iff_toNat_lt]; exact Iff.rfl
    have hhi : (126 < c) ↔ 126 < c.toNat := by rw [UInt8.lt_iff_toNat_lt]; exact Iff.rfl
    unfold oneS at ho
    dsimp only at ho
    clear hd
    by_cases h1 : c < 32 ∨ 126 < c
    · rw [if_pos h1] at ho
      subst ho
      rw [hlo, hhi] at h1
      by_cases h2 : c.toNat < 32
      · have d1 : decide ((c.toNat : Int) < 32) = true := decide_eq_true (by omega)
        clear h1 hlo hhi
        go_enter Tryz.func118, Tryz.ntmps118
        go_wp2
        go_ret2
        exact ⟨_, rfl, OwnR.nil _ _, Below.refl _ _⟩
      · have d1 : decide ((c.toNat : Int) < 32) = false := decide_eq_false (by omega)
        have d2 : decide ((126 : Int) < (c.toNat : Int)) = true := decide_eq_true (by omega)
        clear h1 hlo hhi
        go_enter Tryz.func118, Tryz.ntmps118
        go_wp2
        go_ret2
        exact ⟨_, rfl, OwnR.nil _ _, Below.refl _ _⟩
    · rw [if_neg h1] at ho
      rw [hlo, hhi] at h1
      have d1 : decide ((c.toNat : Int) < 32) = false := decide_eq_false (by omega)
      have d2 : decide ((126 : Int) < (c.toNat : Int)) = false := decide_eq_false (by omega)
      clear h1 hlo hhi
      by_cases h92 : c = 92
      · have e92 : ((c.toNat : Int) == 92) = true := by rw [h92]; rfl
        rw [if_pos h92] at ho
        by_cases h2 : k + 1 < s.size
        · have hd2 := drop_cons h2
          rw [hd2] at ho
          have hg2 : decide ((k : Int) + 1 ≥ (s.size : Int)) = false := decide_eq_false (by omega)
          have hk2 : (k : Int) + 1 < (s.size : Int) := by omega
          obtain ⟨d, hdd⟩ : ∃ d, s[k + 1] = d := ⟨_, rfl⟩
          rw [hdd] at ho
          simp only at ho
          cases hE : escapeS d with
          | none =>
            rw [hE] at ho
            subst ho
            have HE := hide (escape105 d none hE)
            clear hE hd2 h92
            go_enter Tryz.func118, Tryz.ntmps118
            go_wp2_with fail
            with_reducible refine (HE.out _).mono ?_
            rintro e w1 ⟨v1, rfl, -, hb1⟩
            have B1 := hide hb1
            clear hb1
            go_wp2
            go_ret2
            exact ⟨_, rfl, OwnR.nil _ _, B1.out⟩
          | some x =>
            rw [hE] at ho
            subst ho
            have HE := hide (escape105 d (some x) hE)
            have Ho := hide (offO_at s (k + 1 + 1) (by omega) x)
            have hsm : (k : Int) + 2 ≤ 100001 := by omega
            clear hE hd2 h92
            go_enter Tryz.func118, Tryz.ntmps118
            go_wp2_with fail
            with_reducible refine (HE.out _).mono ?_
            rintro e w1 ⟨v1, rfl, ho1, hb1⟩
            have B1 := hide hb1
            have O1 := hide ho1
            clear hb1 ho1
            go_wp2
            go_ret2
            exact ⟨_, by rw [Ho.out]; rfl, O1.out, B1.out⟩
        · have hd2 := drop_end (s := s) (k := k + 1) (by omega)
          rw [hd2] at ho
          subst ho
          have hg2 : decide ((k : Int) + 1 ≥ (s.size : Int)) = true := decide_eq_true (by omega)
          clear hd2 h92
          go_enter Tryz.func118, Tryz.ntmps118
          go_wp2
          go_ret2
          exact ⟨_, rfl, OwnR.nil _ _, Below.refl _ _⟩
      · have e92 : ((c.toNat : Int) == 92) = false := (u8_eq (n := 92) (z := 92) rfl).trans (decide_eq_false h92)
        rw [if_neg h92] at ho
        by_cases hin : c ∈ inSet
        · rw [if_pos hin] at ho
          subst ho
          have H := hide (intext99 ⟨#[92, 91, 93, 94, 45]⟩ c true (by rw [inset_bs]; exact decide_eq_true hin))
          clear h92 hin
          go_enter Tryz.func118, Tryz.ntmps118
          go_wp2_with (first | (go_at_call 99; refine (H.out _ (by decide)).mono ?_; rintro e w' ⟨rfl, rfl⟩) | fail)
          go_ret2
          exact ⟨_, rfl, OwnR.nil _ _, Below.refl _ _⟩
        · rw [if_neg hin] at ho
          subst ho
          have H := hide (intext99 ⟨#[92, 91, 93, 94, 45]⟩ c false (by rw [inset_bs]; exact decide_eq_false hin))
          have L := hide (ownR_lit w #[.int .u8 (c.toNat : Int), .int .u8 (c.toNat : Int)] [(c, c)] 1 rfl rfl (by decide))
          have L' := hide (OwnR.below L.out (Drawn.below ⟨1, rfl⟩ _ : Below (w.alloc (.cells #[.int .u8 (c.toNat : Int), .int .u8 (c.toNat : Int)] 48)).heap.size (w.alloc (.cells #[.int .u8 (c.toNat : Int), .int .u8 (c.toNat : Int)] 48)) (w.alloc (.cells #[.int .u8 (c.toNat : Int), .int .u8 (c.toNat : Int)] 48)).drew))
          have Ho := hide (offO_at s (k + 1) (by omega) [(c, c)])
          clear h92 hin
          go_enter Tryz.func118, Tryz.ntmps118
          go_wp2_with (first | (go_at_call 99; refine (H.out _ (by decide)).mono ?_; rintro e w' ⟨rfl, rfl⟩) | fail)
          go_region
          all_goals
            go_wp2
            go_ret2
            exact ⟨_, by rw [Ho.out]; rfl, L'.out, (bnew (Below.refl _ w) _).trans (Drawn.below ⟨1, rfl⟩ _)⟩
  · have hd := drop_end (s := s) (k := k) (by omega)
    rw [hd] at ho
    subst ho
    have hge : decide ((k : Int) ≥ (s.size : Int)) = true := decide_eq_true (by omega)
    clear hd
    go_enter Tryz.func118, Tryz.ntmps118
    go_wp2
    go_ret2
    exact ⟨_, rfl, OwnR.nil _ _, Below.refl _ _⟩

end Go.Proofs.YtmiegjefmebpdaaGreatDoor
