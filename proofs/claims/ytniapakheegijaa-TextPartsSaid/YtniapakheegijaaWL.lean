/- At and Off invert each other. -/
import Derived.Test.YtniapakheegijaaWK
namespace Go.Proofs.Ytniapakheegijaa
open Go.RowKit

theorem last_clear (l : List UInt8) : ∀ k j, lastStart l k ≤ j → j < k → l.getD j 0 ≠ 10 := by
  intro k
  induction k with
  | zero => intro j _ h; omega
  | succ k ih =>
    intro j h1 h2
    unfold lastStart at h1
    split at h1
    · omega
    · rename_i hc
      by_cases hj : j = k
      · subst hj; exact hc
      · exact ih j h1 (by omega)

theorem lt_stop (l : List UInt8) (k : Nat) (hk : k < l.length) : k < stopN l (lastStart l k) := by
  have h1 := lastStart_le l k
  have h2 : k ≤ lineEnd l (lastStart l k) := by
    rcases Nat.lt_or_ge (lineEnd l (lastStart l k)) k with h | h
    · exact absurd (line_at l (lastStart l k) (by omega)) (last_clear l k _ (le_lineEnd l _) h)
    · exact h
  unfold stopN
  omega

theorem lastStart_start (l : List UInt8) (a : Nat) (h : isStart l a = true) : lastStart l a = a := by
  cases a with
  | zero => rfl
  | succ a =>
    rw [isStart_succ] at h
    rw [lastStart, if_pos (by simpa using h)]

theorem lastStart_in (l : List UInt8) (a : Nat) (h : isStart l a = true) : ∀ m, a + m ≤ lineEnd l a → lastStart l (a + m) = a := by
  intro m
  induction m with
  | zero => intro _; exact lastStart_start l a h
  | succ m ih =>
    intro hm
    rw [← Nat.add_assoc, lastStart, if_neg (line_before l a (a + m) (by omega) (by omega))]
    exact ih (by omega)

theorem pos_back (s : ByteArray) (i a m : Nat) (h : (starts s.data.toList s.size)[i]? = some a) (h1 : a ≤ m) (h2 : m < stopN s.data.toList a) : lineNo s.data.toList m = i ∧ lastStart s.data.toList m = a := by
  obtain ⟨hi, hp, ha⟩ := upto_idx _ _ _ _ h
  have hst := (stop_le s a ha).2
  have hle : m ≤ lineEnd s.data.toList a := by unfold stopN at h2; omega
  have hl : lastStart s.data.toList m = a := by
    have := lastStart_in s.data.toList a hp (m - a) (by omega)
    rwa [show a + (m - a) = m by omega] at this
  refine ⟨?_, hl⟩
  have h3 := starts_at s.data.toList m (by rw [size_list]; omega)
  rw [size_list, hl] at h3
  rw [hi]
  exact (upto_idx _ _ _ _ h3).1

def posL (s : ByteArray) (k : Nat) : Int := (lineNo s.data.toList k : Nat) + 1
def posC (s : ByteArray) (k : Nat) : Int := (k : Int) - (lastStart s.data.toList k : Nat) + 1
def prevL (s : ByteArray) : Nat → Int
  | 0 => 0
  | k + 1 => posL s k
def prevC (s : ByteArray) : Nat → Int
  | 0 => 0
  | k + 1 => posC s k

theorem pos_grow (s : ByteArray) (k : Nat) (hk : k < s.size) : prevL s k < posL s k ∨ (posL s k = prevL s k ∧ prevC s k < posC s k) := by
  cases k with
  | zero =>
    left
    show (0 : Int) < posL s 0
    unfold posL
    omega
  | succ k =>
    have hn := lineNo_succ s.data.toList k (by rw [size_list]; omega)
    show posL s k < posL s (k + 1) ∨ (posL s (k + 1) = posL s k ∧ posC s k < posC s (k + 1))
    unfold posL posC
    by_cases hc : s.data.toList.getD k 0 = 10
    · rw [if_pos hc] at hn; left; omega
    · rw [if_neg hc] at hn
      right
      rw [hn, lastStart, if_neg hc]
      omega

theorem at22p (s : ByteArray) (k : Nat) (w : World) (hs : s.size ≤ 100000) (hk : k < s.size) : Calls Try.prog 22 #[.string s, .int .i64 k] w fun e w' => e = .returned (.tuple #[.agg #[.int .i64 (posL s k), .int .i64 (posC s k)], .bool true]) ∧ Below w.heap.size w w' :=
  at22 s k w hs hk

theorem off24p (s : ByteArray) (k : Nat) (w : World) (hs : s.size ≤ 100000) (hk : k < s.size) : Calls Try.prog 24 #[.string s, .agg #[.int .i64 (posL s k), .int .i64 (posC s k)]] w fun e w' => e = .returned (.tuple #[.int .i64 k, .bool true]) ∧ Below w.heap.size w w' := by
  have h1 := starts_at s.data.toList k (by rw [size_list]; exact hk)
  rw [size_list] at h1
  have h2 := lt_stop s.data.toList k (by rw [size_list]; exact hk)
  have h3 := lastStart_le s.data.toList k
  refine (off24 s _ _ (posC s k) w hs h1 (by unfold posC; omega) (by unfold posC; omega)).mono ?_
  rintro e w' ⟨he, hb⟩
  refine ⟨?_, hb⟩
  rw [he, show ((lastStart s.data.toList k : Nat) : Int) + posC s k - 1 = (k : Int) by unfold posC; omega]

/-- A position that has a byte is that of its offset. -/
theorem off24q (s : ByteArray) (ln col : Int) (hs : s.size ≤ 100000) :
    (∀ w, Calls Try.prog 24 #[.string s, .agg #[.int .i64 ln, .int .i64 col]] w fun e w' => e = .returned (.tuple #[.int .i64 0, .bool false]) ∧ Below w.heap.size w w') ∨
    (∃ m : Nat, m < s.size ∧ posL s m = ln ∧ posC s m = col ∧ ∀ w, Calls Try.prog 24 #[.string s, .agg #[.int .i64 ln, .int .i64 col]] w fun e w' => e = .returned (.tuple #[.int .i64 m, .bool true]) ∧ Below w.heap.size w w') := by
  rcases off_cases s ln col with h | ⟨i, a, rfl, ha, h1, h2⟩
  · exact Or.inl fun w => off24_no s ln col w hs h
  · right
    have has := starts_get s i a ha
    have hst := (stop_le s a has).2
    obtain ⟨m, hm⟩ : ∃ m : Nat, (a : Int) + col - 1 = m := ⟨((a : Int) + col - 1).toNat, by omega⟩
    obtain ⟨h3, h4⟩ := pos_back s i a m ha (by omega) (by omega)
    refine ⟨m, by omega, by unfold posL; rw [h3], by unfold posC; rw [h4]; omega, fun w => ?_⟩
    rw [← hm]
    exact off24 s i a col w hs ha h1 h2

/-- Block b holds the two cells x and y, and may be written. -/
def TwoF (w : World) (b : Nat) (x y : Value) : Prop := Two w b x y ∧ w.frozen? ⟨b, 0, none⟩ = false ∧ w.frozen? ⟨b, 1, none⟩ = false
theorem TwoF.keep {w w' : World} {b : Nat} {x y : Value} (h : TwoF w b x y) (hb : Below w.heap.size w w') : TwoF w' b x y :=
  ⟨h.1.keep hb, (hb.frozen (p := ⟨b, 0, none⟩) h.1.1).trans h.2.1, (hb.frozen (p := ⟨b, 1, none⟩) h.1.1).trans h.2.2⟩
theorem twoF_alloc (w : World) (x y : Value) (T : TypeId) : TwoF (w.alloc (.cells #[x, y] T)) w.heap.size x y :=
  ⟨two_alloc w x y T, by rw [World.frozen?_alloc_mark]; simp, by rw [World.frozen?_alloc_mark]; simp⟩
theorem TwoF.put {w : World} {b : Nat} {x y : Value} (h : TwoF w b x y) (u v : Value) : TwoF ((w.setCell ⟨b, 0, none⟩ u).setCell ⟨b, 1, none⟩ v) b u v := by
  obtain ⟨⟨h0, h1, h2⟩, f0, f1⟩ := h
  refine ⟨⟨by simpa [World.setCell] using h0, ?_, ?_⟩, by simpa using f0, by simpa using f1⟩
  · rw [World.cell?_setCell_other _ _ _ _ (fun e => absurd (congrArg Addr.off e) (by simp)), World.cell?_setCell_same _ _ _ h1]
  · refine World.cell?_setCell_same _ _ _ (u := y) ?_
    rw [World.cell?_setCell_other _ _ _ _ (fun e => absurd (congrArg Addr.off e) (by simp))]
    exact h2
theorem Two.far {w : World} {b c : Nat} {x y : Value} (h : Two w b x y) (hc : b ≠ c) (o : Nat) (u : Value) : Two (w.setCell ⟨c, o, none⟩ u) b x y := by
  obtain ⟨h0, h1, h2⟩ := h
  refine ⟨by simpa [World.setCell] using h0, ?_, ?_⟩
  · rw [World.cell?_setCell_other _ _ _ _ (fun e => hc (congrArg Addr.block e).symm)]; exact h1
  · rw [World.cell?_setCell_other _ _ _ _ (fun e => hc (congrArg Addr.block e).symm)]; exact h2

end Go.Proofs.Ytniapakheegijaa
