/- What repeating a relation reaches: for the reference's 'repeat' of layer 9 (regexec); no program. -/
namespace Go.Proofs.YtlnbjdlooghpeaaGreatDoor

/-- n steps of R. -/
def Iter (R : Nat → Nat → Prop) : Nat → Nat → Nat → Prop
  | 0, i, j => i = j
  | n + 1, i, j => ∃ m, R i m ∧ Iter R n m j
theorem iter_last {R : Nat → Nat → Prop} : ∀ (n i j : Nat), Iter R (n + 1) i j ↔ ∃ m, Iter R n i m ∧ R m j
  | 0, i, j => ⟨fun ⟨m, h, e⟩ => by subst e; exact ⟨i, rfl, h⟩, fun ⟨m, e, h⟩ => by subst e; exact ⟨j, h, rfl⟩⟩
  | n + 1, i, j => by
    constructor
    · rintro ⟨m, h, k⟩
      obtain ⟨q, k1, k2⟩ := (iter_last n m j).1 k
      exact ⟨q, ⟨m, h, k1⟩, k2⟩
    · rintro ⟨q, ⟨m, h, k1⟩, k2⟩
      exact ⟨m, h, (iter_last n m j).2 ⟨q, k1, k2⟩⟩
/-- What n steps reach from P; what at most k steps reach. -/
def ImgN (R : Nat → Nat → Prop) (n : Nat) (P : Nat → Prop) (j : Nat) : Prop := ∃ i, P i ∧ Iter R n i j
def UpTo (R : Nat → Nat → Prop) (k : Nat) (P : Nat → Prop) (j : Nat) : Prop := ∃ n, n ≤ k ∧ ImgN R n P j
theorem imgN_zero {R : Nat → Nat → Prop} {P : Nat → Prop} (j : Nat) : ImgN R 0 P j ↔ P j := ⟨fun ⟨i, h, e⟩ => by cases e; exact h, fun h => ⟨j, h, rfl⟩⟩
theorem imgN_succ {R : Nat → Nat → Prop} {P : Nat → Prop} (n j : Nat) : ImgN R (n + 1) P j ↔ ∃ m, ImgN R n P m ∧ R m j := by
  constructor
  · rintro ⟨i, h, k⟩
    obtain ⟨m, k1, k2⟩ := (iter_last n i j).1 k
    exact ⟨m, ⟨i, h, k1⟩, k2⟩
  · rintro ⟨m, ⟨i, h, k1⟩, k2⟩
    exact ⟨i, h, (iter_last n i j).2 ⟨m, k1, k2⟩⟩
theorem imgN_add {R : Nat → Nat → Prop} {P : Nat → Prop} (m : Nat) : ∀ (n j : Nat), ImgN R (m + n) P j ↔ ImgN R n (ImgN R m P) j
  | 0, j => (imgN_zero j).symm
  | n + 1, j => by
    rw [← Nat.add_assoc, imgN_succ, imgN_succ]
    exact ⟨fun ⟨q, h, k⟩ => ⟨q, (imgN_add m n q).1 h, k⟩, fun ⟨q, h, k⟩ => ⟨q, (imgN_add m n q).2 h, k⟩⟩
/-- A set that a step leaves as it is: so do n steps. -/
theorem imgN_fix {R : Nat → Nat → Prop} {P : Nat → Prop} (h : ∀ j, ImgN R 1 P j ↔ P j) : ∀ (n j : Nat), ImgN R n P j ↔ P j
  | 0, j => imgN_zero j
  | n + 1, j => by
    rw [imgN_succ]
    constructor
    · rintro ⟨m, k1, k2⟩
      exact (h j).1 ⟨m, (imgN_fix h n m).1 k1, j, k2, rfl⟩
    · intro hj
      obtain ⟨m, hm, q, k1, k2⟩ := (h j).2 hj
      cases k2
      exact ⟨m, (imgN_fix h n m).2 hm, k1⟩
/-- all: what at most k steps reach; edge: what of it no step was taken from. -/
structure Front (R : Nat → Nat → Prop) (P : Nat → Prop) (k : Nat) (all edge : Nat → Prop) : Prop where
  is : ∀ j, all j ↔ UpTo R k P j
  sub : ∀ j, edge j → all j
  shut : ∀ i j, all i → R i j → all j ∨ ∃ e, edge e ∧ R e j
theorem Front.start (R : Nat → Nat → Prop) (P : Nat → Prop) : Front R P 0 P P := by
  refine ⟨fun j => ⟨fun h => ⟨0, Nat.le_refl _, j, h, rfl⟩, ?_⟩, fun j h => h, fun i j h k => Or.inr ⟨i, h, k⟩⟩
  rintro ⟨n, hn, h⟩
  obtain rfl : n = 0 := by omega
  exact (imgN_zero j).1 h
theorem Front.next {R : Nat → Nat → Prop} {P : Nat → Prop} {k : Nat} {all edge : Nat → Prop} (h : Front R P k all edge) {all' edge' : Nat → Prop}
    (ha : ∀ j, all' j ↔ all j ∨ ∃ e, edge e ∧ R e j) (he : ∀ j, edge' j ↔ (∃ e, edge e ∧ R e j) ∧ ¬ all j) : Front R P (k + 1) all' edge' := by
  refine ⟨fun j => ?_, fun j hj => (ha j).2 (Or.inr ((he j).1 hj).1), fun i j hi hij => ?_⟩
  · rw [ha]
    constructor
    · rintro (hj | ⟨e, hj, hr⟩)
      · obtain ⟨n, hn, hi⟩ := (h.is j).1 hj
        exact ⟨n, by omega, hi⟩
      · obtain ⟨n, hn, hi⟩ := (h.is e).1 (h.sub e hj)
        exact ⟨n + 1, by omega, (imgN_succ n j).2 ⟨e, hi, hr⟩⟩
    · rintro ⟨n, hn, hi⟩
      cases n with
      | zero => exact Or.inl ((h.is j).2 ⟨0, Nat.zero_le _, hi⟩)
      | succ n =>
        obtain ⟨m, hm, hr⟩ := (imgN_succ n j).1 hi
        exact h.shut m j ((h.is m).2 ⟨n, by omega, hm⟩) hr
  · by_cases hia : all i
    · exact Or.inl ((ha j).2 (h.shut i j hia hij))
    · exact Or.inr ⟨i, (he i).2 ⟨((ha i).1 hi).resolve_left hia, hia⟩, hij⟩
/-- Nothing new: more steps reach nothing more. -/
theorem Front.done {R : Nat → Nat → Prop} {P : Nat → Prop} {k : Nat} {all edge : Nat → Prop} (h : Front R P k all edge) (h0 : ∀ j, ¬ edge j) (K : Nat) (hK : k ≤ K) (j : Nat) : all j ↔ UpTo R K P j := by
  have shut : ∀ (n i : Nat), ImgN R n P i → all i := by
    intro n
    induction n with
    | zero => exact fun i hi => (h.is i).2 ⟨0, Nat.zero_le _, hi⟩
    | succ n ih =>
      intro i hi
      obtain ⟨m, hm, hr⟩ := (imgN_succ n i).1 hi
      rcases h.shut m i (ih m hm) hr with hh | ⟨e, he, _⟩
      · exact hh
      · exact absurd he (h0 e)
  exact ⟨fun hj => by obtain ⟨n, hn, hi⟩ := (h.is j).1 hj; exact ⟨n, by omega, hi⟩, fun ⟨n, _, hi⟩ => shut n j hi⟩
end Go.Proofs.YtlnbjdlooghpeaaGreatDoor
