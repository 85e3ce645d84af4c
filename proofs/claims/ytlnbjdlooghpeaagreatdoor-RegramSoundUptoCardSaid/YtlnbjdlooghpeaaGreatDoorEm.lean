/- Matching (layer 9): from where to where an expression matches; sets of offsets; no program. -/
import Derived.Test.YtlnbjdlooghpeaaGreatDoorRx
import Derived.Test.YtlnbjdlooghpeaaGreatDoorEx
namespace Go.Proofs.YtlnbjdlooghpeaaGreatDoor

def wordC (c : UInt8) : Bool := (decide (97 ≤ c) && decide (c ≤ 122)) || (decide (65 ≤ c) && decide (c ≤ 90)) || (decide (48 ≤ c) && decide (c ≤ 57)) || decide (c = 95)
def wordB (s : List UInt8) (i : Nat) : Bool := match s[i]? with | some c => wordC c | none => false
/-- Whether an expression without length matches at i. -/
def standsB (k : Int) (s : List UInt8) (i : Nat) : Bool :=
  if k = 5 then decide (i = 0) || decide (s[i - 1]? = some 10) else if k = 6 then decide (i = s.length) || decide (s[i]? = some 10) else (if i = 0 then false else wordB s (i - 1)) != wordB s i
mutual
def mtR : Rx → List UInt8 → Nat → Nat → Prop
  | .mk k set a b l, s, i, j =>
    if k = 2 then mtCat l s i j else if k = 3 then mtAlt l s i j else if k = 4 then (∃ n : Nat, a ≤ n ∧ (b < 0 ∨ (n : Int) ≤ b) ∧ Iter (mtOne l s) n i j) else
    if k = 1 then (∃ c, s[i]? = some c ∧ hasS set c = true ∧ j = i + 1) else (i ≤ s.length ∧ standsB k s i = true ∧ j = i)
def mtCat : List Rx → List UInt8 → Nat → Nat → Prop
  | [], _, i, j => i = j
  | x :: l, s, i, j => ∃ m, mtR x s i m ∧ mtCat l s m j
def mtAlt : List Rx → List UInt8 → Nat → Nat → Prop
  | [], _, _, _ => False
  | x :: l, s, i, j => mtR x s i j ∨ mtAlt l s i j
def mtOne : List Rx → List UInt8 → Nat → Nat → Prop
  | [], _, _, _ => False
  | x :: _, s, i, j => mtR x s i j
end
theorem iter_le {R : Nat → Nat → Prop} {N : Nat} (h : ∀ i j, i ≤ N → R i j → i ≤ j ∧ j ≤ N) : ∀ (n i j : Nat), i ≤ N → Iter R n i j → i ≤ j ∧ j ≤ N
  | 0, i, j, hi, e => by cases e; exact ⟨Nat.le_refl _, hi⟩
  | n + 1, i, j, hi, ⟨m, h1, h2⟩ => by
    obtain ⟨a, b⟩ := h i m hi h1
    obtain ⟨c, d⟩ := iter_le h n m j b h2
    exact ⟨Nat.le_trans a c, d⟩
theorem mt_le (r : Rx) (s : List UInt8) : ∀ i j, i ≤ s.length → mtR r s i j → i ≤ j ∧ j ≤ s.length := by
  induction r using Rx.ind with
  | h k set a b l ih =>
    intro i j hi h
    unfold mtR at h
    split at h
    · have : ∀ (m : List Rx), (∀ x ∈ m, x ∈ l) → ∀ i j, i ≤ s.length → mtCat m s i j → i ≤ j ∧ j ≤ s.length := by
        intro m
        induction m with
        | nil => intro _ i j hi e; unfold mtCat at e; cases e; exact ⟨Nat.le_refl _, hi⟩
        | cons x m ihm =>
          intro hm i j hi e
          unfold mtCat at e
          obtain ⟨q, h1, h2⟩ := e
          obtain ⟨a1, a2⟩ := ih x (hm x (by simp)) i q hi h1
          obtain ⟨b1, b2⟩ := ihm (fun y hy => hm y (List.mem_cons_of_mem _ hy)) q j a2 h2
          exact ⟨Nat.le_trans a1 b1, b2⟩
      exact this l (fun x hx => hx) i j hi h
    · split at h
      · have : ∀ (m : List Rx), (∀ x ∈ m, x ∈ l) → mtAlt m s i j → i ≤ j ∧ j ≤ s.length := by
          intro m
          induction m with
          | nil => intro _ e; unfold mtAlt at e; exact e.elim
          | cons x m ihm =>
            intro hm e
            unfold mtAlt at e
            rcases e with e | e
            · exact ih x (hm x (by simp)) i j hi e
            · exact ihm (fun y hy => hm y (List.mem_cons_of_mem _ hy)) e
        exact this l (fun x hx => hx) h
      · split at h
        · obtain ⟨n, _, _, hn⟩ := h
          refine iter_le (N := s.length) (fun i j hi h => ?_) n i j hi hn
          cases l with
          | nil => unfold mtOne at h; exact h.elim
          | cons x l => unfold mtOne at h; exact ih x (by simp) i j hi h
        · split at h
          · obtain ⟨c, h1, _, rfl⟩ := h
            have := (List.getElem?_eq_some_iff.1 h1).1
            omega
          · obtain ⟨_, _, rfl⟩ := h
            exact ⟨Nat.le_refl _, hi⟩
/-- What a set of offsets reaches by an expression. -/
def Img (R : Nat → Nat → Prop) (P : Nat → Prop) (j : Nat) : Prop := ∃ i, P i ∧ R i j
theorem img_cat {s : List UInt8} {P : Nat → Prop} (x : Rx) (l : List Rx) (j : Nat) : Img (mtCat (x :: l) s) P j ↔ Img (mtCat l s) (Img (mtR x s) P) j := by
  constructor
  · rintro ⟨i, hi, h⟩
    unfold mtCat at h
    obtain ⟨m, h1, h2⟩ := h
    exact ⟨m, ⟨i, hi, h1⟩, h2⟩
  · rintro ⟨m, ⟨i, hi, h1⟩, h2⟩
    exact ⟨i, hi, by unfold mtCat; exact ⟨m, h1, h2⟩⟩
theorem img_alt {s : List UInt8} {P : Nat → Prop} (x : Rx) (l : List Rx) (j : Nat) : Img (mtAlt (x :: l) s) P j ↔ Img (mtR x s) P j ∨ Img (mtAlt l s) P j := by
  constructor
  · rintro ⟨i, hi, h⟩
    unfold mtAlt at h
    exact h.imp (fun h => ⟨i, hi, h⟩) fun h => ⟨i, hi, h⟩
  · rintro (⟨i, hi, h⟩ | ⟨i, hi, h⟩)
    · exact ⟨i, hi, by unfold mtAlt; exact Or.inl h⟩
    · exact ⟨i, hi, by unfold mtAlt; exact Or.inr h⟩
theorem img_one {R : Nat → Nat → Prop} {P : Nat → Prop} (j : Nat) : ImgN R 1 P j ↔ Img R P j :=
  ⟨fun ⟨i, hi, m, h, e⟩ => by cases e; exact ⟨i, hi, h⟩, fun ⟨i, hi, h⟩ => ⟨i, hi, j, h, rfl⟩⟩
/-- From a steps on, b - a further ones. -/
theorem rep_upto {R : Nat → Nat → Prop} {P : Nat → Prop} (a d j : Nat) : UpTo R d (ImgN R a P) j ↔ ∃ n, a ≤ n ∧ n ≤ a + d ∧ ImgN R n P j := by
  constructor
  · rintro ⟨n, hn, h⟩
    exact ⟨a + n, by omega, by omega, (imgN_add a n j).2 h⟩
  · rintro ⟨n, h1, h2, h⟩
    refine ⟨n - a, by omega, (imgN_add a (n - a) j).1 ?_⟩
    rwa [show a + (n - a) = n by omega]
end Go.Proofs.YtlnbjdlooghpeaaGreatDoor
