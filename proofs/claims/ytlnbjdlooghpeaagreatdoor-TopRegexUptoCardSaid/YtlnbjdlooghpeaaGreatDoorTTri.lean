/- TopRegex: Sets, Tri. -/
import Init.Data.List.Lemmas
import Init.Data.List.Pairwise
namespace Go.Proofs.YtlnbjdlooghpeaaGreatDoor
def Up (l : List Int) : Prop := l.Pairwise (· < ·)
def putS : List Int → Int → List Int
  | [], n => [n]
  | x :: l, n => if n < x then n :: x :: l else if n = x then x :: l else x :: putS l n
theorem mem_put : ∀ (l : List Int) (n m : Int), m ∈ putS l n ↔ m = n ∨ m ∈ l
  | [], n, m => by simp [putS]
  | x :: l, n, m => by
    have ih := mem_put l n m
    unfold putS
    split
    · simp
    · split
      · rename_i h; subst h; simp
      · simp only [List.mem_cons, ih]
        constructor
        · rintro (h | h | h)
          · exact Or.inr (Or.inl h)
          · exact Or.inl h
          · exact Or.inr (Or.inr h)
        · rintro (h | h | h)
          · exact Or.inr (Or.inl h)
          · exact Or.inl h
          · exact Or.inr (Or.inr h)
theorem up_cons {x : Int} {l : List Int} : Up (x :: l) ↔ (∀ y ∈ l, x < y) ∧ Up l := by unfold Up; exact List.pairwise_cons
theorem up_nil : Up [] := List.Pairwise.nil
theorem up_put : ∀ (l : List Int) (n : Int), Up l → Up (putS l n)
  | [], n, _ => up_cons.2 ⟨fun y h => by simp at h, up_nil⟩
  | x :: l, n, h => by
    have h' := up_cons.1 h
    unfold putS
    split
    · refine up_cons.2 ⟨fun y hy => ?_, h⟩
      rcases List.mem_cons.1 hy with rfl | hy
      · assumption
      · have := h'.1 y hy; omega
    · split
      · exact h
      · refine up_cons.2 ⟨fun y hy => ?_, up_put l n h'.2⟩
        rcases (mem_put l n y).1 hy with rfl | hy
        · omega
        · exact h'.1 y hy
theorem up_ext : ∀ (a b : List Int), Up a → Up b → (∀ m, m ∈ a ↔ m ∈ b) → a = b
  | [], [], _, _, _ => rfl
  | [], y :: b, _, _, h => by have := (h y).2 (by simp); simp at this
  | x :: a, [], _, _, h => by have := (h x).1 (by simp); simp at this
  | x :: a, y :: b, ha, hb, h => by
    have ha' := up_cons.1 ha
    have hb' := up_cons.1 hb
    have hxy : x = y := by
      rcases List.mem_cons.1 ((h x).1 (by simp)) with e | e
      · exact e
      · rcases List.mem_cons.1 ((h y).2 (by simp)) with e' | e'
        · exact e'.symm
        · have := hb'.1 x e; have := ha'.1 y e'; omega
    subst hxy
    rw [up_ext a b ha'.2 hb'.2 fun m => ?_]
    constructor
    · intro hm
      rcases List.mem_cons.1 ((h m).1 (by simp [hm])) with e | e
      · have := ha'.1 m hm; omega
      · exact e
    · intro hm
      rcases List.mem_cons.1 ((h m).2 (by simp [hm])) with e | e
      · have := hb'.1 m hm; omega
      · exact e
theorem mem_fold : ∀ (l acc : List Int) (m : Int), m ∈ l.foldl putS acc ↔ m ∈ acc ∨ m ∈ l
  | [], acc, m => by simp
  | x :: l, acc, m => by
    rw [List.foldl_cons, mem_fold l (putS acc x) m, mem_put, List.mem_cons]
    constructor
    · rintro ((h | h) | h)
      · exact Or.inr (Or.inl h)
      · exact Or.inl h
      · exact Or.inr (Or.inr h)
    · rintro (h | h | h)
      · exact Or.inl (Or.inr h)
      · exact Or.inl (Or.inl h)
      · exact Or.inr h
theorem up_fold : ∀ (l acc : List Int), Up acc → Up (l.foldl putS acc)
  | [], _, h => h
  | x :: l, acc, h => up_fold l _ (up_put acc x h)
end Go.Proofs.YtlnbjdlooghpeaaGreatDoor
namespace Go.Proofs.YtlnbjdlooghpeaaGreatDoor
def fld (c : UInt8) : UInt8 := if 65 ≤ c.toNat ∧ c.toNat ≤ 90 then UInt8.ofNat (c.toNat + 32) else c
theorem fld_up (c : UInt8) (h : 65 ≤ c.toNat ∧ c.toNat ≤ 90) : ((fld c).toNat : Int) = (c.toNat : Int) + 32 := by
  unfold fld
  rw [if_pos h]
  have : (UInt8.ofNat (c.toNat + 32)).toNat = c.toNat + 32 := by simp; omega
  omega
theorem fld_low (c : UInt8) (h : ¬ (65 ≤ c.toNat ∧ c.toNat ≤ 90)) : fld c = c := by unfold fld; rw [if_neg h]
theorem byte_lt (c : UInt8) : c.toNat < 256 := c.toNat_lt
theorem fld_fld (c : UInt8) : fld (fld c) = fld c := by
  by_cases h : 65 ≤ c.toNat ∧ c.toNat ≤ 90
  · have := fld_up c h
    rw [fld_low (fld c) (by omega)]
  · rw [fld_low c h, fld_low c h]
def fat (d : List UInt8) (i : Nat) : Nat := (fld (d.getD i 0)).toNat
theorem fat_lt (d : List UInt8) (i : Nat) : fat d i < 256 := byte_lt _
def tri (d : List UInt8) (i : Nat) : Int := (fat d i : Int) * 65536 + (fat d (i + 1) : Int) * 256 + (fat d (i + 2) : Int)
theorem tri_lt (d : List UInt8) (i : Nat) : 0 ≤ tri d i ∧ tri d i < 16777216 := by
  have h0 := fat_lt d i
  have h1 := fat_lt d (i + 1)
  have h2 := fat_lt d (i + 2)
  unfold tri
  omega
def tris (d : List UInt8) : List Int := (List.range (d.length - 2)).map (tri d)
def ofS (d : List UInt8) : List Int := (tris d).foldl putS []
theorem up_of (d : List UInt8) : Up (ofS d) := up_fold _ _ up_nil
theorem mem_of (d : List UInt8) (c : Int) : c ∈ ofS d ↔ ∃ i, i + 2 < d.length ∧ tri d i = c := by
  unfold ofS tris
  rw [mem_fold]
  simp only [List.not_mem_nil, false_or, List.mem_map, List.mem_range]
  constructor
  · rintro ⟨i, h, e⟩; exact ⟨i, by omega, e⟩
  · rintro ⟨i, h, e⟩; exact ⟨i, by omega, e⟩
def offsN (d : List UInt8) (c : Int) (n : Nat) : List Int := ((List.range n).filter fun i => decide (tri d i = c)).map fun (i : Nat) => (i : Int)
def offs (d : List UInt8) (c : Int) : List Int := offsN d c (d.length - 2)
theorem offsN_succ (d : List UInt8) (c : Int) (n : Nat) : offsN d c (n + 1) = offsN d c n ++ (if tri d n = c then [(n : Int)] else []) := by
  unfold offsN
  rw [List.range_succ, List.filter_append, List.map_append]
  by_cases h : tri d n = c
  · simp [h]
  · simp [h]
theorem mem_offsN (d : List UInt8) (c : Int) (n : Nat) (x : Int) : x ∈ offsN d c n ↔ ∃ i : Nat, i < n ∧ tri d i = c ∧ x = (i : Int) := by
  unfold offsN
  simp only [List.mem_map, List.mem_filter, List.mem_range, decide_eq_true_eq]
  constructor
  · rintro ⟨i, ⟨h1, h2⟩, rfl⟩; exact ⟨i, h1, h2, rfl⟩
  · rintro ⟨i, h1, h2, rfl⟩; exact ⟨i, ⟨h1, h2⟩, rfl⟩
def codeS (d : List UInt8) : Int := if d.length = 3 then tri d 0 else 0
theorem put_len (l : List Int) (m : Int) : (putS l m).length ≤ l.length + 1 := by
  induction l with
  | nil => simp [putS]
  | cons x l ih =>
    unfold putS
    split
    · simp
    · split
      · simp
      · simp; omega
theorem foldp_len : ∀ (l acc : List Int), (l.foldl putS acc).length ≤ acc.length + l.length
  | [], acc => by simp
  | x :: l, acc => by
    have h1 := foldp_len l (putS acc x)
    have h2 := put_len acc x
    rw [List.foldl_cons, List.length_cons]
    omega
theorem of_len (d : List UInt8) : (ofS d).length ≤ d.length - 2 := by
  have := foldp_len (tris d) []
  unfold ofS
  simp [tris] at this ⊢
  omega
theorem fat_map (f : UInt8 → UInt8) (hf : ∀ c, fld (f c) = fld c) (d : List UInt8) (i : Nat) : fat (d.map f) i = fat d i := by
  unfold fat
  rw [List.getD_eq_getElem?_getD, List.getD_eq_getElem?_getD, List.getElem?_map]
  cases d[i]? with
  | none => rfl
  | some c => simp [hf]
theorem tri_map (f : UInt8 → UInt8) (hf : ∀ c, fld (f c) = fld c) (d : List UInt8) : tri (d.map f) = tri d := by
  funext i
  unfold tri
  rw [fat_map f hf, fat_map f hf, fat_map f hf]
end Go.Proofs.YtlnbjdlooghpeaaGreatDoor
