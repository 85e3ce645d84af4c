/- Trigrams over plain lists of bytes; no program. -/
import Derived.Test.YtlnbjdlooghpeaaGreatDoorSets
namespace Go.Proofs.YtlnbjdlooghpeaaGreatDoor

/-- A letter from A to Z as one from a to z. -/
def fld (c : UInt8) : UInt8 := if 65 ≤ c.toNat ∧ c.toNat ≤ 90 then UInt8.ofNat (c.toNat + 32) else c
theorem fld_up (c : UInt8) (h : 65 ≤ c.toNat ∧ c.toNat ≤ 90) : ((fld c).toNat : Int) = (c.toNat : Int) + 32 := by
  unfold fld
  rw [if_pos h]
  have : (UInt8.ofNat (c.toNat + 32)).toNat = c.toNat + 32 := by simp; omega
  omega
theorem fld_low (c : UInt8) (h : ¬ (65 ≤ c.toNat ∧ c.toNat ≤ 90)) : fld c = c := by unfold fld; rw [if_neg h]
theorem byte_lt (c : UInt8) : c.toNat < 256 := c.toNat_lt
theorem fld_fld (c : UInt8) : fld (fld c) = fld c := by
  by_cases h : 65 ≤ c.toNat ∧ c.toNat ≤ 90
  · have := fld_up c h
    rw [fld_low (fld c) (by omega)]
  · rw [fld_low c h, fld_low c h]

/-- The folded byte at an index. -/
def fat (d : List UInt8) (i : Nat) : Nat := (fld (d.getD i 0)).toNat
theorem fat_lt (d : List UInt8) (i : Nat) : fat d i < 256 := byte_lt _
/-- The code of the trigram at an offset. -/
def tri (d : List UInt8) (i : Nat) : Int := (fat d i : Int) * 65536 + (fat d (i + 1) : Int) * 256 + (fat d (i + 2) : Int)
theorem tri_lt (d : List UInt8) (i : Nat) : 0 ≤ tri d i ∧ tri d i < 16777216 := by
  have h0 := fat_lt d i
  have h1 := fat_lt d (i + 1)
  have h2 := fat_lt d (i + 2)
  unfold tri
  omega
/-- The codes in the order of their offsets. -/
def tris (d : List UInt8) : List Int := (List.range (d.length - 2)).map (tri d)
def ofS (d : List UInt8) : List Int := (tris d).foldl putS []
theorem up_of (d : List UInt8) : Up (ofS d) := up_fold _ _ up_nil
theorem mem_of (d : List UInt8) (c : Int) : c ∈ ofS d ↔ ∃ i, i + 2 < d.length ∧ tri d i = c := by
  unfold ofS tris
  rw [mem_fold]
  simp only [List.not_mem_nil, false_or, List.mem_map, List.mem_range]
  constructor
  · rintro ⟨i, h, e⟩; exact ⟨i, by omega, e⟩
  · rintro ⟨i, h, e⟩; exact ⟨i, by omega, e⟩
/-- The offsets of a code. -/
def offsN (d : List UInt8) (c : Int) (n : Nat) : List Int := ((List.range n).filter fun i => decide (tri d i = c)).map fun (i : Nat) => (i : Int)
def offs (d : List UInt8) (c : Int) : List Int := offsN d c (d.length - 2)
theorem offsN_zero (d : List UInt8) (c : Int) : offsN d c 0 = [] := rfl
theorem offsN_succ (d : List UInt8) (c : Int) (n : Nat) : offsN d c (n + 1) = offsN d c n ++ (if tri d n = c then [(n : Int)] else []) := by
  unfold offsN
  rw [List.range_succ, List.filter_append, List.map_append]
  by_cases h : tri d n = c
  · simp [h]
  · simp [h]
theorem mem_offsN (d : List UInt8) (c : Int) (n : Nat) (x : Int) : x ∈ offsN d c n ↔ ∃ i : Nat, i < n ∧ tri d i = c ∧ x = (i : Int) := by
  unfold offsN
  simp only [List.mem_map, List.mem_filter, List.mem_range, decide_eq_true_eq]
  constructor
  · rintro ⟨i, ⟨h1, h2⟩, rfl⟩; exact ⟨i, h1, h2, rfl⟩
  · rintro ⟨i, h1, h2, rfl⟩; exact ⟨i, ⟨h1, h2⟩, rfl⟩
theorem up_offsN (d : List UInt8) (c : Int) : ∀ n, Up (offsN d c n)
  | 0 => up_nil
  | n + 1 => by
    rw [offsN_succ]
    unfold Up
    rw [List.pairwise_append]
    refine ⟨up_offsN d c n, ?_, fun a ha b hb => ?_⟩
    · by_cases h : tri d n = c <;> simp [h]
    · obtain ⟨i, hi, _, rfl⟩ := (mem_offsN d c n a).1 ha
      by_cases h : tri d n = c
      · simp [h] at hb; omega
      · simp [h] at hb
theorem offsN_len (d : List UInt8) (c : Int) (n : Nat) : (offsN d c n).length ≤ n := by
  unfold offsN
  rw [List.length_map]
  exact Nat.le_trans (List.length_filter_le _ _) (by simp)
/-- Every trigram with its offsets. -/
def gramsS (d : List UInt8) : List (Int × List Int) := (ofS d).map fun c => (c, offs d c)
/-- The offsets of the first element with a code. -/
def atS : List (Int × List Int) → Int → List Int
  | [], _ => []
  | g :: l, c => if g.1 = c then g.2 else atS l c
def codeS (d : List UInt8) : Int := if d.length = 3 then tri d 0 else 0
/-- The bytes of a code. -/
def strL (c : Int) : List UInt8 := if 0 ≤ c ∧ c < 16777216 then [UInt8.ofNat (c.toNat / 65536), UInt8.ofNat (c.toNat / 256), UInt8.ofNat c.toNat] else []
def strOk (c : Int) : Bool := decide (0 ≤ c ∧ c < 16777216)

theorem put_len (l : List Int) (m : Int) : (putS l m).length ≤ l.length + 1 := by
  induction l with
  | nil => simp [putS]
  | cons x l ih =>
    unfold putS
    split
    · simp
    · split
      · simp
      · simp; omega
theorem foldp_len : ∀ (l acc : List Int), (l.foldl putS acc).length ≤ acc.length + l.length
  | [], acc => by simp
  | x :: l, acc => by
    have h1 := foldp_len l (putS acc x)
    have h2 := put_len acc x
    rw [List.foldl_cons, List.length_cons]
    omega
theorem of_len (d : List UInt8) : (ofS d).length ≤ d.length - 2 := by
  have := foldp_len (tris d) []
  unfold ofS
  simp [tris] at this ⊢
  omega
/-- Of, so far. -/
def ofN (d : List UInt8) (n : Nat) : List Int := ((List.range n).map (tri d)).foldl putS []
theorem ofN_zero (d : List UInt8) : ofN d 0 = [] := rfl
theorem ofN_succ (d : List UInt8) (n : Nat) : ofN d (n + 1) = putS (ofN d n) (tri d n) := by
  unfold ofN
  rw [List.range_succ, List.map_append, List.foldl_append]
  rfl
theorem ofN_len (d : List UInt8) (n : Nat) : (ofN d n).length ≤ n := by
  have := foldp_len ((List.range n).map (tri d)) []
  unfold ofN
  simp at this ⊢
  omega
theorem ofN_all (d : List UInt8) : ofN d (d.length - 2) = ofS d := rfl

/-! ### P6.5 -/
/-- The trigram with these bytes begins at i. -/
def beg (d : List UInt8) (i : Nat) (c : Int) : Prop := (fat d i : Int) = c / 65536 ∧ (fat d (i + 1) : Int) = c / 256 % 256 ∧ (fat d (i + 2) : Int) = c % 256
theorem beg_iff (d : List UInt8) (i : Nat) (c : Int) (_h : 0 ≤ c ∧ c < 16777216) : beg d i c ↔ tri d i = c := by
  have h0 := fat_lt d i
  have h1 := fat_lt d (i + 1)
  have h2 := fat_lt d (i + 2)
  unfold beg tri
  constructor
  · rintro ⟨e0, e1, e2⟩; omega
  · intro e; omega
theorem occurs_iff (d : List UInt8) (c : Int) : c ∈ ofS d ↔ (0 ≤ c ∧ c < 16777216) ∧ ∃ i, i + 2 < d.length ∧ beg d i c := by
  rw [mem_of]
  constructor
  · rintro ⟨i, hi, rfl⟩
    have := tri_lt d i
    exact ⟨this, i, hi, (beg_iff d i _ this).2 rfl⟩
  · rintro ⟨h, i, hi, hb⟩
    exact ⟨i, hi, (beg_iff d i c h).1 hb⟩

/-! ### P6.6 -/
/-- How many offsets the lists have. -/
def cnt (l : List (Int × List Int)) : Nat := (l.map fun g => g.2.length).foldl (· + ·) 0
theorem foldl_add (l : List Nat) (a : Nat) : l.foldl (· + ·) a = a + l.foldl (· + ·) 0 := by
  induction l generalizing a with
  | nil => simp
  | cons x l ih => simp only [List.foldl_cons]; rw [ih (a + x), ih (0 + x)]; omega
theorem cnt_nil : cnt [] = 0 := rfl
theorem cnt_app (l m : List (Int × List Int)) : cnt (l ++ m) = cnt l + cnt m := by
  unfold cnt
  rw [List.map_append, List.foldl_append, foldl_add]
theorem cnt_one (g : Int × List Int) : cnt [g] = g.2.length := by simp [cnt]
theorem cnt_cons (g : Int × List Int) (l : List (Int × List Int)) : cnt (g :: l) = g.2.length + cnt l := by
  have := cnt_app [g] l
  rw [cnt_one] at this
  simpa using this
/-- Over a list of different codes: an offset more adds one, if its code is there. -/
theorem cnt_step (d : List UInt8) (n : Nat) : ∀ (L : List Int), Up L →
    cnt (L.map fun c => (c, offsN d c (n + 1))) = cnt (L.map fun c => (c, offsN d c n)) + if tri d n ∈ L then 1 else 0
  | [], _ => by simp [cnt]
  | c :: L, hu => by
    have hu' := up_cons.1 hu
    have ih := cnt_step d n L hu'.2
    rw [List.map_cons, List.map_cons, cnt_cons, cnt_cons, ih]
    show (offsN d c (n + 1)).length + _ = (offsN d c n).length + _ + _
    rw [offsN_succ, List.length_append]
    by_cases h : tri d n = c
    · have hn : c ∉ L := fun hc => by have := hu'.1 c hc; omega
      simp [h, hn]
      omega
    · have h' : ¬ tri d n = c := h
      simp [h']
      omega
theorem cnt_zero (d : List UInt8) : ∀ (L : List Int), cnt (L.map fun c => (c, offsN d c 0)) = 0
  | [] => rfl
  | c :: L => by rw [List.map_cons, cnt_cons, cnt_zero d L]; rfl
theorem cnt_upto (d : List UInt8) (L : List Int) (hu : Up L) : ∀ n, (∀ i, i < n → tri d i ∈ L) → cnt (L.map fun c => (c, offsN d c n)) = n
  | 0, _ => cnt_zero d L
  | n + 1, h => by
    rw [cnt_step d n L hu, if_pos (h n (by omega)), cnt_upto d L hu n fun i hi => h i (by omega)]
theorem cnt_grams (d : List UInt8) : cnt (gramsS d) = d.length - 2 :=
  cnt_upto d (ofS d) (up_of d) (d.length - 2) fun i hi => (mem_of d _).2 ⟨i, by omega, rfl⟩
theorem grams_get (d : List UInt8) (k : Nat) (g : Int × List Int) (h : (gramsS d)[k]? = some g) : (0 ≤ g.1 ∧ g.1 < 16777216) ∧ 0 < g.2.length ∧ g.2 = offs d g.1 := by
  unfold gramsS at h
  rw [List.getElem?_map] at h
  cases hc : (ofS d)[k]? with
  | none => rw [hc] at h; simp at h
  | some c =>
    rw [hc] at h
    simp at h
    subst h
    have hm := List.mem_of_getElem? hc
    obtain ⟨i, hi, e⟩ := (mem_of d c).1 hm
    refine ⟨by rw [← e]; exact tri_lt d i, ?_, rfl⟩
    exact List.length_pos_of_mem ((mem_offsN d c (d.length - 2) (i : Int)).2 ⟨i, by omega, e, rfl⟩)
theorem offs_get (d : List UInt8) (c : Int) (k : Nat) (x : Int) (h : (offs d c)[k]? = some x) : ∃ i : Nat, x = (i : Int) ∧ i + 2 < d.length ∧ tri d i = c := by
  obtain ⟨i, hi, e, rfl⟩ := (mem_offsN d c _ x).1 (List.mem_of_getElem? h)
  exact ⟨i, rfl, by omega, e⟩
theorem up_get {l : List Int} (hu : Up l) (k : Nat) (x y : Int) (hx : l[k]? = some x) (hy : l[k + 1]? = some y) : x < y := by
  obtain ⟨h1, rfl⟩ := List.getElem?_eq_some_iff.1 hx
  obtain ⟨h2, rfl⟩ := List.getElem?_eq_some_iff.1 hy
  exact List.pairwise_iff_getElem.1 hu k (k + 1) h1 h2 (by omega)

/-! ### P6.7 -/
/-- A letter from a to z as one from A to Z. -/
def upr (c : UInt8) : UInt8 := if 97 ≤ c.toNat ∧ c.toNat ≤ 122 then UInt8.ofNat (c.toNat - 32) else c
theorem upr_up (c : UInt8) (h : 97 ≤ c.toNat ∧ c.toNat ≤ 122) : ((upr c).toNat : Int) = (c.toNat : Int) - 32 := by
  unfold upr
  rw [if_pos h]
  have : (UInt8.ofNat (c.toNat - 32)).toNat = c.toNat - 32 := by simp; omega
  omega
theorem fld_upr (c : UInt8) : fld (upr c) = fld c := by
  by_cases h : 97 ≤ c.toNat ∧ c.toNat ≤ 122
  · have h1 := upr_up c h
    have h2 := fld_up (upr c) (by omega)
    rw [fld_low c (by omega)]
    apply UInt8.toNat_inj.1
    omega
  · unfold upr
    rw [if_neg h]
theorem fat_map (f : UInt8 → UInt8) (hf : ∀ c, fld (f c) = fld c) (d : List UInt8) (i : Nat) : fat (d.map f) i = fat d i := by
  unfold fat
  rw [List.getD_eq_getElem?_getD, List.getD_eq_getElem?_getD, List.getElem?_map]
  cases d[i]? with
  | none => rfl
  | some c => simp [hf]
theorem tri_map (f : UInt8 → UInt8) (hf : ∀ c, fld (f c) = fld c) (d : List UInt8) : tri (d.map f) = tri d := by
  funext i
  unfold tri
  rw [fat_map f hf, fat_map f hf, fat_map f hf]
theorem of_map (f : UInt8 → UInt8) (hf : ∀ c, fld (f c) = fld c) (d : List UInt8) : ofS (d.map f) = ofS d := by
  unfold ofS tris
  rw [tri_map f hf, List.length_map]
theorem grams_map (f : UInt8 → UInt8) (hf : ∀ c, fld (f c) = fld c) (d : List UInt8) : gramsS (d.map f) = gramsS d := by
  unfold gramsS offs offsN
  rw [of_map f hf, tri_map f hf, List.length_map]

/-! ### P6.8 -/
theorem fat_left (a b : List UInt8) (i : Nat) (h : i < a.length) : fat (a ++ b) i = fat a i := by
  unfold fat
  rw [List.getD_eq_getElem?_getD, List.getD_eq_getElem?_getD, List.getElem?_append_left h]
theorem fat_right (a b : List UInt8) (i : Nat) : fat (a ++ b) (a.length + i) = fat b i := by
  unfold fat
  rw [List.getD_eq_getElem?_getD, List.getD_eq_getElem?_getD, List.getElem?_append_right (by omega), Nat.add_sub_cancel_left]
theorem of_left (a b : List UInt8) (c : Int) (h : c ∈ ofS a) : c ∈ ofS (a ++ b) := by
  obtain ⟨i, hi, rfl⟩ := (mem_of a c).1 h
  refine (mem_of _ _).2 ⟨i, by rw [List.length_append]; omega, ?_⟩
  unfold tri
  rw [fat_left a b i (by omega), fat_left a b (i + 1) (by omega), fat_left a b (i + 2) (by omega)]
theorem of_right (a b : List UInt8) (c : Int) (h : c ∈ ofS b) : c ∈ ofS (a ++ b) := by
  obtain ⟨i, hi, rfl⟩ := (mem_of b c).1 h
  refine (mem_of _ _).2 ⟨a.length + i, by rw [List.length_append]; omega, ?_⟩
  unfold tri
  rw [show a.length + i + 1 = a.length + (i + 1) by omega, show a.length + i + 2 = a.length + (i + 2) by omega, fat_right, fat_right, fat_right]
/-- The elements that are in neither of two lists. -/
def othersS (l a b : List Int) : List Int := l.filter fun x => !decide (x ∈ a) && !decide (x ∈ b)
theorem two_of {l : List Int} (hu : Up l) (x y : Int) (h : ∀ z ∈ l, z = x ∨ z = y) : l.length ≤ 2 := by
  match l, hu, h with
  | [], _, _ => simp
  | [_], _, _ => simp
  | [_, _], _, _ => simp
  | p :: q :: r :: m, hu, h =>
    have h1 := up_cons.1 hu
    have h2 := up_cons.1 h1.2
    have a1 := h1.1 q (by simp)
    have a2 := h1.1 r (by simp)
    have a3 := h2.1 r (by simp)
    have b1 := h p (by simp)
    have b2 := h q (by simp)
    have b3 := h r (by simp)
    omega
theorem others_two (a b : List UInt8) : (othersS (ofS (a ++ b)) (ofS a) (ofS b)).length ≤ 2 := by
  refine two_of (List.Pairwise.filter _ (up_of (a ++ b))) (tri (a ++ b) (a.length - 2)) (tri (a ++ b) (a.length - 1)) fun z hz => ?_
  unfold othersS at hz
  rw [List.mem_filter] at hz
  obtain ⟨h1, h2⟩ := hz
  simp only [Bool.and_eq_true, Bool.not_eq_true', decide_eq_false_iff_not] at h2
  obtain ⟨i, hi, rfl⟩ := (mem_of _ _).1 h1
  rw [List.length_append] at hi
  by_cases c1 : i + 2 < a.length
  · refine absurd ((mem_of a _).2 ⟨i, c1, ?_⟩) h2.1
    unfold tri
    rw [fat_left a b i (by omega), fat_left a b (i + 1) (by omega), fat_left a b (i + 2) (by omega)]
  · by_cases c2 : a.length ≤ i
    · refine absurd ((mem_of b _).2 ⟨i - a.length, by omega, ?_⟩) h2.2
      obtain ⟨j, rfl⟩ : ∃ j, i = a.length + j := ⟨i - a.length, by omega⟩
      rw [Nat.add_sub_cancel_left]
      unfold tri
      rw [show a.length + j + 1 = a.length + (j + 1) by omega, show a.length + j + 2 = a.length + (j + 2) by omega, fat_right, fat_right, fat_right]
    · rcases (by omega : i = a.length - 2 ∨ i = a.length - 1) with e | e
      · exact Or.inl (by rw [e])
      · exact Or.inr (by rw [e])

end Go.Proofs.YtlnbjdlooghpeaaGreatDoor
