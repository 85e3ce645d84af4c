/- Layer 9: Rx, Ex, Em, Ec, Ed, Ee, Ef, Eg, Eh, Ei, Ej, Ek. -/
import Init.Data.List.Lemmas
import Init.Data.UInt.Lemmas
import Derived.Lib.TrailingZeros
/-! ### Rx -/
namespace Go.Proofs.YtkghbhcjgogaeaaDoor

/-- An expression. -/
inductive Rx where
  | mk (kind : Int) (set : List (UInt8 × UInt8)) (least most : Int) (subs : List Rx)
def Rx.kind : Rx → Int
  | .mk k _ _ _ _ => k
def Rx.subs : Rx → List Rx
  | .mk _ _ _ _ l => l
def Rx.set : Rx → List (UInt8 × UInt8)
  | .mk _ s _ _ _ => s
def rx0 : Rx := .mk 0 [] 0 0 []

theorem Rx.ind {P : Rx → Prop} (h : ∀ k s a b l, (∀ x ∈ l, P x) → P (.mk k s a b l)) : ∀ r, P r
  | .mk k s a b l => h k s a b l fun x _hx => Rx.ind h x
termination_by r => sizeOf r
decreasing_by
  have := List.sizeOf_lt_of_mem _hx
  simp
  omega

/-! ### size, levels, sameness -/
mutual
def sizeR : Rx → Nat
  | .mk _ _ _ _ l => 1 + sizeL l
def sizeL : List Rx → Nat
  | [] => 0
  | x :: l => sizeR x + sizeL l
end
mutual
def depthR : Rx → Nat
  | .mk _ _ _ _ l => depthL l + 1
def depthL : List Rx → Nat
  | [] => 0
  | x :: l => max (depthR x) (depthL l)
end
mutual
def sameR : Rx → Rx → Bool
  | .mk k s a b l, .mk k' s' a' b' l' => decide (k = k') && decide (s = s') && decide (a = a') && decide (b = b') && sameL l l'
def sameL : List Rx → List Rx → Bool
  | [], [] => true
  | x :: l, y :: m => sameR x y && sameL l m
  | _, _ => false
end
theorem sameL_iff_of {l : List Rx} (h : ∀ x ∈ l, ∀ y, sameR x y = true ↔ x = y) : ∀ m, sameL l m = true ↔ l = m := by
  induction l with
  | nil => intro m; cases m <;> simp [sameL]
  | cons x l ih =>
    intro m
    cases m with
    | nil => simp [sameL]
    | cons y m =>
      unfold sameL
      rw [Bool.and_eq_true, h x (by simp) y, ih (fun z hz => h z (by simp [hz])) m]
      simp
theorem same_iff : ∀ x y : Rx, sameR x y = true ↔ x = y := by
  intro x
  induction x using Rx.ind with
  | h k s a b l ih =>
    intro y
    obtain ⟨k', s', a', b', l'⟩ := y
    unfold sameR
    rw [Bool.and_eq_true, sameL_iff_of ih]
    simp [and_assoc]
theorem sameL_iff (l m : List Rx) : sameL l m = true ↔ l = m := sameL_iff_of (fun x _ y => same_iff x y) m

/-! ### checks -/
def fieldsR : Rx → Bool
  | .mk k set a b l => decide (1 ≤ k ∧ k ≤ 7) && (decide (k = 1) == decide (0 < set.length)) && set.all (fun r => decide (r.1 ≤ r.2)) && (decide (k = 4) || decide (a = 0 ∧ b = 0)) &&
      (if k = 4 then decide (l.length = 1) else if k = 3 then decide (2 ≤ l.length) else decide (k = 2) || decide (l.length = 0))
def boundsR (a b : Int) : Bool := decide (0 ≤ a ∧ a ≤ 8 ∧ (b = -1 ∨ (1 ≤ b ∧ b ≤ 8 ∧ a ≤ b)))
mutual
def nodeR : Rx → Int
  | .mk k set a b l => if fieldsR (.mk k set a b l) = false then 1 else if k = 4 ∧ boundsR a b = false then 2 else nodeL l
def nodeL : List Rx → Int
  | [] => 0
  | x :: l => if nodeR x = 0 then nodeL l else nodeR x
end
def rightR (r : Rx) : Int := if nodeR r = 0 then (if 40 < sizeR r ∨ 12 < depthR r then 4 else 0) else nodeR r
theorem nodeL_ok {l : List Rx} (h : nodeL l = 0) : ∀ x ∈ l, nodeR x = 0 := by
  induction l with
  | nil => intro x hx; simp at hx
  | cons y l ih =>
    unfold nodeL at h
    by_cases hy : nodeR y = 0
    · rw [if_pos hy] at h
      intro x hx
      rcases List.mem_cons.1 hx with rfl | hx
      · exact hy
      · exact ih h x hx
    · rw [if_neg hy] at h
      exact absurd h hy
theorem node_ok {k : Int} {set : List (UInt8 × UInt8)} {a b : Int} {l : List Rx} (h : nodeR (.mk k set a b l) = 0) : fieldsR (.mk k set a b l) = true ∧ (k = 4 → boundsR a b = true) ∧ ∀ x ∈ l, nodeR x = 0 := by
  unfold nodeR at h
  by_cases hf : fieldsR (.mk k set a b l) = false
  · rw [if_pos hf] at h; omega
  · rw [if_neg hf] at h
    by_cases hb : k = 4 ∧ boundsR a b = false
    · rw [if_pos hb] at h; omega
    · rw [if_neg hb] at h
      refine ⟨by simpa using hf, fun hk => ?_, nodeL_ok h⟩
      cases hbb : boundsR a b with
      | true => rfl
      | false => exact absurd ⟨hk, hbb⟩ hb

/-! ### sets -/
def hasS (set : List (UInt8 × UInt8)) (c : UInt8) : Bool := set.any fun r => decide (r.1 ≤ c) && decide (c ≤ r.2)
/-- One byte more for canonical ranges. -/
def addB (l : List (UInt8 × UInt8)) (n : Nat) : List (UInt8 × UInt8) :=
  match l.getLast? with
  | some r => if r.2.toNat + 1 = n then l.dropLast ++ [(r.1, UInt8.ofNat n)] else l ++ [(UInt8.ofNat n, UInt8.ofNat n)]
  | none => [(UInt8.ofNat n, UInt8.ofNat n)]
/-- The canonical ranges of the bytes below n for which f holds. -/
def rgN (f : Nat → Bool) : Nat → List (UInt8 × UInt8)
  | 0 => []
  | n + 1 => if f n then addB (rgN f n) n else rgN f n
def rangesS (set : List (UInt8 × UInt8)) (other : Bool) : List (UInt8 × UInt8) := rgN (fun i => hasS set (UInt8.ofNat i) != other) 256
theorem has_app (a b : List (UInt8 × UInt8)) (c : UInt8) : hasS (a ++ b) c = (hasS a c || hasS b c) := by unfold hasS; rw [List.any_append]
theorem has_one (x y c : UInt8) : hasS [(x, y)] c = (decide (x.toNat ≤ c.toNat) && decide (c.toNat ≤ y.toNat)) := by
  unfold hasS
  simp [UInt8.le_iff_toNat_le]
theorem last_split {α : Type} {l : List α} {r : α} (h : l.getLast? = some r) : l = l.dropLast ++ [r] := by
  rw [List.getLast?_eq_some_iff] at h
  obtain ⟨m, rfl⟩ := h
  simp
theorem addB_has (l : List (UInt8 × UInt8)) (n : Nat) (hn : n < 256) (hl : ∀ r ∈ l, r.1.toNat ≤ r.2.toNat ∧ r.2.toNat < n) (c : UInt8) :
    hasS (addB l n) c = (hasS l c || decide (c.toNat = n)) ∧ ∀ r ∈ addB l n, r.1.toNat ≤ r.2.toNat ∧ r.2.toNat < n + 1 := by
  have hv : (UInt8.ofNat n).toNat = n := by simp; omega
  unfold addB
  cases h : l.getLast? with
  | none =>
    have : l = [] := by simpa using h
    subst this
    refine ⟨?_, fun r hr => ?_⟩
    · simp only [has_one, hv]
      have : hasS [] c = false := rfl
      rw [this, Bool.false_or, Bool.eq_iff_iff]
      simp
      omega
    · simp at hr
      subst hr
      simp only [hv]
      omega
  | some r =>
    have hs := last_split h
    have hr := hl r (by rw [hs]; simp)
    by_cases he : r.2.toNat + 1 = n
    · simp only [if_pos he]
      refine ⟨?_, fun q hq => ?_⟩
      · rw [has_app, has_one, hv]
        conv => rhs; rw [hs, has_app]
        rw [show ([r] : List (UInt8 × UInt8)) = [(r.1, r.2)] from rfl, has_one, Bool.or_assoc]
        congr 1
        rw [Bool.eq_iff_iff]
        simp
        omega
      · rw [List.mem_append, List.mem_singleton] at hq
        rcases hq with hq | rfl
        · have := hl q (by rw [hs]; simp [hq])
          omega
        · simp only [hv]
          omega
    · simp only [if_neg he]
      refine ⟨?_, fun q hq => ?_⟩
      · rw [has_app, has_one, hv]
        congr 1
        rw [Bool.eq_iff_iff]
        simp
        omega
      · rw [List.mem_append, List.mem_singleton] at hq
        rcases hq with hq | rfl
        · have := hl q hq
          omega
        · simp only [hv]
          omega
theorem rgN_has (f : Nat → Bool) (c : UInt8) : ∀ n, n ≤ 256 → (hasS (rgN f n) c = (decide (c.toNat < n) && f c.toNat) ∧ ∀ r ∈ rgN f n, r.1.toNat ≤ r.2.toNat ∧ r.2.toNat < n)
  | 0, _ => ⟨by simp [rgN, hasS], fun r hr => by simp [rgN] at hr⟩
  | n + 1, hn => by
    obtain ⟨h1, h2⟩ := rgN_has f c n (by omega)
    unfold rgN
    by_cases hf : f n = true
    · rw [if_pos hf]
      obtain ⟨a1, a2⟩ := addB_has (rgN f n) n (by omega) h2 c
      refine ⟨?_, a2⟩
      rw [a1, h1]
      by_cases hc : c.toNat = n
      · rw [hc, hf]; simp
      · have : decide (c.toNat < n + 1) = decide (c.toNat < n) := by rw [Bool.eq_iff_iff]; simp; omega
        rw [this]
        simp [hc]
    · rw [if_neg hf]
      refine ⟨?_, fun r hr => by have := h2 r hr; omega⟩
      rw [h1]
      by_cases hc : c.toNat = n
      · rw [hc]; simp at hf; simp [hf]
      · have : decide (c.toNat < n + 1) = decide (c.toNat < n) := by rw [Bool.eq_iff_iff]; simp; omega
        rw [this]
theorem has_ranges (set : List (UInt8 × UInt8)) (o : Bool) (c : UInt8) : hasS (rangesS set o) c = (hasS set c != o) := by
  unfold rangesS
  rw [(rgN_has _ c 256 (Nat.le_refl _)).1]
  have h : c.toNat < 256 := c.toNat_lt
  simp [h]
theorem ranges_le (set : List (UInt8 × UInt8)) (o : Bool) : ∀ r ∈ rangesS set o, r.1.toNat ≤ r.2.toNat := fun r hr => ((rgN_has _ 0 256 (Nat.le_refl _)).2 r hr).1
theorem rgN_congr {f g : Nat → Bool} : ∀ n, (∀ i, i < n → f i = g i) → rgN f n = rgN g n
  | 0, _ => rfl
  | n + 1, h => by unfold rgN; rw [rgN_congr n fun i hi => h i (by omega), h n (by omega)]
theorem ranges_ranges (set : List (UInt8 × UInt8)) (o p : Bool) : rangesS (rangesS set o) p = rangesS set (o != p) := by
  show rgN _ 256 = rgN _ 256
  refine rgN_congr 256 fun i _ => ?_
  rw [has_ranges]
  cases hasS set (UInt8.ofNat i) <;> cases o <;> cases p <;> rfl
theorem ranges_same {a b : List (UInt8 × UInt8)} (h : ∀ c, hasS a c = hasS b c) (o : Bool) : rangesS a o = rangesS b o := by
  show rgN _ 256 = rgN _ 256
  exact rgN_congr 256 fun i _ => by rw [h]

/-! ### lengths -/
def catStep (p q : Int × Int) : Int × Int := (p.1 + q.1, if p.2 < 0 ∨ q.2 < 0 then -1 else p.2 + q.2)
def altStep (p q : Int × Int) : Int × Int := (if q.1 < p.1 then q.1 else p.1, if p.2 < 0 ∨ q.2 < 0 then -1 else if p.2 < q.2 then q.2 else p.2)
def repStep (a b : Int) (q : Int × Int) : Int × Int := (a * q.1, if q.2 = 0 then 0 else if q.2 < 0 ∨ b < 0 then -1 else b * q.2)
mutual
def lenR : Rx → Int × Int
  | .mk k _ a b l => if k = 1 then (1, 1) else lenL k a b 0 (0, 0) l
def lenL (k a b : Int) : Nat → Int × Int → List Rx → Int × Int
  | _, p, [] => p
  | i, p, x :: l => if k = 4 then repStep a b (lenR x) else lenL k a b (i + 1) (if k = 2 then catStep p (lenR x) else if i = 0 then ((lenR x).1, if p.2 < 0 ∨ (lenR x).2 < 0 then -1 else if p.2 < (lenR x).2 then (lenR x).2 else p.2) else altStep p (lenR x)) l
end

/-! ### folding -/
def foldSet (set : List (UInt8 × UInt8)) : List (UInt8 × UInt8) :=
  rgN (fun i => hasS set (UInt8.ofNat i) || (decide (97 ≤ i ∧ i ≤ 122) && hasS set (UInt8.ofNat (i - 32))) || (decide (65 ≤ i ∧ i ≤ 90) && hasS set (UInt8.ofNat (i + 32)))) 256
mutual
def foldR : Rx → Rx
  | .mk k s a b l => .mk k (if k = 1 then foldSet s else []) a b (foldL l)
def foldL : List Rx → List Rx
  | [] => []
  | x :: l => foldR x :: foldL l
end

/-! ### the canonical string -/
def special : List UInt8 := [92, 46, 42, 43, 63, 40, 41, 91, 93, 123, 125, 124, 94, 36]
def inSet : List UInt8 := [92, 91, 93, 94, 45]
def writable (c : UInt8) : Bool := decide (c = 9) || decide (c = 10) || (decide (32 ≤ c) && decide (c ≤ 126))
def quoted (c : UInt8) (esc : List UInt8) : List UInt8 := if c = 9 then [92, 116] else if c = 10 then [92, 110] else if c ∈ esc then [92, c] else [c]
def elemS (r : UInt8 × UInt8) : List UInt8 := quoted r.1 inSet ++ (if r.1 < r.2 then 45 :: quoted r.2 inSet else [])
def rangesP (l : List (UInt8 × UInt8)) : Option (List UInt8) := if l.all (fun r => writable r.1 && writable r.2) then some (l.flatMap elemS) else none
def oneByte : List (UInt8 × UInt8) → Option UInt8
  | [(a, b)] => if a = b ∧ writable a then some a else none
  | _ => none
def ofSet (l : List (UInt8 × UInt8)) : Option (List UInt8) :=
  if l = rangesS l false then
    match oneByte l with
    | some a => some (quoted a special)
    | none =>
      if rangesS l true = [(10, 10)] then some [46] else
        match rangesP l with
        | some s => some (91 :: s ++ [93])
        | none =>
          match rangesP (rangesS l true) with
          | some s => if rangesS l true = [] then none else some (91 :: 94 :: s ++ [93])
          | none => none
  else none
def digitsS (n : Int) : List UInt8 := if 10 ≤ n then [UInt8.ofNat (48 + n.toNat / 10 % 10), UInt8.ofNat (48 + n.toNat % 10)] else [UInt8.ofNat (48 + n.toNat)]
def suffixS (a b : Int) : List UInt8 :=
  if a = 0 ∧ b = -1 then [42] else if a = 1 ∧ b = -1 then [43] else if a = 0 ∧ b = 1 then [63] else if b = a then 123 :: digitsS a ++ [125]
  else if b = -1 then 123 :: digitsS a ++ [44, 125] else 123 :: digitsS a ++ 44 :: digitsS b ++ [125]
def paren (outer k : Int) : Bool := decide (k = 3) || (decide (outer = 2) && decide (k = 2)) || (decide (outer = 4) && (decide (k = 2) || decide (k = 4)))
def wrapP (outer k : Int) (s : List UInt8) : List UInt8 := if paren outer k then 40 :: s ++ [41] else s
def altJ : List (List UInt8) → List UInt8
  | [] => []
  | [s] => s
  | s :: t :: l => s ++ 124 :: altJ (t :: l)
mutual
def canR : Rx → Option (List UInt8)
  | .mk k set a b l =>
    if k = 1 then ofSet set else if k = 5 then some [94] else if k = 6 then some [36] else if k = 7 then some [92, 98]
    else if k = 4 then (match canL 4 l with | some (s :: _) => some (s ++ suffixS a b) | _ => none)
    else if k = 2 ∧ l.length = 1 then none
    else match canL k l with | some t => some (if k = 3 then altJ t else t.flatten) | none => none
def canL (outer : Int) : List Rx → Option (List (List UInt8))
  | [] => some []
  | x :: l => match canR x with
    | none => none
    | some s => match canL outer l with | none => none | some t => some (wrapP outer x.kind s :: t)
end
def printS (r : Rx) : List UInt8 × Int := if rightR r = 0 then (match canR r with | some s => if 300 < s.length then ([], 3) else (s, 0) | none => ([], 3)) else ([], rightR r)

/-! ### parsing -/
def escapeS (c : UInt8) : Option (List (UInt8 × UInt8)) :=
  if c = 110 then some [(10, 10)] else if c = 116 then some [(9, 9)] else if c = 100 then some [(48, 57)]
  else if c = 119 then some [(48, 57), (65, 90), (95, 95), (97, 122)] else if c = 45 ∨ c ∈ special then some [(c, c)] else none
def oneS : List UInt8 → Option (List (UInt8 × UInt8) × List UInt8)
  | [] => none
  | c :: l => if c < 32 ∨ 126 < c then none else if c = 92 then (match l with | [] => none | d :: l' => match escapeS d with | some x => some (x, l') | none => none)
    else if c ∈ inSet then none else some ([(c, c)], l)
def classS : List UInt8 → Bool
  | a :: c :: _ => decide (a = 92) && (decide (c = 100) || decide (c = 119))
  | _ => false
def lo1 (x : List (UInt8 × UInt8)) : UInt8 := match x with | r :: _ => r.1 | [] => 0
def setE : Nat → List (UInt8 × UInt8) → List UInt8 → Option (List (UInt8 × UInt8) × List UInt8)
  | 0, _, _ => none
  | _ + 1, _, [] => none
  | n + 1, acc, c :: l =>
    if c = 93 then (if acc = [] then none else some (acc, l)) else
    match oneS (c :: l) with
    | none => none
    | some (x, r) =>
      if classS (c :: l) = false ∧ r.head? = some 45 then
        (if classS r.tail then none else
          match oneS r.tail with
          | none => none
          | some (y, e) => if lo1 y < lo1 x then none else setE n (acc ++ [(lo1 x, lo1 y)]) e)
      else setE n (acc ++ x) r
def setS (l : List UInt8) : Option (Rx × List UInt8) :=
  if l.head? = some 94 then (match setE (l.tail.length + 1) [] l.tail with | some (x, r) => some (.mk 1 (rangesS x true) 0 0 [], r) | none => none)
  else (match setE (l.length + 1) [] l with | some (x, r) => some (.mk 1 (rangesS x false) 0 0 [], r) | none => none)
def isDig (c : UInt8) : Bool := decide (48 ≤ c) && decide (c ≤ 57)
/-- How many digits at most four. -/
def digN (l : List UInt8) : Nat := ((l.take 4).takeWhile isDig).length
def valN (l : List UInt8) : Int := l.foldl (fun n c => n * 10 + ((c.toNat : Int) - 48)) 0
def numberS (l : List UInt8) : Option (Int × List UInt8) :=
  if digN l = 0 ∨ 3 < digN l ∨ (l.head? = some 48 ∧ 1 < digN l) then none else some (valN (l.take (digN l)), l.drop (digN l))
def boundsS (l : List UInt8) : Option (Int × Int × List UInt8) :=
  match numberS l with
  | none => none
  | some (m, r) =>
    match r with
    | [] => none
    | c :: r' =>
      if c = 125 then some (m, m, r') else if c = 44 then
        (match r' with
        | [] => none
        | d :: r'' => if d = 125 then some (m, -1, r'') else match numberS r' with
          | none => none
          | some (n, q) => match q with | [] => none | e :: q' => if e = 125 then some (m, n, q') else none)
      else none
def repS (r : Rx) (a b : Int) : Rx := .mk 4 [] a b [r]
def suffixP (r : Rx) : List UInt8 → Option (Rx × List UInt8)
  | [] => some (r, [])
  | c :: l => if c = 42 then some (repS r 0 (-1), l) else if c = 43 then some (repS r 1 (-1), l) else if c = 63 then some (repS r 0 1, l)
    else if c = 123 then (match boundsS l with | some (m, n, l') => some (repS r m n, l') | none => none) else some (r, c :: l)
def setR (x : List (UInt8 × UInt8)) : Rx := .mk 1 x 0 0 []
def wrapS (k : Int) (acc : List Rx) : Rx := match acc with | [x] => x | _ => .mk k [] 0 0 acc
mutual
def atomP : Nat → List UInt8 → Option (Rx × List UInt8)
  | 0, _ => none
  | _ + 1, [] => none
  | n + 1, c :: l =>
    if c = 40 then (match altP n [] l with | some (r, d :: l') => if d = 41 then some (r, l') else none | _ => none)
    else if c = 91 then setS l
    else if c = 46 then some (setR (rangesS [(10, 10)] true), l)
    else if c = 94 then some (.mk 5 [] 0 0 [], l)
    else if c = 36 then some (.mk 6 [] 0 0 [], l)
    else if c = 92 then (match l with | [] => none | d :: l' => if d = 98 then some (.mk 7 [] 0 0 [], l') else match escapeS d with | some x => some (setR x, l') | none => none)
    else if c < 32 ∨ 126 < c ∨ c ∈ special then none
    else some (setR [(c, c)], l)
def itemP : Nat → List UInt8 → Option (Rx × List UInt8)
  | 0, _ => none
  | n + 1, l => match atomP n l with | some (r, l') => suffixP r l' | none => none
def seqP : Nat → List Rx → List UInt8 → Option (Rx × List UInt8)
  | 0, _, _ => none
  | _ + 1, acc, [] => some (wrapS 2 acc, [])
  | n + 1, acc, c :: l => if c = 124 ∨ c = 41 then some (wrapS 2 acc, c :: l) else match itemP n (c :: l) with | some (r, l') => seqP n (acc ++ [r]) l' | none => none
def altP : Nat → List Rx → List UInt8 → Option (Rx × List UInt8)
  | 0, _, _ => none
  | n + 1, acc, l => match seqP n [] l with
    | none => none
    | some (r, l') => match l' with
      | [] => some (wrapS 3 (acc ++ [r]), [])
      | c :: l'' => if c = 124 then altP n (acc ++ [r]) l'' else some (wrapS 3 (acc ++ [r]), c :: l'')
end
def parseS (d : List UInt8) : Rx × Int :=
  if 300 < d.length then (rx0, 4) else
  match altP (4 * d.length + 4) [] d with
  | some (r, []) => if rightR r = 0 then (r, 0) else (rx0, rightR r)
  | _ => (rx0, 3)

end Go.Proofs.YtkghbhcjgogaeaaDoor
/-! ### Ex -/
namespace Go.Proofs.YtkghbhcjgogaeaaDoor

/-- n steps of R. -/
def Iter (R : Nat → Nat → Prop) : Nat → Nat → Nat → Prop
  | 0, i, j => i = j
  | n + 1, i, j => ∃ m, R i m ∧ Iter R n m j
theorem iter_last {R : Nat → Nat → Prop} : ∀ (n i j : Nat), Iter R (n + 1) i j ↔ ∃ m, Iter R n i m ∧ R m j
  | 0, i, j => ⟨fun ⟨m, h, e⟩ => by subst e; exact ⟨i, rfl, h⟩, fun ⟨m, e, h⟩ => by subst e; exact ⟨j, h, rfl⟩⟩
  | n + 1, i, j => by
    constructor
    · rintro ⟨m, h, k⟩
      obtain ⟨q, k1, k2⟩ := (iter_last n m j).1 k
      exact ⟨q, ⟨m, h, k1⟩, k2⟩
    · rintro ⟨q, ⟨m, h, k1⟩, k2⟩
      exact ⟨m, h, (iter_last n m j).2 ⟨q, k1, k2⟩⟩
/-- What n steps reach from P; what at most k steps reach. -/
def ImgN (R : Nat → Nat → Prop) (n : Nat) (P : Nat → Prop) (j : Nat) : Prop := ∃ i, P i ∧ Iter R n i j
def UpTo (R : Nat → Nat → Prop) (k : Nat) (P : Nat → Prop) (j : Nat) : Prop := ∃ n, n ≤ k ∧ ImgN R n P j
theorem imgN_zero {R : Nat → Nat → Prop} {P : Nat → Prop} (j : Nat) : ImgN R 0 P j ↔ P j := ⟨fun ⟨i, h, e⟩ => by cases e; exact h, fun h => ⟨j, h, rfl⟩⟩
theorem imgN_succ {R : Nat → Nat → Prop} {P : Nat → Prop} (n j : Nat) : ImgN R (n + 1) P j ↔ ∃ m, ImgN R n P m ∧ R m j := by
  constructor
  · rintro ⟨i, h, k⟩
    obtain ⟨m, k1, k2⟩ := (iter_last n i j).1 k
    exact ⟨m, ⟨i, h, k1⟩, k2⟩
  · rintro ⟨m, ⟨i, h, k1⟩, k2⟩
    exact ⟨i, h, (iter_last n i j).2 ⟨m, k1, k2⟩⟩
theorem imgN_add {R : Nat → Nat → Prop} {P : Nat → Prop} (m : Nat) : ∀ (n j : Nat), ImgN R (m + n) P j ↔ ImgN R n (ImgN R m P) j
  | 0, j => (imgN_zero j).symm
  | n + 1, j => by
    rw [← Nat.add_assoc, imgN_succ, imgN_succ]
    exact ⟨fun ⟨q, h, k⟩ => ⟨q, (imgN_add m n q).1 h, k⟩, fun ⟨q, h, k⟩ => ⟨q, (imgN_add m n q).2 h, k⟩⟩
/-- A set that a step leaves as it is: so do n steps. -/
theorem imgN_fix {R : Nat → Nat → Prop} {P : Nat → Prop} (h : ∀ j, ImgN R 1 P j ↔ P j) : ∀ (n j : Nat), ImgN R n P j ↔ P j
  | 0, j => imgN_zero j
  | n + 1, j => by
    rw [imgN_succ]
    constructor
    · rintro ⟨m, k1, k2⟩
      exact (h j).1 ⟨m, (imgN_fix h n m).1 k1, j, k2, rfl⟩
    · intro hj
      obtain ⟨m, hm, q, k1, k2⟩ := (h j).2 hj
      cases k2
      exact ⟨m, (imgN_fix h n m).2 hm, k1⟩
/-- all: what at most k steps reach; edge: what of it no step was taken from. -/
structure Front (R : Nat → Nat → Prop) (P : Nat → Prop) (k : Nat) (all edge : Nat → Prop) : Prop where
  is : ∀ j, all j ↔ UpTo R k P j
  sub : ∀ j, edge j → all j
  shut : ∀ i j, all i → R i j → all j ∨ ∃ e, edge e ∧ R e j
theorem Front.start (R : Nat → Nat → Prop) (P : Nat → Prop) : Front R P 0 P P := by
  refine ⟨fun j => ⟨fun h => ⟨0, Nat.le_refl _, j, h, rfl⟩, ?_⟩, fun j h => h, fun i j h k => Or.inr ⟨i, h, k⟩⟩
  rintro ⟨n, hn, h⟩
  obtain rfl : n = 0 := by omega
  exact (imgN_zero j).1 h
theorem Front.next {R : Nat → Nat → Prop} {P : Nat → Prop} {k : Nat} {all edge : Nat → Prop} (h : Front R P k all edge) {all' edge' : Nat → Prop}
    (ha : ∀ j, all' j ↔ all j ∨ ∃ e, edge e ∧ R e j) (he : ∀ j, edge' j ↔ (∃ e, edge e ∧ R e j) ∧ ¬ all j) : Front R P (k + 1) all' edge' := by
  refine ⟨fun j => ?_, fun j hj => (ha j).2 (Or.inr ((he j).1 hj).1), fun i j hi hij => ?_⟩
  · rw [ha]
    constructor
    · rintro (hj | ⟨e, hj, hr⟩)
      · obtain ⟨n, hn, hi⟩ := (h.is j).1 hj
        exact ⟨n, by omega, hi⟩
      · obtain ⟨n, hn, hi⟩ := (h.is e).1 (h.sub e hj)
        exact ⟨n + 1, by omega, (imgN_succ n j).2 ⟨e, hi, hr⟩⟩
    · rintro ⟨n, hn, hi⟩
      cases n with
      | zero => exact Or.inl ((h.is j).2 ⟨0, Nat.zero_le _, hi⟩)
      | succ n =>
        obtain ⟨m, hm, hr⟩ := (imgN_succ n j).1 hi
        exact h.shut m j ((h.is m).2 ⟨n, by omega, hm⟩) hr
  · by_cases hia : all i
    · exact Or.inl ((ha j).2 (h.shut i j hia hij))
    · exact Or.inr ⟨i, (he i).2 ⟨((ha i).1 hi).resolve_left hia, hia⟩, hij⟩
/-- Nothing new: more steps reach nothing more. -/
theorem Front.done {R : Nat → Nat → Prop} {P : Nat → Prop} {k : Nat} {all edge : Nat → Prop} (h : Front R P k all edge) (h0 : ∀ j, ¬ edge j) (K : Nat) (hK : k ≤ K) (j : Nat) : all j ↔ UpTo R K P j := by
  have shut : ∀ (n i : Nat), ImgN R n P i → all i := by
    intro n
    induction n with
    | zero => exact fun i hi => (h.is i).2 ⟨0, Nat.zero_le _, hi⟩
    | succ n ih =>
      intro i hi
      obtain ⟨m, hm, hr⟩ := (imgN_succ n i).1 hi
      rcases h.shut m i (ih m hm) hr with hh | ⟨e, he, _⟩
      · exact hh
      · exact absurd he (h0 e)
  exact ⟨fun hj => by obtain ⟨n, hn, hi⟩ := (h.is j).1 hj; exact ⟨n, by omega, hi⟩, fun ⟨n, _, hi⟩ => shut n j hi⟩
end Go.Proofs.YtkghbhcjgogaeaaDoor
/-! ### Em -/
namespace Go.Proofs.YtkghbhcjgogaeaaDoor

def wordC (c : UInt8) : Bool := (decide (97 ≤ c) && decide (c ≤ 122)) || (decide (65 ≤ c) && decide (c ≤ 90)) || (decide (48 ≤ c) && decide (c ≤ 57)) || decide (c = 95)
def wordB (s : List UInt8) (i : Nat) : Bool := match s[i]? with | some c => wordC c | none => false
/-- Whether an expression without length matches at i. -/
def standsB (k : Int) (s : List UInt8) (i : Nat) : Bool :=
  if k = 5 then decide (i = 0) || decide (s[i - 1]? = some 10) else if k = 6 then decide (i = s.length) || decide (s[i]? = some 10) else (if i = 0 then false else wordB s (i - 1)) != wordB s i
mutual
def mtR : Rx → List UInt8 → Nat → Nat → Prop
  | .mk k set a b l, s, i, j =>
    if k = 2 then mtCat l s i j else if k = 3 then mtAlt l s i j else if k = 4 then (∃ n : Nat, a ≤ n ∧ (b < 0 ∨ (n : Int) ≤ b) ∧ Iter (mtOne l s) n i j) else
    if k = 1 then (∃ c, s[i]? = some c ∧ hasS set c = true ∧ j = i + 1) else (i ≤ s.length ∧ standsB k s i = true ∧ j = i)
def mtCat : List Rx → List UInt8 → Nat → Nat → Prop
  | [], _, i, j => i = j
  | x :: l, s, i, j => ∃ m, mtR x s i m ∧ mtCat l s m j
def mtAlt : List Rx → List UInt8 → Nat → Nat → Prop
  | [], _, _, _ => False
  | x :: l, s, i, j => mtR x s i j ∨ mtAlt l s i j
def mtOne : List Rx → List UInt8 → Nat → Nat → Prop
  | [], _, _, _ => False
  | x :: _, s, i, j => mtR x s i j
end
theorem iter_le {R : Nat → Nat → Prop} {N : Nat} (h : ∀ i j, i ≤ N → R i j → i ≤ j ∧ j ≤ N) : ∀ (n i j : Nat), i ≤ N → Iter R n i j → i ≤ j ∧ j ≤ N
  | 0, i, j, hi, e => by cases e; exact ⟨Nat.le_refl _, hi⟩
  | n + 1, i, j, hi, ⟨m, h1, h2⟩ => by
    obtain ⟨a, b⟩ := h i m hi h1
    obtain ⟨c, d⟩ := iter_le h n m j b h2
    exact ⟨Nat.le_trans a c, d⟩
theorem mt_le (r : Rx) (s : List UInt8) : ∀ i j, i ≤ s.length → mtR r s i j → i ≤ j ∧ j ≤ s.length := by
  induction r using Rx.ind with
  | h k set a b l ih =>
    intro i j hi h
    unfold mtR at h
    split at h
    · have : ∀ (m : List Rx), (∀ x ∈ m, x ∈ l) → ∀ i j, i ≤ s.length → mtCat m s i j → i ≤ j ∧ j ≤ s.length := by
        intro m
        induction m with
        | nil => intro _ i j hi e; unfold mtCat at e; cases e; exact ⟨Nat.le_refl _, hi⟩
        | cons x m ihm =>
          intro hm i j hi e
          unfold mtCat at e
          obtain ⟨q, h1, h2⟩ := e
          obtain ⟨a1, a2⟩ := ih x (hm x (by simp)) i q hi h1
          obtain ⟨b1, b2⟩ := ihm (fun y hy => hm y (List.mem_cons_of_mem _ hy)) q j a2 h2
          exact ⟨Nat.le_trans a1 b1, b2⟩
      exact this l (fun x hx => hx) i j hi h
    · split at h
      · have : ∀ (m : List Rx), (∀ x ∈ m, x ∈ l) → mtAlt m s i j → i ≤ j ∧ j ≤ s.length := by
          intro m
          induction m with
          | nil => intro _ e; unfold mtAlt at e; exact e.elim
          | cons x m ihm =>
            intro hm e
            unfold mtAlt at e
            rcases e with e | e
            · exact ih x (hm x (by simp)) i j hi e
            · exact ihm (fun y hy => hm y (List.mem_cons_of_mem _ hy)) e
        exact this l (fun x hx => hx) h
      · split at h
        · obtain ⟨n, _, _, hn⟩ := h
          refine iter_le (N := s.length) (fun i j hi h => ?_) n i j hi hn
          cases l with
          | nil => unfold mtOne at h; exact h.elim
          | cons x l => unfold mtOne at h; exact ih x (by simp) i j hi h
        · split at h
          · obtain ⟨c, h1, _, rfl⟩ := h
            have := (List.getElem?_eq_some_iff.1 h1).1
            omega
          · obtain ⟨_, _, rfl⟩ := h
            exact ⟨Nat.le_refl _, hi⟩
/-- What a set of offsets reaches by an expression. -/
def Img (R : Nat → Nat → Prop) (P : Nat → Prop) (j : Nat) : Prop := ∃ i, P i ∧ R i j
theorem img_cat {s : List UInt8} {P : Nat → Prop} (x : Rx) (l : List Rx) (j : Nat) : Img (mtCat (x :: l) s) P j ↔ Img (mtCat l s) (Img (mtR x s) P) j := by
  constructor
  · rintro ⟨i, hi, h⟩
    unfold mtCat at h
    obtain ⟨m, h1, h2⟩ := h
    exact ⟨m, ⟨i, hi, h1⟩, h2⟩
  · rintro ⟨m, ⟨i, hi, h1⟩, h2⟩
    exact ⟨i, hi, by unfold mtCat; exact ⟨m, h1, h2⟩⟩
theorem img_alt {s : List UInt8} {P : Nat → Prop} (x : Rx) (l : List Rx) (j : Nat) : Img (mtAlt (x :: l) s) P j ↔ Img (mtR x s) P j ∨ Img (mtAlt l s) P j := by
  constructor
  · rintro ⟨i, hi, h⟩
    unfold mtAlt at h
    exact h.imp (fun h => ⟨i, hi, h⟩) fun h => ⟨i, hi, h⟩
  · rintro (⟨i, hi, h⟩ | ⟨i, hi, h⟩)
    · exact ⟨i, hi, by unfold mtAlt; exact Or.inl h⟩
    · exact ⟨i, hi, by unfold mtAlt; exact Or.inr h⟩
theorem img_one {R : Nat → Nat → Prop} {P : Nat → Prop} (j : Nat) : ImgN R 1 P j ↔ Img R P j :=
  ⟨fun ⟨i, hi, m, h, e⟩ => by cases e; exact ⟨i, hi, h⟩, fun ⟨i, hi, h⟩ => ⟨i, hi, j, h, rfl⟩⟩
/-- From a steps on, b - a further ones. -/
theorem rep_upto {R : Nat → Nat → Prop} {P : Nat → Prop} (a d j : Nat) : UpTo R d (ImgN R a P) j ↔ ∃ n, a ≤ n ∧ n ≤ a + d ∧ ImgN R n P j := by
  constructor
  · rintro ⟨n, hn, h⟩
    exact ⟨a + n, by omega, by omega, (imgN_add a n j).2 h⟩
  · rintro ⟨n, h1, h2, h⟩
    refine ⟨n - a, by omega, (imgN_add a (n - a) j).1 ?_⟩
    rwa [show a + (n - a) = n by omega]
end Go.Proofs.YtkghbhcjgogaeaaDoor
/-! ### Ec -/
namespace Go.Proofs.YtkghbhcjgogaeaaDoor

def noneC (n : Nat) : List Bool := List.replicate (n + 1) false
def bothC (a b : List Bool) : List Bool := a.zipWith (· || ·) b
def freshC (a b : List Bool) : List Bool := a.zipWith (fun x y => x && !y) b
/-- One leaf: a byte of the set (k = 1), or a place without length. -/
def leafC (k : Int) (set : List (UInt8 × UInt8)) (s : List UInt8) (f : List Bool) : List Bool :=
  (List.range (s.length + 1)).map fun j => if k = 1 then (decide (0 < j) && f.getD (j - 1) false && (match s[j - 1]? with | some c => hasS set c | none => false)) else f.getD j false && standsB k s j
def frontC (T : List Bool → List Bool) : Nat → List Bool → List Bool → List Bool
  | 0, all, _ => all
  | k + 1, all, edge => frontC T k (bothC all (T edge)) (freshC (T edge) all)
def timesC (T : List Bool → List Bool) : Nat → List Bool → List Bool
  | 0, f => f
  | n + 1, f => timesC T n (T f)
def repC (T : List Bool → List Bool) (a b : Int) (N : Nat) (f : List Bool) : List Bool :=
  frontC T (if b < 0 then N + 2 else b.toNat - a.toNat) (timesC T a.toNat f) (timesC T a.toNat f)
mutual
def stepC : Rx → List UInt8 → List Bool → List Bool
  | .mk k set a b l, s, f => if k = 2 then catC l s f else if k = 3 then altC l s f else if k = 4 then repC (fun g => oneC l s g) a b s.length f else leafC k set s f
def catC : List Rx → List UInt8 → List Bool → List Bool
  | [], _, f => f
  | x :: l, s, f => catC l s (stepC x s f)
def altC : List Rx → List UInt8 → List Bool → List Bool
  | [], s, _ => noneC s.length
  | x :: l, s, f => bothC (stepC x s f) (altC l s f)
def oneC : List Rx → List UInt8 → List Bool → List Bool
  | [], s, _ => noneC s.length
  | x :: _, s, f => stepC x s f
end
/-- The offsets in the set, in order. -/
def offsC (f : List Bool) : List Nat := (List.range f.length).filter fun i => f.getD i false
def endsC (r : Rx) (s : List UInt8) (i : Nat) : List Nat := offsC (stepC r s ((noneC s.length).set i true))
def rA : Rx := .mk 2 [] 0 0 [.mk 1 [(97, 97)] 0 0 [], .mk 4 [] 1 (-1) [.mk 1 [(98, 98)] 0 0 []], .mk 1 [(99, 99)] 0 0 []]
theorem ex_ends1 : endsC rA [120, 97, 98, 98, 99] 1 = [5] := by decide
theorem ex_ends0 : endsC rA [120, 97, 98, 98, 99] 0 = [] := by decide

theorem noneC_len (n : Nat) : (noneC n).length = n + 1 := by simp [noneC]
theorem bothC_len {a b : List Bool} {n : Nat} (ha : a.length = n) (hb : b.length = n) : (bothC a b).length = n := by simp [bothC, ha, hb]
theorem freshC_len {a b : List Bool} {n : Nat} (ha : a.length = n) (hb : b.length = n) : (freshC a b).length = n := by simp [freshC, ha, hb]
theorem frontC_len {T : List Bool → List Bool} {n : Nat} (hT : ∀ f : List Bool, f.length = n → (T f).length = n) : ∀ (k : Nat) (a e : List Bool), a.length = n → e.length = n → (frontC T k a e).length = n
  | 0, _, _, ha, _ => ha
  | k + 1, _, e, ha, he => frontC_len hT k _ _ (bothC_len ha (hT e he)) (freshC_len (hT e he) ha)
theorem timesC_len {T : List Bool → List Bool} {n : Nat} (hT : ∀ f : List Bool, f.length = n → (T f).length = n) : ∀ (k : Nat) (f : List Bool), f.length = n → (timesC T k f).length = n
  | 0, _, h => h
  | k + 1, f, h => timesC_len hT k _ (hT f h)
theorem stepC_len (r : Rx) (s : List UInt8) : ∀ f : List Bool, f.length = s.length + 1 → (stepC r s f).length = s.length + 1 := by
  induction r using Rx.ind with
  | h k set a b l ih =>
    intro f hf
    unfold stepC
    split
    · have : ∀ (m : List Rx), (∀ x ∈ m, x ∈ l) → ∀ f : List Bool, f.length = s.length + 1 → (catC m s f).length = s.length + 1 := by
        intro m
        induction m with
        | nil => intro _ f hf; unfold catC; exact hf
        | cons x m ihm => intro hm f hf; unfold catC; exact ihm (fun y hy => hm y (List.mem_cons_of_mem _ hy)) _ (ih x (hm x (by simp)) f hf)
      exact this l (fun x hx => hx) f hf
    · split
      · have : ∀ (m : List Rx), (∀ x ∈ m, x ∈ l) → (altC m s f).length = s.length + 1 := by
          intro m
          induction m with
          | nil => intro _; unfold altC; exact noneC_len _
          | cons x m ihm => intro hm; unfold altC; exact bothC_len (ih x (hm x (by simp)) f hf) (ihm fun y hy => hm y (List.mem_cons_of_mem _ hy))
        exact this l fun x hx => hx
      · split
        · have hT : ∀ g : List Bool, g.length = s.length + 1 → (oneC l s g).length = s.length + 1 := by
            intro g hg
            cases l with
            | nil => unfold oneC; exact noneC_len _
            | cons x l => unfold oneC; exact ih x (by simp) g hg
          exact frontC_len hT _ _ _ (timesC_len hT _ f hf) (timesC_len hT _ f hf)
        · simp [leafC]
end Go.Proofs.YtkghbhcjgogaeaaDoor
/-! ### Ed -/
namespace Go.Proofs.YtkghbhcjgogaeaaDoor

theorem getD_out {f : List Bool} {j : Nat} (h : f.length ≤ j) : f.getD j false = false := by simp [List.getD, List.getElem?_eq_none h]
/-- Offset j is in the set. -/
def On (f : List Bool) (j : Nat) : Prop := f.getD j false = true
theorem on_lt {f : List Bool} {j : Nat} (h : On f j) : j < f.length := by
  unfold On at h
  by_cases hj : j < f.length
  · exact hj
  · rw [getD_out (by omega)] at h; cases h
theorem bothC_at {a b : List Bool} (h : a.length = b.length) (j : Nat) : On (bothC a b) j ↔ On a j ∨ On b j := by
  unfold On bothC
  by_cases hj : j < a.length
  · have hb : j < b.length := by omega
    simp [List.getD, hj, hb, List.getElem?_zipWith]
  · have hb : ¬ j < b.length := by omega
    rw [getD_out (by simp; omega), getD_out (by omega), getD_out (by omega)]
    simp
theorem freshC_at {a b : List Bool} (h : a.length = b.length) (j : Nat) : On (freshC a b) j ↔ On a j ∧ ¬ On b j := by
  unfold On freshC
  by_cases hj : j < a.length
  · have hb : j < b.length := by omega
    simp [List.getD, hj, hb, List.getElem?_zipWith]
  · have hb : ¬ j < b.length := by omega
    rw [getD_out (by simp; omega), getD_out (by omega), getD_out (by omega)]
    simp
theorem noneC_at (n j : Nat) : ¬ On (noneC n) j := by
  intro h
  have := on_lt h
  unfold On noneC at h
  simp [List.getD, List.getElem?_replicate] at h
  split at h <;> simp at h
theorem timesC_at {T : List Bool → List Bool} {R : Nat → Nat → Prop} {n : Nat} (hl : ∀ f : List Bool, f.length = n → (T f).length = n) (hT : ∀ f : List Bool, f.length = n → ∀ j, On (T f) j ↔ Img R (On f) j) :
    ∀ (k : Nat) (f : List Bool), f.length = n → ∀ j, On (timesC T k f) j ↔ ImgN R k (On f) j
  | 0, _, _, j => (imgN_zero j).symm
  | k + 1, f, hf, j => by
    unfold timesC
    rw [timesC_at hl hT k (T f) (hl f hf) j, show k + 1 = 1 + k by omega, imgN_add 1 k j]
    have e : On (T f) = ImgN R 1 (On f) := funext fun q => propext ((hT f hf q).trans (img_one q).symm)
    rw [e]
theorem frontC_at {T : List Bool → List Bool} {R : Nat → Nat → Prop} {P : Nat → Prop} {n : Nat} (hl : ∀ f : List Bool, f.length = n → (T f).length = n) (hT : ∀ f : List Bool, f.length = n → ∀ j, On (T f) j ↔ Img R (On f) j) :
    ∀ (m k : Nat) (a e : List Bool), a.length = n → e.length = n → Front R P k (On a) (On e) → ∀ j, On (frontC T m a e) j ↔ UpTo R (k + m) P j
  | 0, _, _, _, _, _, h, j => h.is j
  | m + 1, k, a, e, ha, he, h, j => by
    unfold frontC
    rw [frontC_at hl hT m (k + 1) _ _ (bothC_len ha (hl e he)) (freshC_len (hl e he) ha) (h.next (fun q => (bothC_at (by rw [ha, hl e he]) q).trans (or_congr Iff.rfl (hT e he q))) fun q => (freshC_at (by rw [ha, hl e he]) q).trans (and_congr (hT e he q) Iff.rfl)) j, show k + 1 + m = k + (m + 1) by omega]
/-- Steps that stay where they are may be left out. -/
theorem iter_short {R : Nat → Nat → Prop} {N : Nat} (h : ∀ i j, i ≤ N → R i j → i ≤ j ∧ j ≤ N) : ∀ (n i j : Nat), i ≤ N → Iter R n i j → ∃ m, m ≤ j - i ∧ Iter R m i j
  | 0, i, j, _, e => ⟨0, Nat.zero_le _, e⟩
  | n + 1, i, j, hi, ⟨q, h1, h2⟩ => by
    obtain ⟨a1, a2⟩ := h i q hi h1
    obtain ⟨b1, _⟩ := iter_le h n q j a2 h2
    obtain ⟨m, hm, k⟩ := iter_short h n q j a2 h2
    by_cases e : q = i
    · subst e; exact ⟨m, hm, k⟩
    · exact ⟨m + 1, by omega, q, h1, k⟩
theorem repC_at {T : List Bool → List Bool} {R : Nat → Nat → Prop} {N : Nat} (hl : ∀ f : List Bool, f.length = N + 1 → (T f).length = N + 1) (hT : ∀ f : List Bool, f.length = N + 1 → ∀ j, On (T f) j ↔ Img R (On f) j) (hR : ∀ i j, i ≤ N → R i j → i ≤ j ∧ j ≤ N)
    (a b : Int) (ha : 0 ≤ a) (hab : b < 0 ∨ a ≤ b) (f : List Bool) (hf : f.length = N + 1) (j : Nat) : On (repC T a b N f) j ↔ ∃ n : Nat, a ≤ n ∧ (b < 0 ∨ (n : Int) ≤ b) ∧ ImgN R n (On f) j := by
  unfold repC
  have hL := timesC_len hl a.toNat f hf
  have e : On (timesC T a.toNat f) = ImgN R a.toNat (On f) := funext fun q => propext (timesC_at hl hT a.toNat f hf q)
  rw [frontC_at hl hT _ 0 _ _ hL hL (Front.start R _) j, Nat.zero_add, e, rep_upto]
  by_cases hb : b < 0
  · rw [if_pos hb]
    constructor
    · rintro ⟨n, h1, _, h⟩
      exact ⟨n, by omega, Or.inl hb, h⟩
    · rintro ⟨n, h1, _, h⟩
      have h' : ImgN R (a.toNat + (n - a.toNat)) (On f) j := by rwa [show a.toNat + (n - a.toNat) = n by omega]
      obtain ⟨i, hi, hit⟩ := (imgN_add a.toNat (n - a.toNat) j).1 h'
      have hiN : i ≤ N := by
        obtain ⟨q, hq, hqi⟩ := hi
        have := on_lt hq
        exact (iter_le hR _ q i (by omega) hqi).2
      have hjN := (iter_le hR _ i j hiN hit).2
      obtain ⟨m, hm, k⟩ := iter_short hR _ i j hiN hit
      exact ⟨a.toNat + m, by omega, by omega, (imgN_add a.toNat m j).2 ⟨i, hi, k⟩⟩
  · rw [if_neg hb]
    have hab' := hab.resolve_left hb
    constructor
    · rintro ⟨n, h1, h2, h⟩
      exact ⟨n, by omega, Or.inr (by omega), h⟩
    · rintro ⟨n, h1, h2, h⟩
      have := h2.resolve_left hb
      exact ⟨n, by omega, by omega, h⟩
end Go.Proofs.YtkghbhcjgogaeaaDoor
/-! ### Ee -/
namespace Go.Proofs.YtkghbhcjgogaeaaDoor

theorem getD_range (n : Nat) (g : Nat → Bool) (j : Nat) : ((List.range n).map g).getD j false = (decide (j < n) && g j) := by
  by_cases h : j < n
  · simp [List.getD, h]
  · simp [List.getD, h]
theorem leafC_at (k : Int) (set : List (UInt8 × UInt8)) (s : List UInt8) (f : List Bool) (a b : Int) (l : List Rx) (h2 : ¬ k = 2) (h3 : ¬ k = 3) (h4 : ¬ k = 4) (j : Nat) :
    On (leafC k set s f) j ↔ Img (mtR (.mk k set a b l) s) (On f) j := by
  unfold On leafC
  rw [getD_range, Bool.and_eq_true, decide_eq_true_eq]
  unfold Img mtR
  simp only [if_neg h2, if_neg h3, if_neg h4]
  by_cases h1 : k = 1
  · simp only [if_pos h1]
    constructor
    · rintro ⟨hj, h⟩
      simp only [Bool.and_eq_true, decide_eq_true_eq] at h
      obtain ⟨⟨h0, hfj⟩, hs⟩ := h
      split at hs
      · rename_i c hc
        exact ⟨j - 1, hfj, c, hc, hs, by omega⟩
      · cases hs
    · rintro ⟨i, hfi, c, hc, hs, rfl⟩
      have := (List.getElem?_eq_some_iff.1 hc).1
      refine ⟨by omega, ?_⟩
      simp only [Nat.add_sub_cancel, hc, hs, Bool.and_true, Bool.and_eq_true, decide_eq_true_eq]
      exact ⟨by omega, hfi⟩
  · simp only [if_neg h1]
    constructor
    · rintro ⟨hj, h⟩
      rw [Bool.and_eq_true] at h
      exact ⟨j, h.1, by omega, h.2, rfl⟩
    · rintro ⟨i, hfi, hi, hs, rfl⟩
      exact ⟨by omega, by rw [Bool.and_eq_true]; exact ⟨hfi, hs⟩⟩
theorem stepC_at (r : Rx) (s : List UInt8) : nodeR r = 0 → ∀ f : List Bool, f.length = s.length + 1 → ∀ j, On (stepC r s f) j ↔ Img (mtR r s) (On f) j := by
  induction r using Rx.ind with
  | h k set a b l ih =>
    intro hn f hf j
    obtain ⟨_, hb, hsub⟩ := node_ok hn
    unfold stepC
    by_cases h2 : k = 2
    · rw [if_pos h2]
      have : ∀ (m : List Rx), (∀ x ∈ m, x ∈ l) → ∀ f : List Bool, f.length = s.length + 1 → (On (catC m s f) j ↔ Img (mtCat m s) (On f) j) := by
        intro m
        induction m with
        | nil =>
          intro _ f _
          unfold catC
          exact ⟨fun h => ⟨j, h, by unfold mtCat; rfl⟩, fun ⟨i, hi, e⟩ => by unfold mtCat at e; cases e; exact hi⟩
        | cons x m ihm =>
          intro hm f hf
          unfold catC
          have hx := hm x (by simp)
          rw [ihm (fun y hy => hm y (List.mem_cons_of_mem _ hy)) _ (stepC_len x s f hf), img_cat]
          have e : On (stepC x s f) = Img (mtR x s) (On f) := funext fun q => propext (ih x hx (hsub x hx) f hf q)
          rw [e]
      rw [this l (fun x hx => hx) f hf]
      unfold Img mtR
      simp only [if_pos h2]
    · rw [if_neg h2]
      by_cases h3 : k = 3
      · rw [if_pos h3]
        have : ∀ (m : List Rx), (∀ x ∈ m, x ∈ l) → (altC m s f).length = s.length + 1 ∧ (On (altC m s f) j ↔ Img (mtAlt m s) (On f) j) := by
          intro m
          induction m with
          | nil =>
            intro _
            unfold altC
            exact ⟨noneC_len _, fun h => absurd h (noneC_at _ _), fun ⟨i, _, e⟩ => by unfold mtAlt at e; exact e.elim⟩
          | cons x m ihm =>
            intro hm
            have hx := hm x (by simp)
            obtain ⟨l1, l2⟩ := ihm fun y hy => hm y (List.mem_cons_of_mem _ hy)
            have lx := stepC_len x s f hf
            unfold altC
            exact ⟨bothC_len lx l1, by rw [bothC_at (by rw [lx, l1]), img_alt, l2, ih x hx (hsub x hx) f hf]⟩
        rw [(this l fun x hx => hx).2]
        unfold Img mtR
        simp only [if_neg h2, if_pos h3]
      · rw [if_neg h3]
        by_cases h4 : k = 4
        · rw [if_pos h4]
          have hbd := hb h4
          have hl : ∀ g : List Bool, g.length = s.length + 1 → (oneC l s g).length = s.length + 1 := by
            intro g hg
            cases l with
            | nil => unfold oneC; exact noneC_len _
            | cons x l => unfold oneC; exact stepC_len x s g hg
          have hT : ∀ g : List Bool, g.length = s.length + 1 → ∀ q, On (oneC l s g) q ↔ Img (mtOne l s) (On g) q := by
            intro g hg q
            cases l with
            | nil =>
              unfold oneC
              exact ⟨fun h => absurd h (noneC_at _ _), fun ⟨i, _, e⟩ => by unfold mtOne at e; exact e.elim⟩
            | cons x l =>
              unfold oneC
              rw [ih x (by simp) (hsub x (by simp)) g hg q]
              unfold Img mtOne
              exact Iff.rfl
          have hR : ∀ i q, i ≤ s.length → mtOne l s i q → i ≤ q ∧ q ≤ s.length := by
            intro i q hi h
            cases l with
            | nil => unfold mtOne at h; exact h.elim
            | cons x l => unfold mtOne at h; exact mt_le x s i q hi h
          have hab : 0 ≤ a ∧ (b < 0 ∨ a ≤ b) := by
            unfold boundsR at hbd
            simp at hbd
            omega
          rw [repC_at hl hT hR a b hab.1 hab.2 f hf j]
          unfold Img mtR
          simp only [if_neg h2, if_neg h3, if_pos h4]
          exact ⟨fun ⟨n, h5, h6, i, hi, h7⟩ => ⟨i, hi, n, h5, h6, h7⟩, fun ⟨i, hi, n, h5, h6, h7⟩ => ⟨n, h5, h6, i, hi, h7⟩⟩
        · rw [if_neg h4]
          exact leafC_at k set s f a b l h2 h3 h4 j
end Go.Proofs.YtkghbhcjgogaeaaDoor
/-! ### Ef -/
namespace Go.Proofs.YtkghbhcjgogaeaaDoor

theorem offsC_mem (f : List Bool) (j : Nat) : j ∈ offsC f ↔ On f j := by
  unfold offsC
  rw [List.mem_filter, List.mem_range]
  exact ⟨fun h => h.2, fun h => ⟨on_lt h, h⟩⟩
theorem atC_at (n i : Nat) (h : i ≤ n) (j : Nat) : On ((noneC n).set i true) j ↔ j = i := by
  unfold On noneC
  by_cases hj : j = i
  · subst hj
    simp only [List.getD, List.getElem?_set_self (show j < (List.replicate (n + 1) false).length by simp; omega), Option.getD_some]
  · simp only [List.getD, List.getElem?_set]
    rw [if_neg (fun e => hj e.symm)]
    constructor
    · intro h
      exact absurd h (noneC_at n j)
    · intro e; exact absurd e hj
theorem endsC_mem (r : Rx) (s : List UInt8) (hn : nodeR r = 0) (i : Nat) (hi : i ≤ s.length) (j : Nat) : j ∈ endsC r s i ↔ mtR r s i j := by
  unfold endsC
  rw [offsC_mem, stepC_at r s hn _ (by rw [List.length_set, noneC_len]) j]
  constructor
  · rintro ⟨q, hq, h⟩
    rw [(atC_at s.length i hi q).1 hq] at h
    exact h
  · exact fun h => ⟨i, (atC_at s.length i hi i).2 rfl, h⟩
/-- Ends as the chapter says it. -/
def endsP (r : Rx) (s : List UInt8) (at_ : Int) : List Nat := if 0 ≤ at_ ∧ at_ ≤ (s.length : Int) ∧ rightR r = 0 then endsC r s at_.toNat else []
/-- The first offset from i on, n at most further on, from which something is reached; the span. -/
def findN (r : Rx) (s : List UInt8) : Nat → Nat → Option (Nat × Nat)
  | 0, _ => none
  | n + 1, i => match (endsC r s i).getLast? with | some j => some (i, j) | none => findN r s n (i + 1)
def findP (r : Rx) (s : List UInt8) (from_ : Int) : Option (Nat × Nat) := if rightR r = 0 ∧ from_ ≤ (s.length : Int) then findN r s (s.length + 1 - from_.toNat) from_.toNat else none
theorem findN_some (r : Rx) (s : List UInt8) : ∀ (n i a b : Nat), findN r s n i = some (a, b) → i ≤ a ∧ a < i + n ∧ (endsC r s a).getLast? = some b ∧ ∀ q, i ≤ q → q < a → endsC r s q = []
  | 0, _, _, _, h => by cases h
  | n + 1, i, a, b, h => by
    unfold findN at h
    cases he : (endsC r s i).getLast? with
    | some j =>
      rw [he] at h
      cases h
      exact ⟨Nat.le_refl _, by omega, he, fun q h1 h2 => by omega⟩
    | none =>
      rw [he] at h
      obtain ⟨h1, h2, h3, h4⟩ := findN_some r s n (i + 1) a b h
      refine ⟨by omega, by omega, h3, fun q h5 h6 => ?_⟩
      by_cases hq : q = i
      · subst hq; exact List.getLast?_eq_none_iff.1 he
      · exact h4 q (by omega) h6
theorem findN_none (r : Rx) (s : List UInt8) : ∀ (n i : Nat), findN r s n i = none → ∀ q, i ≤ q → q < i + n → endsC r s q = []
  | 0, _, _, q, h1, h2 => by omega
  | n + 1, i, h, q, h1, h2 => by
    unfold findN at h
    cases he : (endsC r s i).getLast? with
    | some j => rw [he] at h; cases h
    | none =>
      rw [he] at h
      by_cases hq : q = i
      · subst hq; exact List.getLast?_eq_none_iff.1 he
      · exact findN_none r s n (i + 1) h q (by omega) (by omega)
/-- All spans, with fuel. -/
def allN (r : Rx) (s : List UInt8) : Nat → Nat → List (Nat × Nat)
  | 0, _ => []
  | n + 1, i => match findP r s i with | some (a, b) => (a, b) :: allN r s n (if a = b then b + 1 else b) | none => []
def allP (r : Rx) (s : List UInt8) : List (Nat × Nat) := allN r s (s.length + 2) 0
theorem ex_all1 : allP (.mk 4 [] 0 (-1) [.mk 1 [(97, 97)] 0 0 []]) [97, 97, 98] = [(0, 2), (2, 2), (3, 3)] := by decide
end Go.Proofs.YtkghbhcjgogaeaaDoor
/-! ### Eg -/
namespace Go.Proofs.YtkghbhcjgogaeaaDoor

theorem on_ext {a b : List Bool} (hl : a.length = b.length) (h : ∀ j, On a j ↔ On b j) : a = b := by
  refine List.ext_getElem hl fun i h1 h2 => ?_
  have := h i
  unfold On at this
  simp only [List.getD, List.getElem?_eq_getElem h1, List.getElem?_eq_getElem h2, Option.getD_some] at this
  cases ha : a[i] <;> cases hb : b[i] <;> simp [ha, hb] at this ⊢
theorem timesC_fix {T : List Bool → List Bool} {f : List Bool} (h : T f = f) : ∀ n, timesC T n f = f
  | 0 => rfl
  | n + 1 => by unfold timesC; rw [h]; exact timesC_fix h n
theorem timesC_succ {T : List Bool → List Bool} : ∀ (n : Nat) (f : List Bool), timesC T (n + 1) f = T (timesC T n f)
  | 0, _ => rfl
  | n + 1, f => by
    show timesC T (n + 1) (T f) = T (timesC T (n + 1) f)
    rw [timesC_succ n (T f)]
    rfl
theorem none_ext {e : List Bool} {n : Nat} (hl : e.length = n + 1) (h : ∀ j, ¬ On e j) : e = noneC n := on_ext (by rw [hl, noneC_len]) fun j => ⟨fun k => absurd k (h j), fun k => absurd k (noneC_at n j)⟩
theorem bothC_none {a : List Bool} {n : Nat} (h : a.length = n + 1) : bothC a (noneC n) = a := on_ext (by rw [bothC_len h (noneC_len n), h]) fun j => by
  rw [bothC_at (by rw [h, noneC_len])]
  exact ⟨fun k => k.resolve_right (noneC_at n j), Or.inl⟩
theorem noneC_both {a : List Bool} {n : Nat} (h : a.length = n + 1) : bothC (noneC n) a = a := on_ext (by rw [bothC_len (noneC_len n) h, h]) fun j => by
  rw [bothC_at (by rw [h, noneC_len])]
  exact ⟨fun k => k.resolve_left (noneC_at n j), Or.inr⟩
theorem bothC_assoc {a b c : List Bool} {n : Nat} (ha : a.length = n) (hb : b.length = n) (hc : c.length = n) : bothC (bothC a b) c = bothC a (bothC b c) := on_ext (by rw [bothC_len (bothC_len ha hb) hc, bothC_len ha (bothC_len hb hc)]) fun j => by
  rw [bothC_at (by rw [bothC_len ha hb, hc]), bothC_at (by rw [ha, hb]), bothC_at (by rw [ha, bothC_len hb hc]), bothC_at (by rw [hb, hc])]
  exact or_assoc
/-- Where nothing is new, more rounds change nothing. -/
theorem frontC_stop {T : List Bool → List Bool} {R : Nat → Nat → Prop} {N : Nat} (hl : ∀ f : List Bool, f.length = N + 1 → (T f).length = N + 1) (hT : ∀ f : List Bool, f.length = N + 1 → ∀ j, On (T f) j ↔ Img R (On f) j) :
    ∀ (m : Nat) (a e : List Bool), a.length = N + 1 → e.length = N + 1 → (∀ j, ¬ On e j) → frontC T m a e = a
  | 0, _, _, _, _, _ => rfl
  | m + 1, a, e, ha, he, h => by
    have hn : T e = noneC N := none_ext (hl e he) fun j hj => by
      obtain ⟨i, hi, _⟩ := (hT e he j).1 hj
      exact h i hi
    unfold frontC
    rw [hn, bothC_none ha]
    exact frontC_stop hl hT m a _ ha (freshC_len (noneC_len N) ha) fun j hj => noneC_at N j ((freshC_at (by rw [noneC_len, ha]) j).1 hj).1
/-- The alternatives joined from the left, as a loop does. -/
def altL (s : List UInt8) (f : List Bool) : List Rx → List Bool → List Bool
  | [], acc => acc
  | x :: l, acc => altL s f l (bothC acc (stepC x s f))
theorem altL_eq (s : List UInt8) (f : List Bool) (hf : f.length = s.length + 1) : ∀ (l : List Rx) (acc : List Bool), acc.length = s.length + 1 → altL s f l acc = bothC acc (altC l s f) ∧ (altC l s f).length = s.length + 1
  | [], acc, ha => by
    unfold altL altC
    exact ⟨(bothC_none ha).symm, noneC_len _⟩
  | x :: l, acc, ha => by
    have hx := stepC_len x s f hf
    obtain ⟨h1, h2⟩ := altL_eq s f hf l (bothC acc (stepC x s f)) (bothC_len ha hx)
    unfold altL altC
    exact ⟨by rw [h1, bothC_assoc ha hx h2], bothC_len hx h2⟩
theorem altL_none (s : List UInt8) (f : List Bool) (hf : f.length = s.length + 1) (l : List Rx) : altL s f l (noneC s.length) = altC l s f := by
  obtain ⟨h1, h2⟩ := altL_eq s f hf l (noneC s.length) (noneC_len _)
  rw [h1, noneC_both h2]
end Go.Proofs.YtkghbhcjgogaeaaDoor
/-! ### Eh -/
namespace Go.Proofs.YtkghbhcjgogaeaaDoor

/-- The bits of a word of the machine. -/
def maskC : List Bool → Nat
  | [] => 0
  | b :: l => b.toNat + 2 * maskC l
theorem mask_lt : ∀ f : List Bool, maskC f < 2 ^ f.length
  | [] => by simp [maskC]
  | b :: l => by
    have := mask_lt l
    unfold maskC
    rw [List.length_cons, Nat.pow_succ]
    cases b <;> simp <;> omega
theorem mask_bit : ∀ (f : List Bool) (j : Nat), (maskC f).testBit j = f.getD j false
  | [], j => by simp [maskC, List.getD]
  | b :: l, 0 => by
    unfold maskC
    rw [Nat.testBit_zero]
    cases b <;> simp <;> omega
  | b :: l, j + 1 => by
    have := mask_bit l j
    unfold maskC
    rw [Nat.testBit_succ, show (b.toNat + 2 * maskC l) / 2 = maskC l by cases b <;> simp <;> omega, this]
    simp [List.getD]
theorem mask_on (f : List Bool) (j : Nat) : (maskC f).testBit j = true ↔ On f j := by rw [mask_bit]; rfl
theorem mask_inj {a b : List Bool} (hl : a.length = b.length) (h : maskC a = maskC b) : a = b := on_ext hl fun j => by rw [← mask_on, ← mask_on, h]
theorem mask_none (n : Nat) : maskC (noneC n) = 0 := by
  unfold noneC
  induction n + 1 with
  | zero => rfl
  | succ n ih => rw [List.replicate_succ]; unfold maskC; rw [ih]; rfl
theorem mask_both {a b : List Bool} (h : a.length = b.length) : maskC (bothC a b) = maskC a ||| maskC b := by
  refine Nat.eq_of_testBit_eq fun j => ?_
  rw [Bool.eq_iff_iff, mask_on, bothC_at h, Nat.testBit_or, Bool.or_eq_true, mask_on, mask_on]
theorem mask_fresh {a b : List Bool} (h : a.length = b.length) (j : Nat) : (maskC (freshC a b)).testBit j = ((maskC a).testBit j && !(maskC b).testBit j) := by
  rw [Bool.eq_iff_iff, mask_on, freshC_at h, Bool.and_eq_true, mask_on, Bool.not_eq_true', ← Bool.not_eq_true, mask_on]
theorem mask_set {f : List Bool} {j : Nat} (h : j < f.length) : maskC (f.set j true) = maskC f ||| 2 ^ j := by
  refine Nat.eq_of_testBit_eq fun q => ?_
  rw [Nat.testBit_or, Nat.testBit_two_pow, mask_bit, mask_bit]
  simp only [List.getD, List.getElem?_set]
  by_cases e : j = q
  · subst e; simp [h]
  · simp [e]
theorem mask_zero {f : List Bool} {n : Nat} (hl : f.length = n + 1) (h : maskC f = 0) : f = noneC n := mask_inj (by rw [hl, noneC_len]) (by rw [h, mask_none])
theorem mask_empty {f : List Bool} (h : maskC f = 0) (j : Nat) : ¬ On f j := by rw [← mask_on, h]; simp
theorem mask_some {f : List Bool} (h : maskC f ≠ 0) : ∃ j, On f j := by
  apply Classical.byContradiction
  intro hn
  apply h
  refine Nat.eq_of_testBit_eq fun j => ?_
  rw [Nat.zero_testBit, ← Bool.not_eq_true, mask_on]
  exact fun hj => hn ⟨j, hj⟩

/-- The bits of a word, in order. -/
def bitsL (x : Nat) : List Nat := (List.range 64).filter x.testBit
theorem bits_zero : bitsL 0 = [] := by
  unfold bitsL
  rw [List.filter_eq_nil_iff]
  intro a _
  simp
theorem low_bits {x : Nat} (h0 : x ≠ 0) (h : x < 18446744073709551616) : (∀ j, j < Lib.ctz 64 x → x.testBit j = false) ∧ x.testBit (Lib.ctz 64 x) = true ∧
    (∀ j, (x &&& (x - 1)).testBit j = (x.testBit j && decide (j ≠ Lib.ctz 64 x))) ∧ Lib.ctz 64 x < 64 := by
  obtain ⟨m, hm, hk⟩ := Lib.ctzFrom_spec 64 x (by omega) h
  have e : Lib.ctz 64 x = Lib.ctzFrom 64 x := by simp [Lib.ctz, h0]
  rw [e]
  generalize Lib.ctzFrom 64 x = k at *
  have hp : 0 < 2 ^ k := Nat.pow_pos (by omega)
  have h1 : x = 2 ^ k * (2 * m + 1) + 0 := by omega
  have h2 : x - 1 = 2 ^ k * (2 * m) + (2 ^ k - 1) := by rw [hm, Nat.mul_add]; omega
  have t1 : ∀ j, x.testBit j = if j < k then false else (2 * m + 1).testBit (j - k) := fun j => by rw [h1, Nat.testBit_two_pow_mul_add _ hp]; simp
  have t2 : ∀ j, k ≤ j → (x - 1).testBit j = (2 * m).testBit (j - k) := fun j hj => by rw [h2, Nat.testBit_two_pow_mul_add _ (by omega), if_neg (by omega)]
  refine ⟨fun j hj => by rw [t1, if_pos hj], by rw [t1, if_neg (by omega), Nat.sub_self, Nat.testBit_zero]; simp, fun j => ?_, hk⟩
  rw [Nat.testBit_and]
  by_cases hj : j < k
  · rw [t1, if_pos hj]; simp
  · rw [t2 j (by omega), t1, if_neg hj]
    by_cases hjk : j = k
    · subst hjk; simp
    · obtain ⟨d, rfl⟩ : ∃ d, j = k + 1 + d := ⟨j - k - 1, by omega⟩
      rw [show k + 1 + d - k = d + 1 by omega, Nat.testBit_succ, Nat.testBit_succ, show (2 * m + 1) / 2 = m by omega, show 2 * m / 2 = m by omega]
      simp [hjk]
theorem bits_next {x : Nat} (h0 : x ≠ 0) (h : x < 18446744073709551616) : bitsL x = Lib.ctz 64 x :: bitsL (x &&& (x - 1)) := by
  obtain ⟨h1, h2, h3, hk⟩ := low_bits h0 h
  generalize Lib.ctz 64 x = k at *
  unfold bitsL
  have hr : List.range 64 = List.range k ++ k :: List.range' (k + 1) (63 - k) := by
    rw [← List.range'_succ, List.range_eq_range', List.range_eq_range', show 63 - k + 1 = 64 - k by omega]
    have := List.range'_append (s := 0) (m := k) (n := 64 - k) (step := 1)
    rw [show 0 + 1 * k = k by omega, show k + (64 - k) = 64 by omega] at this
    exact this.symm
  rw [hr, List.filter_append, List.filter_append, List.filter_cons, List.filter_cons, if_pos h2, if_neg (by rw [h3]; simp)]
  have f1 : (List.range k).filter x.testBit = [] := List.filter_eq_nil_iff.2 fun a ha => by rw [h1 a (List.mem_range.1 ha)]; simp
  have f2 : (List.range k).filter (x &&& (x - 1)).testBit = [] := List.filter_eq_nil_iff.2 fun a ha => by rw [h3, h1 a (List.mem_range.1 ha)]; simp
  rw [f1, f2, List.nil_append, List.nil_append]
  congr 1
  refine List.filter_congr fun a ha => ?_
  rw [h3]
  have : a ≠ k := by have := (List.mem_range'_1.1 ha).1; omega
  simp [this]
theorem bits_less {x : Nat} (h0 : x ≠ 0) : x &&& (x - 1) < x := Nat.lt_of_le_of_lt Nat.and_le_right (by omega)
theorem offs_bits {f : List Bool} (h : f.length ≤ 64) : bitsL (maskC f) = offsC f := by
  unfold bitsL offsC
  have hr : List.range 64 = List.range f.length ++ List.range' f.length (64 - f.length) := by
    rw [List.range_eq_range', List.range_eq_range']
    have := List.range'_append (s := 0) (m := f.length) (n := 64 - f.length) (step := 1)
    rw [show 0 + 1 * f.length = f.length by omega, show f.length + (64 - f.length) = 64 by omega] at this
    exact this.symm
  have f1 : (List.range' f.length (64 - f.length)).filter (maskC f).testBit = [] := List.filter_eq_nil_iff.2 fun a ha => by rw [mask_bit, getD_out (List.mem_range'_1.1 ha).1]; simp
  rw [hr, List.filter_append, f1, List.append_nil]
  exact List.filter_congr fun a _ => mask_bit f a
end Go.Proofs.YtkghbhcjgogaeaaDoor
/-! ### Ei -/
namespace Go.Proofs.YtkghbhcjgogaeaaDoor

mutual
def mirR : Rx → Rx
  | .mk k set a b l => .mk (if k = 5 then 6 else if k = 6 then 5 else k) set a b (mirL l)
def mirL : List Rx → List Rx
  | [] => []
  | x :: l => mirL l ++ [mirR x]
end
theorem mtCat_cons (x : Rx) (l : List Rx) (s : List UInt8) (i j : Nat) : mtCat (x :: l) s i j ↔ ∃ q, mtR x s i q ∧ mtCat l s q j := by
  conv => lhs; unfold mtCat
theorem mtAlt_cons (x : Rx) (l : List Rx) (s : List UInt8) (i j : Nat) : mtAlt (x :: l) s i j ↔ mtR x s i j ∨ mtAlt l s i j := by
  conv => lhs; unfold mtAlt
theorem mtCat_app (s : List UInt8) : ∀ (l m : List Rx) (i j : Nat), mtCat (l ++ m) s i j ↔ ∃ q, mtCat l s i q ∧ mtCat m s q j
  | [], m, i, j => by
    rw [List.nil_append]
    constructor
    · intro h; exact ⟨i, by unfold mtCat; rfl, h⟩
    · rintro ⟨q, h, k⟩
      unfold mtCat at h
      subst h; exact k
  | x :: l, m, i, j => by
    rw [List.cons_append, mtCat_cons]
    simp only [mtCat_cons]
    constructor
    · rintro ⟨q, h, k⟩
      obtain ⟨p, k1, k2⟩ := (mtCat_app s l m q j).1 k
      exact ⟨p, ⟨q, h, k1⟩, k2⟩
    · rintro ⟨p, ⟨q, h, k1⟩, k2⟩
      exact ⟨q, h, (mtCat_app s l m q j).2 ⟨p, k1, k2⟩⟩
theorem mtAlt_app (s : List UInt8) (i j : Nat) : ∀ (l m : List Rx), mtAlt (l ++ m) s i j ↔ mtAlt l s i j ∨ mtAlt m s i j
  | [], m => by rw [List.nil_append]; exact ⟨Or.inr, fun h => h.resolve_left (by unfold mtAlt; exact id)⟩
  | x :: l, m => by
    rw [List.cons_append, mtAlt_cons, mtAlt_cons, mtAlt_app s i j l m, or_assoc]
theorem mtCat_le {s : List UInt8} : ∀ (l : List Rx) (i j : Nat), i ≤ s.length → mtCat l s i j → i ≤ j ∧ j ≤ s.length
  | [], i, j, hi, h => by unfold mtCat at h; subst h; exact ⟨Nat.le_refl _, hi⟩
  | x :: l, i, j, hi, h => by
    unfold mtCat at h
    obtain ⟨q, h1, h2⟩ := h
    obtain ⟨a, b⟩ := mt_le x s i q hi h1
    obtain ⟨c, d⟩ := mtCat_le l q j b h2
    exact ⟨Nat.le_trans a c, d⟩
theorem rev_at (s : List UInt8) (i : Nat) (h : i < s.length) : s.reverse[s.length - 1 - i]? = s[i]? := by
  rw [List.getElem?_reverse (by omega)]
  congr 1
  omega
theorem word_rev (s : List UInt8) (i : Nat) (h : i < s.length) : wordB s.reverse (s.length - 1 - i) = wordB s i := by unfold wordB; rw [rev_at s i h]
theorem word_out (s : List UInt8) (i : Nat) (h : s.length ≤ i) : wordB s i = false := by unfold wordB; rw [List.getElem?_eq_none h]
theorem stands_mir (k : Int) (s : List UInt8) (i : Nat) (h : i ≤ s.length) : standsB (if k = 5 then 6 else if k = 6 then 5 else k) s.reverse (s.length - i) = standsB k s i := by
  unfold standsB
  by_cases h5 : k = 5
  · subst h5
    simp only [if_pos, List.length_reverse]
    rw [if_neg (by decide)]
    by_cases h0 : i = 0
    · subst h0; simp
    · have e := rev_at s (i - 1) (by omega)
      rw [show s.length - 1 - (i - 1) = s.length - i by omega] at e
      rw [e]
      simp [show ¬ (s.length - i = s.length) by omega, h0]
  · by_cases h6 : k = 6
    · subst h6
      simp only [if_pos, if_neg h5]
      by_cases h0 : i = s.length
      · subst h0; simp
      · have e := rev_at s i (by omega)
        rw [show s.length - 1 - i = s.length - i - 1 by omega] at e
        rw [e]
        simp [show ¬ (s.length - i = 0) by omega, h0]
    · simp only [if_neg h5, if_neg h6]
      have e1 : (if s.length - i = 0 then false else wordB s.reverse (s.length - i - 1)) = wordB s i := by
        by_cases h0 : i = s.length
        · rw [if_pos (by omega), word_out s i (by omega)]
        · rw [if_neg (by omega), show s.length - i - 1 = s.length - 1 - i by omega, word_rev s i (by omega)]
      have e2 : wordB s.reverse (s.length - i) = (if i = 0 then false else wordB s (i - 1)) := by
        by_cases h0 : i = 0
        · rw [if_pos h0, word_out _ _ (by rw [List.length_reverse]; omega)]
        · rw [if_neg h0, ← word_rev s (i - 1) (by omega), show s.length - 1 - (i - 1) = s.length - i by omega]
      rw [e1, e2]
      cases wordB s i <;> cases (if i = 0 then false else wordB s (i - 1)) <;> rfl
theorem iter_mir {R R' : Nat → Nat → Prop} {N : Nat} (hle : ∀ i j, i ≤ N → R i j → i ≤ j ∧ j ≤ N) (hle' : ∀ i j, i ≤ N → R' i j → i ≤ j ∧ j ≤ N) (h : ∀ i j, i ≤ N → j ≤ N → (R' (N - j) (N - i) ↔ R i j)) :
    ∀ (n i j : Nat), i ≤ N → j ≤ N → (Iter R' n (N - j) (N - i) ↔ Iter R n i j)
  | 0, i, j, hi, hj => by unfold Iter; omega
  | n + 1, i, j, hi, hj => by
    rw [iter_last]
    show _ ↔ ∃ m, R i m ∧ Iter R n m j
    constructor
    · rintro ⟨m, h1, h2⟩
      have hm := (iter_le hle' n _ m (by omega) h1).2
      refine ⟨N - m, (h i (N - m) hi (by omega)).1 (by rw [show N - (N - m) = m by omega]; exact h2), ?_⟩
      exact (iter_mir hle hle' h n (N - m) j (by omega) hj).1 (by rw [show N - (N - m) = m by omega]; exact h1)
    · rintro ⟨m, h1, h2⟩
      have hm := (hle i m hi h1).2
      exact ⟨N - m, (iter_mir hle hle' h n m j hm hj).2 h2, (h i m hi hm).2 h1⟩
theorem mir_mt (r : Rx) (s : List UInt8) : nodeR r = 0 → ∀ i j, i ≤ s.length → j ≤ s.length → (mtR (mirR r) s.reverse (s.length - j) (s.length - i) ↔ mtR r s i j) := by
  induction r using Rx.ind with
  | h k set a b l ih =>
    have hL : (s.reverse).length = s.length := List.length_reverse
    intro hn i j hi hj
    obtain ⟨hfl, _, hsub⟩ := node_ok hn
    unfold mirR mtR
    by_cases h2 : k = 2
    · subst h2
      simp only [show ¬ ((2 : Int) = 5) by decide, show ¬ ((2 : Int) = 6) by decide, if_pos, if_neg, not_false_eq_true]
      have : ∀ (m : List Rx), (∀ x ∈ m, x ∈ l) → ∀ i j, i ≤ s.length → j ≤ s.length → (mtCat (mirL m) s.reverse (s.length - j) (s.length - i) ↔ mtCat m s i j) := by
        intro m
        induction m with
        | nil => intro _ i j hi hj; unfold mirL mtCat; omega
        | cons x m ihm =>
          intro hm i j hi hj
          unfold mirL
          rw [mtCat_app]
          conv => rhs; unfold mtCat
          constructor
          · rintro ⟨p, h1, h2⟩
            have hp := (mtCat_le _ _ p (by rw [hL]; omega) h1).2
            rw [hL] at hp
            unfold mtCat at h2
            obtain ⟨p', h2, h3⟩ := h2
            unfold mtCat at h3
            subst h3
            exact ⟨s.length - p, (ih x (hm x (by simp)) (hsub x (hm x (by simp))) i (s.length - p) hi (by omega)).1 (by rw [show s.length - (s.length - p) = p by omega]; exact h2), (ihm (fun y hy => hm y (List.mem_cons_of_mem _ hy)) (s.length - p) j (by omega) hj).1 (by rw [show s.length - (s.length - p) = p by omega]; exact h1)⟩
          · rintro ⟨q, h1, h2⟩
            have hq := (mt_le x s i q hi h1).2
            exact ⟨s.length - q, (ihm (fun y hy => hm y (List.mem_cons_of_mem _ hy)) q j hq hj).2 h2, by unfold mtCat; exact ⟨_, (ih x (hm x (by simp)) (hsub x (hm x (by simp))) i q hi hq).2 h1, by unfold mtCat; rfl⟩⟩
      exact this l (fun x hx => hx) i j hi hj
    · by_cases h3 : k = 3
      · subst h3
        simp only [show ¬ ((3 : Int) = 5) by decide, show ¬ ((3 : Int) = 6) by decide, show ¬ ((3 : Int) = 2) by decide, if_pos, if_neg, not_false_eq_true]
        have : ∀ (m : List Rx), (∀ x ∈ m, x ∈ l) → (mtAlt (mirL m) s.reverse (s.length - j) (s.length - i) ↔ mtAlt m s i j) := by
          intro m
          induction m with
          | nil => intro _; unfold mirL mtAlt; exact Iff.rfl
          | cons x m ihm =>
            intro hm
            unfold mirL
            rw [mtAlt_app, ihm (fun y hy => hm y (List.mem_cons_of_mem _ hy))]
            conv => rhs; unfold mtAlt
            rw [or_comm]
            refine or_congr ?_ Iff.rfl
            unfold mtAlt mtAlt
            rw [or_false]
            exact ih x (hm x (by simp)) (hsub x (hm x (by simp))) i j hi hj
        exact this l fun x hx => hx
      · by_cases h4 : k = 4
        · subst h4
          simp only [show ¬ ((4 : Int) = 5) by decide, show ¬ ((4 : Int) = 6) by decide, show ¬ ((4 : Int) = 2) by decide, show ¬ ((4 : Int) = 3) by decide, if_pos, if_neg, not_false_eq_true]
          have hl1 : l.length = 1 := by
            unfold fieldsR at hfl
            simp at hfl
            exact hfl.2
          obtain ⟨x, rfl⟩ := List.length_eq_one_iff.1 hl1
          have e1 : mtOne (mirL [x]) s.reverse = mtR (mirR x) s.reverse := by funext p q; unfold mirL mirL; rw [List.nil_append]; unfold mtOne; rfl
          have e2 : mtOne [x] s = mtR x s := by funext p q; unfold mtOne; rfl
          rw [e1, e2]
          have key := fun n => iter_mir (R := mtR x s) (R' := mtR (mirR x) s.reverse) (N := s.length) (mt_le x s) (fun p q hp h => by have := mt_le (mirR x) s.reverse p q (by rw [hL]; exact hp) h; rw [hL] at this; exact this) (fun p q hp hq => ih x (by simp) (hsub x (by simp)) p q hp hq) n i j hi hj
          simp only [key]
        · have e2 : ∀ c : Int, (c = 1 ∨ c = 2 ∨ c = 3 ∨ c = 4) → ((if k = 5 then 6 else if k = 6 then 5 else k) = c ↔ k = c) := by
            intro c hc
            split
            · omega
            · split <;> omega
          simp only [e2 2 (by omega), e2 3 (by omega), e2 4 (by omega), e2 1 (by omega), if_neg h2, if_neg h3, if_neg h4]
          by_cases h1 : k = 1
          · simp only [if_pos h1]
            constructor
            · rintro ⟨c, hc, hs, he⟩
              have hlt := (List.getElem?_eq_some_iff.1 hc).1
              rw [hL] at hlt
              have := rev_at s i (by omega)
              rw [show s.length - 1 - i = s.length - j by omega, hc] at this
              exact ⟨c, this.symm, hs, by omega⟩
            · rintro ⟨c, hc, hs, he⟩
              have hlt := (List.getElem?_eq_some_iff.1 hc).1
              have := rev_at s i hlt
              rw [show s.length - 1 - i = s.length - j by omega, hc] at this
              exact ⟨c, this, hs, by omega⟩
          · simp only [if_neg h1]
            constructor
            · rintro ⟨_, h, he⟩
              have : j = i := by omega
              subst this
              rw [stands_mir k s j hj] at h
              exact ⟨hi, h, rfl⟩
            · rintro ⟨_, h, rfl⟩
              exact ⟨by rw [hL]; omega, by rw [stands_mir k s j hj]; exact h, rfl⟩
end Go.Proofs.YtkghbhcjgogaeaaDoor
/-! ### Ej -/
namespace Go.Proofs.YtkghbhcjgogaeaaDoor

theorem mirL_len : ∀ l : List Rx, (mirL l).length = l.length
  | [] => rfl
  | x :: l => by unfold mirL; rw [List.length_append, mirL_len l]; rfl
theorem mirL_mem {y : Rx} : ∀ {l : List Rx}, y ∈ mirL l → ∃ x ∈ l, y = mirR x
  | x :: l, h => by
    unfold mirL at h
    rcases List.mem_append.1 h with h | h
    · obtain ⟨z, hz, e⟩ := mirL_mem h
      exact ⟨z, by simp [hz], e⟩
    · exact ⟨x, by simp, by simpa using h⟩
theorem nodeL_nul {l : List Rx} (h : ∀ x ∈ l, nodeR x = 0) : nodeL l = 0 := by
  induction l with
  | nil => rfl
  | cons x l ih =>
    unfold nodeL
    rw [if_pos (h x (by simp))]
    exact ih fun y hy => h y (by simp [hy])
theorem sizeL_join (l m : List Rx) : sizeL (l ++ m) = sizeL l + sizeL m := by
  induction l with
  | nil => simp [sizeL]
  | cons x l ih => simp only [List.cons_append, sizeL, ih]; omega
theorem mir_size (r : Rx) : sizeR (mirR r) = sizeR r := by
  induction r using Rx.ind with
  | h k s a b l ih =>
    have : ∀ m : List Rx, (∀ x ∈ m, sizeR (mirR x) = sizeR x) → sizeL (mirL m) = sizeL m := by
      intro m
      induction m with
      | nil => intro _; rfl
      | cons x m ihm =>
        intro h
        unfold mirL
        rw [sizeL_join, ihm (fun y hy => h y (by simp [hy]))]
        simp only [sizeL, h x (by simp)]
        omega
    unfold mirR
    simp only [sizeR]
    rw [this l ih]
theorem node_mir (r : Rx) : nodeR r = 0 → nodeR (mirR r) = 0 := by
  induction r using Rx.ind with
  | h k set a b l ih =>
    intro h
    obtain ⟨hf, hb, hs⟩ := node_ok h
    have hsub : nodeL (mirL l) = 0 := nodeL_nul fun y hy => by
      obtain ⟨x, hx, rfl⟩ := mirL_mem hy
      exact ih x hx (hs x hx)
    unfold mirR
    unfold nodeR
    have hf' : fieldsR (.mk (if k = 5 then 6 else if k = 6 then 5 else k) set a b (mirL l)) = true := by
      unfold fieldsR at hf ⊢
      simp only [] at hf ⊢
      rw [mirL_len]
      by_cases h5 : k = 5
      · subst h5; simpa using hf
      · by_cases h6 : k = 6
        · subst h6; simpa using hf
        · rw [if_neg h5, if_neg h6]; exact hf
    rw [if_neg (by rw [hf']; simp), if_neg ?_]
    · exact hsub
    · rintro ⟨h4, h5⟩
      have h4' : k = 4 := by split at h4; omega; split at h4; omega; exact h4
      rw [hb h4'] at h5
      cases h5
/-- The offsets at which matches begin. -/
def bgsC (r : Rx) (s : List UInt8) : List Nat := (List.range (s.length + 1)).filter fun i => decide (endsC r s i ≠ [])
theorem bgs_mem (r : Rx) (s : List UInt8) (i : Nat) : i ∈ bgsC r s ↔ i ≤ s.length ∧ endsC r s i ≠ [] := by
  unfold bgsC
  rw [List.mem_filter, List.mem_range, decide_eq_true_eq]
  exact and_congr (by omega) Iff.rfl
theorem bgs_sorted (r : Rx) (s : List UInt8) : (bgsC r s).Pairwise (· < ·) := List.Pairwise.filter _ (List.pairwise_lt_range)
theorem ends_some (r : Rx) (s : List UInt8) (hn : nodeR r = 0) (i : Nat) (hi : i ≤ s.length) : endsC r s i ≠ [] ↔ ∃ j, mtR r s i j := by
  constructor
  · intro h
    obtain ⟨j, hj⟩ := List.exists_mem_of_ne_nil _ h
    exact ⟨j, (endsC_mem r s hn i hi j).1 hj⟩
  · rintro ⟨j, hj⟩ h
    have := (endsC_mem r s hn i hi j).2 hj
    rw [h] at this
    cases this
theorem range_rev (N : Nat) : ((List.range (N + 1)).map fun x => N - x).reverse = List.range (N + 1) := by
  refine List.ext_getElem (by simp) fun i h1 h2 => ?_
  simp at h1 h2 ⊢
  omega
theorem mir_on (r : Rx) (s : List UInt8) (hn : nodeR r = 0) (all : List Bool) (hl : all.length = s.length + 1) (hall : ∀ j, On all j ↔ j ≤ s.length) (x : Nat) (hx : x ≤ s.length) :
    (On (stepC (mirR r) s.reverse all) x) ↔ endsC r s (s.length - x) ≠ [] := by
  rw [stepC_at (mirR r) s.reverse (node_mir r hn) all (by rw [List.length_reverse]; exact hl) x, ends_some r s hn _ (by omega)]
  constructor
  · rintro ⟨y, hy, h⟩
    have hy' := (hall y).1 hy
    refine ⟨s.length - y, (mir_mt r s hn (s.length - x) (s.length - y) (by omega) (by omega)).1 ?_⟩
    rw [show s.length - (s.length - y) = y by omega, show s.length - (s.length - x) = x by omega]
    exact h
  · rintro ⟨j, hj⟩
    have hle := mt_le r s (s.length - x) j (by omega) hj
    refine ⟨s.length - j, (hall _).2 (by omega), ?_⟩
    have := (mir_mt r s hn (s.length - x) j (by omega) hle.2).2 hj
    rwa [show s.length - (s.length - x) = x by omega] at this
theorem bgs_is (r : Rx) (s : List UInt8) (hn : nodeR r = 0) (all : List Bool) (hl : all.length = s.length + 1) (hall : ∀ j, On all j ↔ j ≤ s.length) :
    ((offsC (stepC (mirR r) s.reverse all)).map fun x => s.length - x).reverse = bgsC r s := by
  have hL : (stepC (mirR r) s.reverse all).length = s.length + 1 := by
    rw [stepC_len (mirR r) s.reverse all (by rw [List.length_reverse]; exact hl), List.length_reverse]
  unfold bgsC
  conv => rhs; rw [← range_rev s.length]
  rw [List.filter_reverse, List.filter_map]
  unfold offsC
  rw [hL]
  congr 2
  refine List.filter_congr fun x hx => ?_
  have hx' : x ≤ s.length := by rw [List.mem_range] at hx; omega
  have h := mir_on r s hn all hl hall x hx'
  show (stepC (mirR r) s.reverse all).getD x false = decide (endsC r s (s.length - x) ≠ [])
  rw [Bool.eq_iff_iff, decide_eq_true_eq]
  exact h
theorem findN_at (r : Rx) (s : List UInt8) : ∀ (n i a : Nat), i ≤ a → a < i + n → (∀ q, i ≤ q → q < a → endsC r s q = []) → ∀ b, (endsC r s a).getLast? = some b → findN r s n i = some (a, b)
  | 0, i, a, h1, h2, _, _, _ => by omega
  | n + 1, i, a, h1, h2, h3, b, h4 => by
    unfold findN
    rcases Nat.lt_or_ge i a with h | h
    · rw [h3 i (Nat.le_refl _) h]
      exact findN_at r s n (i + 1) a h (by omega) (fun q h5 h6 => h3 q (by omega) h6) b h4
    · obtain rfl : i = a := by omega
      rw [h4]
theorem findN_no (r : Rx) (s : List UInt8) : ∀ (n i : Nat), (∀ q, i ≤ q → q < i + n → endsC r s q = []) → findN r s n i = none
  | 0, _, _ => rfl
  | n + 1, i, h => by
    unfold findN
    rw [h i (Nat.le_refl _) (by omega)]
    exact findN_no r s n (i + 1) fun q h1 h2 => h q (by omega) (by omega)
/-- The first of the beginnings that is not before from. -/
theorem find_at (r : Rx) (s : List UInt8) (h0 : rightR r = 0) (from_ : Int) (k a : Nat) (hk : (bgsC r s)[k]? = some a) (hlt : ∀ x ∈ (bgsC r s).take k, (x : Int) < from_) (ha : from_ ≤ (a : Int)) : findP r s from_ = some (a, (endsC r s a).getLast?.getD 0) := by
  have hmem := List.mem_of_getElem? hk
  obtain ⟨h1, h2⟩ := (bgs_mem r s a).1 hmem
  unfold findP
  rw [if_pos ⟨h0, by omega⟩]
  obtain ⟨b, hb⟩ : ∃ b, (endsC r s a).getLast? = some b := by
    cases h : (endsC r s a).getLast? with
    | some b => exact ⟨b, rfl⟩
    | none => exact absurd (List.getLast?_eq_none_iff.1 h) h2
  rw [hb]
  refine findN_at r s _ _ a (by omega) (by omega) (fun q h3 h4 => ?_) b hb
  by_cases hq : endsC r s q = []
  · exact hq
  · exfalso
    have hqm := (bgs_mem r s q).2 ⟨by omega, hq⟩
    obtain ⟨j, hj⟩ := List.getElem?_of_mem hqm
    have hjk : j < k := by
      rcases Nat.lt_or_ge j k with h | h
      · exact h
      · exfalso
        obtain ⟨j1, j2⟩ := List.getElem?_eq_some_iff.1 hj
        obtain ⟨k1, k2⟩ := List.getElem?_eq_some_iff.1 hk
        rcases Nat.lt_or_ge k j with h' | h'
        · have := List.pairwise_iff_getElem.1 (bgs_sorted r s) k j k1 j1 h'
          omega
        · obtain rfl : j = k := by omega
          omega
    have := hlt q (by
      obtain ⟨j1, j2⟩ := List.getElem?_eq_some_iff.1 hj
      rw [List.mem_take_iff_getElem]
      exact ⟨j, by omega, j2⟩)
    omega
theorem find_none (r : Rx) (s : List UInt8) (from_ : Int) (hlt : ∀ x ∈ bgsC r s, (x : Int) < from_) : findP r s from_ = none := by
  unfold findP
  split
  · rename_i h
    refine findN_no r s _ _ fun q h1 h2 => ?_
    by_cases hq : endsC r s q = []
    · exact hq
    · have := hlt q ((bgs_mem r s q).2 ⟨by omega, hq⟩)
      omega
  · rfl
end Go.Proofs.YtkghbhcjgogaeaaDoor
/-! ### Ek -/
namespace Go.Proofs.YtkghbhcjgogaeaaDoor

def lastE (r : Rx) (s : List UInt8) (x : Nat) : Nat := (endsC r s x).getLast?.getD 0
/-- The spans from the beginnings l on, where the search is at from. -/
def progA (r : Rx) (s : List UInt8) : List Nat → Nat → List (Nat × Nat)
  | [], _ => []
  | x :: l, from_ => if x < from_ then progA r s l from_ else (x, lastE r s x) :: progA r s l (lastE r s x)
def stepA (r : Rx) (s : List UInt8) (p : List (Nat × Nat) × Nat) (x : Nat) : List (Nat × Nat) × Nat := if x < p.2 then p else (p.1 ++ [(x, lastE r s x)], lastE r s x)
theorem fold_prog (r : Rx) (s : List UInt8) : ∀ (l : List Nat) (p : List (Nat × Nat) × Nat), (l.foldl (stepA r s) p).1 = p.1 ++ progA r s l p.2
  | [], p => by simp [progA]
  | x :: l, p => by
    rw [List.foldl_cons, fold_prog r s l]
    rw [show progA r s (x :: l) p.2 = if x < p.2 then progA r s l p.2 else (x, lastE r s x) :: progA r s l (lastE r s x) from rfl]
    unfold stepA
    by_cases h : x < p.2
    · rw [if_pos h, if_pos h]
    · rw [if_neg h, if_neg h]; simp
theorem last_ge (r : Rx) (s : List UInt8) (hn : nodeR r = 0) (x : Nat) (hx : x ∈ bgsC r s) : x ≤ lastE r s x ∧ lastE r s x ≤ s.length := by
  obtain ⟨h1, h2⟩ := (bgs_mem r s x).1 hx
  unfold lastE
  cases h : (endsC r s x).getLast? with
  | none => exact absurd (List.getLast?_eq_none_iff.1 h) h2
  | some b =>
    have hb : b ∈ endsC r s x := List.mem_of_getLast? h
    exact mt_le r s x b h1 ((endsC_mem r s hn x h1 b).1 hb)
theorem all_prog (r : Rx) (s : List UInt8) (h0 : rightR r = 0) (hn : nodeR r = 0) : ∀ (L P : List Nat) (i from_ n : Nat), bgsC r s = P ++ L → (∀ x ∈ P, x < i) → (∀ x ∈ L, (x < from_ ↔ x < i)) → L.length + 1 ≤ n → allN r s n i = progA r s L from_
  | [], P, i, from_, n, hb, hP, _, hf => by
    obtain ⟨n, rfl⟩ : ∃ m, n = m + 1 := ⟨n - 1, by omega⟩
    unfold allN progA
    rw [find_none r s i (fun x hx => by
      rw [hb, List.append_nil] at hx
      have := hP x hx
      omega)]
  | x :: L, P, i, from_, n, hb, hP, hL, hf => by
    have hb2 : bgsC r s = (P ++ [x]) ++ L := by rw [hb]; simp
    have hsort := bgs_sorted r s
    have hxm : x ∈ bgsC r s := by rw [hb]; simp
    have hlow : ∀ y ∈ P, y < x := fun y hy => by
      rw [hb, List.pairwise_append] at hsort
      exact hsort.2.2 y hy x (by simp)
    have hup : ∀ y ∈ L, x < y := fun y hy => by
      rw [hb, List.pairwise_append] at hsort
      have := hsort.2.1
      rw [List.pairwise_cons] at this
      exact this.1 y hy
    unfold progA
    by_cases h : x < from_
    · rw [if_pos h]
      refine all_prog r s h0 hn L (P ++ [x]) i from_ n hb2 (fun y hy => ?_) (fun y hy => hL y (by simp [hy])) (by simp at hf; omega)
      rcases List.mem_append.1 hy with hy | hy
      · exact hP y hy
      · rw [List.mem_singleton] at hy
        subst hy
        exact (hL y (by simp)).1 h
    · rw [if_neg h]
      obtain ⟨n, rfl⟩ : ∃ m, n = m + 1 := ⟨n - 1, by omega⟩
      have hxi : ¬ x < i := fun e => h ((hL x (by simp)).2 e)
      have hfind : findP r s i = some (x, lastE r s x) := find_at r s h0 i P.length x (by rw [hb]; simp) (fun y hy => by
        rw [hb, List.take_left' rfl] at hy
        have := hP y hy
        omega) (by omega)
      have hxl := (last_ge r s hn x hxm).1
      unfold allN
      rw [hfind]
      simp only []
      congr 1
      refine all_prog r s h0 hn L (P ++ [x]) _ (lastE r s x) n hb2 (fun y hy => ?_) (fun y hy => ?_) (by simp at hf; omega)
      · have hyx : y ≤ x := by
          rcases List.mem_append.1 hy with hy | hy
          · have := hlow y hy; omega
          · rw [List.mem_singleton] at hy; omega
        split <;> omega
      · have := hup y hy
        split <;> omega
theorem all_is (r : Rx) (s : List UInt8) (h0 : rightR r = 0) (hn : nodeR r = 0) : ((bgsC r s).foldl (stepA r s) ([], 0)).1 = allP r s := by
  rw [fold_prog, List.nil_append]
  have hbl : (bgsC r s).length ≤ s.length + 1 := by
    unfold bgsC
    exact Nat.le_trans (List.length_filter_le _ _) (by simp)
  exact (all_prog r s h0 hn (bgsC r s) [] 0 0 _ rfl (fun x hx => (by cases hx)) (fun x _ => Iff.rfl) (by omega)).symm
theorem all_bad (r : Rx) (s : List UInt8) (h0 : rightR r ≠ 0) : allP r s = [] := by
  unfold allP
  show allN r s (s.length + 1 + 1) 0 = []
  unfold allN
  have : findP r s (0 : Nat) = none := by unfold findP; rw [if_neg (fun h => h0 h.1)]
  rw [this]
end Go.Proofs.YtkghbhcjgogaeaaDoor
