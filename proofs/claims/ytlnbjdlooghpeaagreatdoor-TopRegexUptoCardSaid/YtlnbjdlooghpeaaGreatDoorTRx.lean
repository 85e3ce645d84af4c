/- TopRegex: Rx, Ex, Em. -/
import Init.Data.List.Lemmas
import Init.Data.UInt.Lemmas
namespace Go.Proofs.YtlnbjdlooghpeaaGreatDoor
inductive Rx where
  | mk (kind : Int) (set : List (UInt8 × UInt8)) (least most : Int) (subs : List Rx)
def Rx.kind : Rx → Int
  | .mk k _ _ _ _ => k
def rx0 : Rx := .mk 0 [] 0 0 []
theorem Rx.ind {P : Rx → Prop} (h : ∀ k s a b l, (∀ x ∈ l, P x) → P (.mk k s a b l)) : ∀ r, P r
  | .mk k s a b l => h k s a b l fun x _hx => Rx.ind h x
termination_by r => sizeOf r
decreasing_by
  have := List.sizeOf_lt_of_mem _hx
  simp
  omega
mutual
def sizeR : Rx → Nat
  | .mk _ _ _ _ l => 1 + sizeL l
def sizeL : List Rx → Nat
  | [] => 0
  | x :: l => sizeR x + sizeL l
end
mutual
def depthR : Rx → Nat
  | .mk _ _ _ _ l => depthL l + 1
def depthL : List Rx → Nat
  | [] => 0
  | x :: l => max (depthR x) (depthL l)
end
mutual
def sameR : Rx → Rx → Bool
  | .mk k s a b l, .mk k' s' a' b' l' => decide (k = k') && decide (s = s') && decide (a = a') && decide (b = b') && sameL l l'
def sameL : List Rx → List Rx → Bool
  | [], [] => true
  | x :: l, y :: m => sameR x y && sameL l m
  | _, _ => false
end
def fieldsR : Rx → Bool
  | .mk k set a b l => decide (1 ≤ k ∧ k ≤ 7) && (decide (k = 1) == decide (0 < set.length)) && set.all (fun r => decide (r.1 ≤ r.2)) && (decide (k = 4) || decide (a = 0 ∧ b = 0)) &&
      (if k = 4 then decide (l.length = 1) else if k = 3 then decide (2 ≤ l.length) else decide (k = 2) || decide (l.length = 0))
def boundsR (a b : Int) : Bool := decide (0 ≤ a ∧ a ≤ 8 ∧ (b = -1 ∨ (1 ≤ b ∧ b ≤ 8 ∧ a ≤ b)))
mutual
def nodeR : Rx → Int
  | .mk k set a b l => if fieldsR (.mk k set a b l) = false then 1 else if k = 4 ∧ boundsR a b = false then 2 else nodeL l
def nodeL : List Rx → Int
  | [] => 0
  | x :: l => if nodeR x = 0 then nodeL l else nodeR x
end
def rightR (r : Rx) : Int := if nodeR r = 0 then (if 40 < sizeR r ∨ 12 < depthR r then 4 else 0) else nodeR r
theorem nodeL_ok {l : List Rx} (h : nodeL l = 0) : ∀ x ∈ l, nodeR x = 0 := by
  induction l with
  | nil => intro x hx; simp at hx
  | cons y l ih =>
    unfold nodeL at h
    by_cases hy : nodeR y = 0
    · rw [if_pos hy] at h
      intro x hx
      rcases List.mem_cons.1 hx with rfl | hx
      · exact hy
      · exact ih h x hx
    · rw [if_neg hy] at h
      exact absurd h hy
theorem node_ok {k : Int} {set : List (UInt8 × UInt8)} {a b : Int} {l : List Rx} (h : nodeR (.mk k set a b l) = 0) : fieldsR (.mk k set a b l) = true ∧ (k = 4 → boundsR a b = true) ∧ ∀ x ∈ l, nodeR x = 0 := by
  unfold nodeR at h
  by_cases hf : fieldsR (.mk k set a b l) = false
  · rw [if_pos hf] at h; omega
  · rw [if_neg hf] at h
    by_cases hb : k = 4 ∧ boundsR a b = false
    · rw [if_pos hb] at h; omega
    · rw [if_neg hb] at h
      refine ⟨by simpa using hf, fun hk => ?_, nodeL_ok h⟩
      cases hbb : boundsR a b with
      | true => rfl
      | false => exact absurd ⟨hk, hbb⟩ hb
def hasS (set : List (UInt8 × UInt8)) (c : UInt8) : Bool := set.any fun r => decide (r.1 ≤ c) && decide (c ≤ r.2)
def addB (l : List (UInt8 × UInt8)) (n : Nat) : List (UInt8 × UInt8) :=
  match l.getLast? with
  | some r => if r.2.toNat + 1 = n then l.dropLast ++ [(r.1, UInt8.ofNat n)] else l ++ [(UInt8.ofNat n, UInt8.ofNat n)]
  | none => [(UInt8.ofNat n, UInt8.ofNat n)]
def rgN (f : Nat → Bool) : Nat → List (UInt8 × UInt8)
  | 0 => []
  | n + 1 => if f n then addB (rgN f n) n else rgN f n
def rangesS (set : List (UInt8 × UInt8)) (other : Bool) : List (UInt8 × UInt8) := rgN (fun i => hasS set (UInt8.ofNat i) != other) 256
theorem has_app (a b : List (UInt8 × UInt8)) (c : UInt8) : hasS (a ++ b) c = (hasS a c || hasS b c) := by unfold hasS; rw [List.any_append]
theorem has_one (x y c : UInt8) : hasS [(x, y)] c = (decide (x.toNat ≤ c.toNat) && decide (c.toNat ≤ y.toNat)) := by
  unfold hasS
  simp [UInt8.le_iff_toNat_le]
theorem last_split {α : Type} {l : List α} {r : α} (h : l.getLast? = some r) : l = l.dropLast ++ [r] := by
  rw [List.getLast?_eq_some_iff] at h
  obtain ⟨m, rfl⟩ := h
  simp
theorem addB_has (l : List (UInt8 × UInt8)) (n : Nat) (hn : n < 256) (hl : ∀ r ∈ l, r.1.toNat ≤ r.2.toNat ∧ r.2.toNat < n) (c : UInt8) :
    hasS (addB l n) c = (hasS l c || decide (c.toNat = n)) ∧ ∀ r ∈ addB l n, r.1.toNat ≤ r.2.toNat ∧ r.2.toNat < n + 1 := by
  have hv : (UInt8.ofNat n).toNat = n := by simp; omega
  unfold addB
  cases h : l.getLast? with
  | none =>
    have : l = [] := by simpa using h
    subst this
    refine ⟨?_, fun r hr => ?_⟩
    · simp only [has_one, hv]
      have : hasS [] c = false := rfl
      rw [this, Bool.false_or, Bool.eq_iff_iff]
      simp
      omega
    · simp at hr
      subst hr
      simp only [hv]
      omega
  | some r =>
    have hs := last_split h
    have hr := hl r (by rw [hs]; simp)
    by_cases he : r.2.toNat + 1 = n
    · simp only [if_pos he]
      refine ⟨?_, fun q hq => ?_⟩
      · rw [has_app, has_one, hv]
        conv => rhs; rw [hs, has_app]
        rw [show ([r] : List (UInt8 × UInt8)) = [(r.1, r.2)] from rfl, has_one, Bool.or_assoc]
        congr 1
        rw [Bool.eq_iff_iff]
        simp
        omega
      · rw [List.mem_append, List.mem_singleton] at hq
        rcases hq with hq | rfl
        · have := hl q (by rw [hs]; simp [hq])
          omega
        · simp only [hv]
          omega
    · simp only [if_neg he]
      refine ⟨?_, fun q hq => ?_⟩
      · rw [has_app, has_one, hv]
        congr 1
        rw [Bool.eq_iff_iff]
        simp
        omega
      · rw [List.mem_append, List.mem_singleton] at hq
        rcases hq with hq | rfl
        · have := hl q hq
          omega
        · simp only [hv]
          omega
theorem rgN_has (f : Nat → Bool) (c : UInt8) : ∀ n, n ≤ 256 → (hasS (rgN f n) c = (decide (c.toNat < n) && f c.toNat) ∧ ∀ r ∈ rgN f n, r.1.toNat ≤ r.2.toNat ∧ r.2.toNat < n)
  | 0, _ => ⟨by simp [rgN, hasS], fun r hr => by simp [rgN] at hr⟩
  | n + 1, hn => by
    obtain ⟨h1, h2⟩ := rgN_has f c n (by omega)
    unfold rgN
    by_cases hf : f n = true
    · rw [if_pos hf]
      obtain ⟨a1, a2⟩ := addB_has (rgN f n) n (by omega) h2 c
      refine ⟨?_, a2⟩
      rw [a1, h1]
      by_cases hc : c.toNat = n
      · rw [hc, hf]; simp
      · have : decide (c.toNat < n + 1) = decide (c.toNat < n) := by rw [Bool.eq_iff_iff]; simp; omega
        rw [this]
        simp [hc]
    · rw [if_neg hf]
      refine ⟨?_, fun r hr => by have := h2 r hr; omega⟩
      rw [h1]
      by_cases hc : c.toNat = n
      · rw [hc]; simp at hf; simp [hf]
      · have : decide (c.toNat < n + 1) = decide (c.toNat < n) := by rw [Bool.eq_iff_iff]; simp; omega
        rw [this]
theorem has_ranges (set : List (UInt8 × UInt8)) (o : Bool) (c : UInt8) : hasS (rangesS set o) c = (hasS set c != o) := by
  unfold rangesS
  rw [(rgN_has _ c 256 (Nat.le_refl _)).1]
  have h : c.toNat < 256 := c.toNat_lt
  simp [h]
theorem ranges_le (set : List (UInt8 × UInt8)) (o : Bool) : ∀ r ∈ rangesS set o, r.1.toNat ≤ r.2.toNat := fun r hr => ((rgN_has _ 0 256 (Nat.le_refl _)).2 r hr).1
theorem rgN_congr {f g : Nat → Bool} : ∀ n, (∀ i, i < n → f i = g i) → rgN f n = rgN g n
  | 0, _ => rfl
  | n + 1, h => by unfold rgN; rw [rgN_congr n fun i hi => h i (by omega), h n (by omega)]
theorem ranges_ranges (set : List (UInt8 × UInt8)) (o p : Bool) : rangesS (rangesS set o) p = rangesS set (o != p) := by
  show rgN _ 256 = rgN _ 256
  refine rgN_congr 256 fun i _ => ?_
  rw [has_ranges]
  cases hasS set (UInt8.ofNat i) <;> cases o <;> cases p <;> rfl
def foldSet (set : List (UInt8 × UInt8)) : List (UInt8 × UInt8) :=
  rgN (fun i => hasS set (UInt8.ofNat i) || (decide (97 ≤ i ∧ i ≤ 122) && hasS set (UInt8.ofNat (i - 32))) || (decide (65 ≤ i ∧ i ≤ 90) && hasS set (UInt8.ofNat (i + 32)))) 256
mutual
def foldR : Rx → Rx
  | .mk k s a b l => .mk k (if k = 1 then foldSet s else []) a b (foldL l)
def foldL : List Rx → List Rx
  | [] => []
  | x :: l => foldR x :: foldL l
end
def special : List UInt8 := [92, 46, 42, 43, 63, 40, 41, 91, 93, 123, 125, 124, 94, 36]
def inSet : List UInt8 := [92, 91, 93, 94, 45]
def writable (c : UInt8) : Bool := decide (c = 9) || decide (c = 10) || (decide (32 ≤ c) && decide (c ≤ 126))
def quoted (c : UInt8) (esc : List UInt8) : List UInt8 := if c = 9 then [92, 116] else if c = 10 then [92, 110] else if c ∈ esc then [92, c] else [c]
def elemS (r : UInt8 × UInt8) : List UInt8 := quoted r.1 inSet ++ (if r.1 < r.2 then 45 :: quoted r.2 inSet else [])
def rangesP (l : List (UInt8 × UInt8)) : Option (List UInt8) := if l.all (fun r => writable r.1 && writable r.2) then some (l.flatMap elemS) else none
def oneByte : List (UInt8 × UInt8) → Option UInt8
  | [(a, b)] => if a = b ∧ writable a then some a else none
  | _ => none
def ofSet (l : List (UInt8 × UInt8)) : Option (List UInt8) :=
  if l = rangesS l false then
    match oneByte l with
    | some a => some (quoted a special)
    | none =>
      if rangesS l true = [(10, 10)] then some [46] else
        match rangesP l with
        | some s => some (91 :: s ++ [93])
        | none =>
          match rangesP (rangesS l true) with
          | some s => if rangesS l true = [] then none else some (91 :: 94 :: s ++ [93])
          | none => none
  else none
def digitsS (n : Int) : List UInt8 := if 10 ≤ n then [UInt8.ofNat (48 + n.toNat / 10 % 10), UInt8.ofNat (48 + n.toNat % 10)] else [UInt8.ofNat (48 + n.toNat)]
def suffixS (a b : Int) : List UInt8 :=
  if a = 0 ∧ b = -1 then [42] else if a = 1 ∧ b = -1 then [43] else if a = 0 ∧ b = 1 then [63] else if b = a then 123 :: digitsS a ++ [125]
  else if b = -1 then 123 :: digitsS a ++ [44, 125] else 123 :: digitsS a ++ 44 :: digitsS b ++ [125]
def paren (outer k : Int) : Bool := decide (k = 3) || (decide (outer = 2) && decide (k = 2)) || (decide (outer = 4) && (decide (k = 2) || decide (k = 4)))
def wrapP (outer k : Int) (s : List UInt8) : List UInt8 := if paren outer k then 40 :: s ++ [41] else s
def altJ : List (List UInt8) → List UInt8
  | [] => []
  | [s] => s
  | s :: t :: l => s ++ 124 :: altJ (t :: l)
mutual
def canR : Rx → Option (List UInt8)
  | .mk k set a b l =>
    if k = 1 then ofSet set else if k = 5 then some [94] else if k = 6 then some [36] else if k = 7 then some [92, 98]
    else if k = 4 then (match canL 4 l with | some (s :: _) => some (s ++ suffixS a b) | _ => none)
    else if k = 2 ∧ l.length = 1 then none
    else match canL k l with | some t => some (if k = 3 then altJ t else t.flatten) | none => none
def canL (outer : Int) : List Rx → Option (List (List UInt8))
  | [] => some []
  | x :: l => match canR x with
    | none => none
    | some s => match canL outer l with | none => none | some t => some (wrapP outer x.kind s :: t)
end
def printS (r : Rx) : List UInt8 × Int := if rightR r = 0 then (match canR r with | some s => if 300 < s.length then ([], 3) else (s, 0) | none => ([], 3)) else ([], rightR r)
def escapeS (c : UInt8) : Option (List (UInt8 × UInt8)) :=
  if c = 110 then some [(10, 10)] else if c = 116 then some [(9, 9)] else if c = 100 then some [(48, 57)]
  else if c = 119 then some [(48, 57), (65, 90), (95, 95), (97, 122)] else if c = 45 ∨ c ∈ special then some [(c, c)] else none
def oneS : List UInt8 → Option (List (UInt8 × UInt8) × List UInt8)
  | [] => none
  | c :: l => if c < 32 ∨ 126 < c then none else if c = 92 then (match l with | [] => none | d :: l' => match escapeS d with | some x => some (x, l') | none => none)
    else if c ∈ inSet then none else some ([(c, c)], l)
def classS : List UInt8 → Bool
  | a :: c :: _ => decide (a = 92) && (decide (c = 100) || decide (c = 119))
  | _ => false
def lo1 (x : List (UInt8 × UInt8)) : UInt8 := match x with | r :: _ => r.1 | [] => 0
def setE : Nat → List (UInt8 × UInt8) → List UInt8 → Option (List (UInt8 × UInt8) × List UInt8)
  | 0, _, _ => none
  | _ + 1, _, [] => none
  | n + 1, acc, c :: l =>
    if c = 93 then (if acc = [] then none else some (acc, l)) else
    match oneS (c :: l) with
    | none => none
    | some (x, r) =>
      if classS (c :: l) = false ∧ r.head? = some 45 then
        (if classS r.tail then none else
          match oneS r.tail with
          | none => none
          | some (y, e) => if lo1 y < lo1 x then none else setE n (acc ++ [(lo1 x, lo1 y)]) e)
      else setE n (acc ++ x) r
def setS (l : List UInt8) : Option (Rx × List UInt8) :=
  if l.head? = some 94 then (match setE (l.tail.length + 1) [] l.tail with | some (x, r) => some (.mk 1 (rangesS x true) 0 0 [], r) | none => none)
  else (match setE (l.length + 1) [] l with | some (x, r) => some (.mk 1 (rangesS x false) 0 0 [], r) | none => none)
def isDig (c : UInt8) : Bool := decide (48 ≤ c) && decide (c ≤ 57)
def digN (l : List UInt8) : Nat := ((l.take 4).takeWhile isDig).length
def valN (l : List UInt8) : Int := l.foldl (fun n c => n * 10 + ((c.toNat : Int) - 48)) 0
def numberS (l : List UInt8) : Option (Int × List UInt8) :=
  if digN l = 0 ∨ 3 < digN l ∨ (l.head? = some 48 ∧ 1 < digN l) then none else some (valN (l.take (digN l)), l.drop (digN l))
def boundsS (l : List UInt8) : Option (Int × Int × List UInt8) :=
  match numberS l with
  | none => none
  | some (m, r) =>
    match r with
    | [] => none
    | c :: r' =>
      if c = 125 then some (m, m, r') else if c = 44 then
        (match r' with
        | [] => none
        | d :: r'' => if d = 125 then some (m, -1, r'') else match numberS r' with
          | none => none
          | some (n, q) => match q with | [] => none | e :: q' => if e = 125 then some (m, n, q') else none)
      else none
def repS (r : Rx) (a b : Int) : Rx := .mk 4 [] a b [r]
def suffixP (r : Rx) : List UInt8 → Option (Rx × List UInt8)
  | [] => some (r, [])
  | c :: l => if c = 42 then some (repS r 0 (-1), l) else if c = 43 then some (repS r 1 (-1), l) else if c = 63 then some (repS r 0 1, l)
    else if c = 123 then (match boundsS l with | some (m, n, l') => some (repS r m n, l') | none => none) else some (r, c :: l)
def setR (x : List (UInt8 × UInt8)) : Rx := .mk 1 x 0 0 []
def wrapS (k : Int) (acc : List Rx) : Rx := match acc with | [x] => x | _ => .mk k [] 0 0 acc
mutual
def atomP : Nat → List UInt8 → Option (Rx × List UInt8)
  | 0, _ => none
  | _ + 1, [] => none
  | n + 1, c :: l =>
    if c = 40 then (match altP n [] l with | some (r, d :: l') => if d = 41 then some (r, l') else none | _ => none)
    else if c = 91 then setS l
    else if c = 46 then some (setR (rangesS [(10, 10)] true), l)
    else if c = 94 then some (.mk 5 [] 0 0 [], l)
    else if c = 36 then some (.mk 6 [] 0 0 [], l)
    else if c = 92 then (match l with | [] => none | d :: l' => if d = 98 then some (.mk 7 [] 0 0 [], l') else match escapeS d with | some x => some (setR x, l') | none => none)
    else if c < 32 ∨ 126 < c ∨ c ∈ special then none
    else some (setR [(c, c)], l)
def itemP : Nat → List UInt8 → Option (Rx × List UInt8)
  | 0, _ => none
  | n + 1, l => match atomP n l with | some (r, l') => suffixP r l' | none => none
def seqP : Nat → List Rx → List UInt8 → Option (Rx × List UInt8)
  | 0, _, _ => none
  | _ + 1, acc, [] => some (wrapS 2 acc, [])
  | n + 1, acc, c :: l => if c = 124 ∨ c = 41 then some (wrapS 2 acc, c :: l) else match itemP n (c :: l) with | some (r, l') => seqP n (acc ++ [r]) l' | none => none
def altP : Nat → List Rx → List UInt8 → Option (Rx × List UInt8)
  | 0, _, _ => none
  | n + 1, acc, l => match seqP n [] l with
    | none => none
    | some (r, l') => match l' with
      | [] => some (wrapS 3 (acc ++ [r]), [])
      | c :: l'' => if c = 124 then altP n (acc ++ [r]) l'' else some (wrapS 3 (acc ++ [r]), c :: l'')
end
def parseS (d : List UInt8) : Rx × Int :=
  if 300 < d.length then (rx0, 4) else
  match altP (4 * d.length + 4) [] d with
  | some (r, []) => if rightR r = 0 then (r, 0) else (rx0, rightR r)
  | _ => (rx0, 3)
end Go.Proofs.YtlnbjdlooghpeaaGreatDoor
namespace Go.Proofs.YtlnbjdlooghpeaaGreatDoor
def Iter (R : Nat → Nat → Prop) : Nat → Nat → Nat → Prop
  | 0, i, j => i = j
  | n + 1, i, j => ∃ m, R i m ∧ Iter R n m j
theorem iter_last {R : Nat → Nat → Prop} : ∀ (n i j : Nat), Iter R (n + 1) i j ↔ ∃ m, Iter R n i m ∧ R m j
  | 0, i, j => ⟨fun ⟨m, h, e⟩ => by subst e; exact ⟨i, rfl, h⟩, fun ⟨m, e, h⟩ => by subst e; exact ⟨j, h, rfl⟩⟩
  | n + 1, i, j => by
    constructor
    · rintro ⟨m, h, k⟩
      obtain ⟨q, k1, k2⟩ := (iter_last n m j).1 k
      exact ⟨q, ⟨m, h, k1⟩, k2⟩
    · rintro ⟨q, ⟨m, h, k1⟩, k2⟩
      exact ⟨m, h, (iter_last n m j).2 ⟨q, k1, k2⟩⟩
def ImgN (R : Nat → Nat → Prop) (n : Nat) (P : Nat → Prop) (j : Nat) : Prop := ∃ i, P i ∧ Iter R n i j
def UpTo (R : Nat → Nat → Prop) (k : Nat) (P : Nat → Prop) (j : Nat) : Prop := ∃ n, n ≤ k ∧ ImgN R n P j
theorem imgN_zero {R : Nat → Nat → Prop} {P : Nat → Prop} (j : Nat) : ImgN R 0 P j ↔ P j := ⟨fun ⟨i, h, e⟩ => by cases e; exact h, fun h => ⟨j, h, rfl⟩⟩
theorem imgN_succ {R : Nat → Nat → Prop} {P : Nat → Prop} (n j : Nat) : ImgN R (n + 1) P j ↔ ∃ m, ImgN R n P m ∧ R m j := by
  constructor
  · rintro ⟨i, h, k⟩
    obtain ⟨m, k1, k2⟩ := (iter_last n i j).1 k
    exact ⟨m, ⟨i, h, k1⟩, k2⟩
  · rintro ⟨m, ⟨i, h, k1⟩, k2⟩
    exact ⟨i, h, (iter_last n i j).2 ⟨m, k1, k2⟩⟩
theorem imgN_add {R : Nat → Nat → Prop} {P : Nat → Prop} (m : Nat) : ∀ (n j : Nat), ImgN R (m + n) P j ↔ ImgN R n (ImgN R m P) j
  | 0, j => (imgN_zero j).symm
  | n + 1, j => by
    rw [← Nat.add_assoc, imgN_succ, imgN_succ]
    exact ⟨fun ⟨q, h, k⟩ => ⟨q, (imgN_add m n q).1 h, k⟩, fun ⟨q, h, k⟩ => ⟨q, (imgN_add m n q).2 h, k⟩⟩
structure Front (R : Nat → Nat → Prop) (P : Nat → Prop) (k : Nat) (all edge : Nat → Prop) : Prop where
  is : ∀ j, all j ↔ UpTo R k P j
  sub : ∀ j, edge j → all j
  shut : ∀ i j, all i → R i j → all j ∨ ∃ e, edge e ∧ R e j
theorem Front.start (R : Nat → Nat → Prop) (P : Nat → Prop) : Front R P 0 P P := by
  refine ⟨fun j => ⟨fun h => ⟨0, Nat.le_refl _, j, h, rfl⟩, ?_⟩, fun j h => h, fun i j h k => Or.inr ⟨i, h, k⟩⟩
  rintro ⟨n, hn, h⟩
  obtain rfl : n = 0 := by omega
  exact (imgN_zero j).1 h
theorem Front.next {R : Nat → Nat → Prop} {P : Nat → Prop} {k : Nat} {all edge : Nat → Prop} (h : Front R P k all edge) {all' edge' : Nat → Prop}
    (ha : ∀ j, all' j ↔ all j ∨ ∃ e, edge e ∧ R e j) (he : ∀ j, edge' j ↔ (∃ e, edge e ∧ R e j) ∧ ¬ all j) : Front R P (k + 1) all' edge' := by
  refine ⟨fun j => ?_, fun j hj => (ha j).2 (Or.inr ((he j).1 hj).1), fun i j hi hij => ?_⟩
  · rw [ha]
    constructor
    · rintro (hj | ⟨e, hj, hr⟩)
      · obtain ⟨n, hn, hi⟩ := (h.is j).1 hj
        exact ⟨n, by omega, hi⟩
      · obtain ⟨n, hn, hi⟩ := (h.is e).1 (h.sub e hj)
        exact ⟨n + 1, by omega, (imgN_succ n j).2 ⟨e, hi, hr⟩⟩
    · rintro ⟨n, hn, hi⟩
      cases n with
      | zero => exact Or.inl ((h.is j).2 ⟨0, Nat.zero_le _, hi⟩)
      | succ n =>
        obtain ⟨m, hm, hr⟩ := (imgN_succ n j).1 hi
        exact h.shut m j ((h.is m).2 ⟨n, by omega, hm⟩) hr
  · by_cases hia : all i
    · exact Or.inl ((ha j).2 (h.shut i j hia hij))
    · exact Or.inr ⟨i, (he i).2 ⟨((ha i).1 hi).resolve_left hia, hia⟩, hij⟩
end Go.Proofs.YtlnbjdlooghpeaaGreatDoor
namespace Go.Proofs.YtlnbjdlooghpeaaGreatDoor
def wordC (c : UInt8) : Bool := (decide (97 ≤ c) && decide (c ≤ 122)) || (decide (65 ≤ c) && decide (c ≤ 90)) || (decide (48 ≤ c) && decide (c ≤ 57)) || decide (c = 95)
def wordB (s : List UInt8) (i : Nat) : Bool := match s[i]? with | some c => wordC c | none => false
def standsB (k : Int) (s : List UInt8) (i : Nat) : Bool :=
  if k = 5 then decide (i = 0) || decide (s[i - 1]? = some 10) else if k = 6 then decide (i = s.length) || decide (s[i]? = some 10) else (if i = 0 then false else wordB s (i - 1)) != wordB s i
mutual
def mtR : Rx → List UInt8 → Nat → Nat → Prop
  | .mk k set a b l, s, i, j =>
    if k = 2 then mtCat l s i j else if k = 3 then mtAlt l s i j else if k = 4 then (∃ n : Nat, a ≤ n ∧ (b < 0 ∨ (n : Int) ≤ b) ∧ Iter (mtOne l s) n i j) else
    if k = 1 then (∃ c, s[i]? = some c ∧ hasS set c = true ∧ j = i + 1) else (i ≤ s.length ∧ standsB k s i = true ∧ j = i)
def mtCat : List Rx → List UInt8 → Nat → Nat → Prop
  | [], _, i, j => i = j
  | x :: l, s, i, j => ∃ m, mtR x s i m ∧ mtCat l s m j
def mtAlt : List Rx → List UInt8 → Nat → Nat → Prop
  | [], _, _, _ => False
  | x :: l, s, i, j => mtR x s i j ∨ mtAlt l s i j
def mtOne : List Rx → List UInt8 → Nat → Nat → Prop
  | [], _, _, _ => False
  | x :: _, s, i, j => mtR x s i j
end
theorem iter_le {R : Nat → Nat → Prop} {N : Nat} (h : ∀ i j, i ≤ N → R i j → i ≤ j ∧ j ≤ N) : ∀ (n i j : Nat), i ≤ N → Iter R n i j → i ≤ j ∧ j ≤ N
  | 0, i, j, hi, e => by cases e; exact ⟨Nat.le_refl _, hi⟩
  | n + 1, i, j, hi, ⟨m, h1, h2⟩ => by
    obtain ⟨a, b⟩ := h i m hi h1
    obtain ⟨c, d⟩ := iter_le h n m j b h2
    exact ⟨Nat.le_trans a c, d⟩
theorem mt_le (r : Rx) (s : List UInt8) : ∀ i j, i ≤ s.length → mtR r s i j → i ≤ j ∧ j ≤ s.length := by
  induction r using Rx.ind with
  | h k set a b l ih =>
    intro i j hi h
    unfold mtR at h
    split at h
    · have : ∀ (m : List Rx), (∀ x ∈ m, x ∈ l) → ∀ i j, i ≤ s.length → mtCat m s i j → i ≤ j ∧ j ≤ s.length := by
        intro m
        induction m with
        | nil => intro _ i j hi e; unfold mtCat at e; cases e; exact ⟨Nat.le_refl _, hi⟩
        | cons x m ihm =>
          intro hm i j hi e
          unfold mtCat at e
          obtain ⟨q, h1, h2⟩ := e
          obtain ⟨a1, a2⟩ := ih x (hm x (by simp)) i q hi h1
          obtain ⟨b1, b2⟩ := ihm (fun y hy => hm y (List.mem_cons_of_mem _ hy)) q j a2 h2
          exact ⟨Nat.le_trans a1 b1, b2⟩
      exact this l (fun x hx => hx) i j hi h
    · split at h
      · have : ∀ (m : List Rx), (∀ x ∈ m, x ∈ l) → mtAlt m s i j → i ≤ j ∧ j ≤ s.length := by
          intro m
          induction m with
          | nil => intro _ e; unfold mtAlt at e; exact e.elim
          | cons x m ihm =>
            intro hm e
            unfold mtAlt at e
            rcases e with e | e
            · exact ih x (hm x (by simp)) i j hi e
            · exact ihm (fun y hy => hm y (List.mem_cons_of_mem _ hy)) e
        exact this l (fun x hx => hx) h
      · split at h
        · obtain ⟨n, _, _, hn⟩ := h
          refine iter_le (N := s.length) (fun i j hi h => ?_) n i j hi hn
          cases l with
          | nil => unfold mtOne at h; exact h.elim
          | cons x l => unfold mtOne at h; exact ih x (by simp) i j hi h
        · split at h
          · obtain ⟨c, h1, _, rfl⟩ := h
            have := (List.getElem?_eq_some_iff.1 h1).1
            omega
          · obtain ⟨_, _, rfl⟩ := h
            exact ⟨Nat.le_refl _, hi⟩
def Img (R : Nat → Nat → Prop) (P : Nat → Prop) (j : Nat) : Prop := ∃ i, P i ∧ R i j
theorem img_cat {s : List UInt8} {P : Nat → Prop} (x : Rx) (l : List Rx) (j : Nat) : Img (mtCat (x :: l) s) P j ↔ Img (mtCat l s) (Img (mtR x s) P) j := by
  constructor
  · rintro ⟨i, hi, h⟩
    unfold mtCat at h
    obtain ⟨m, h1, h2⟩ := h
    exact ⟨m, ⟨i, hi, h1⟩, h2⟩
  · rintro ⟨m, ⟨i, hi, h1⟩, h2⟩
    exact ⟨i, hi, by unfold mtCat; exact ⟨m, h1, h2⟩⟩
theorem img_alt {s : List UInt8} {P : Nat → Prop} (x : Rx) (l : List Rx) (j : Nat) : Img (mtAlt (x :: l) s) P j ↔ Img (mtR x s) P j ∨ Img (mtAlt l s) P j := by
  constructor
  · rintro ⟨i, hi, h⟩
    unfold mtAlt at h
    exact h.imp (fun h => ⟨i, hi, h⟩) fun h => ⟨i, hi, h⟩
  · rintro (⟨i, hi, h⟩ | ⟨i, hi, h⟩)
    · exact ⟨i, hi, by unfold mtAlt; exact Or.inl h⟩
    · exact ⟨i, hi, by unfold mtAlt; exact Or.inr h⟩
theorem img_one {R : Nat → Nat → Prop} {P : Nat → Prop} (j : Nat) : ImgN R 1 P j ↔ Img R P j :=
  ⟨fun ⟨i, hi, m, h, e⟩ => by cases e; exact ⟨i, hi, h⟩, fun ⟨i, hi, h⟩ => ⟨i, hi, j, h, rfl⟩⟩
theorem rep_upto {R : Nat → Nat → Prop} {P : Nat → Prop} (a d j : Nat) : UpTo R d (ImgN R a P) j ↔ ∃ n, a ≤ n ∧ n ≤ a + d ∧ ImgN R n P j := by
  constructor
  · rintro ⟨n, hn, h⟩
    exact ⟨a + n, by omega, by omega, (imgN_add a n j).2 h⟩
  · rintro ⟨n, h1, h2, h⟩
    refine ⟨n - a, by omega, (imgN_add a (n - a) j).1 ?_⟩
    rwa [show a + (n - a) = n by omega]
end Go.Proofs.YtlnbjdlooghpeaaGreatDoor
