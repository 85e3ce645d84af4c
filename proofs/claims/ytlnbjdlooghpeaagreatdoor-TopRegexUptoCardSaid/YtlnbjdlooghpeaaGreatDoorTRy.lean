/- TopRegex: Ry, Rz, Rf. -/
import Derived.Test.YtlnbjdlooghpeaaGreatDoorTRx
namespace Go.Proofs.YtlnbjdlooghpeaaGreatDoor
theorem setE_len : ∀ n acc l x r, setE n acc l = some (x, r) → r.length < l.length
  | 0, _, _, _, _, h => by simp [setE] at h
  | n + 1, acc, [], x, r, h => by simp [setE] at h
  | n + 1, acc, c :: l, x, r, h => by
    unfold setE at h
    split at h
    · split at h
      · cases h
      · cases h; simp
    · have one_len : ∀ (l : List UInt8) y q, oneS l = some (y, q) → q.length < l.length := by
        intro l y q h
        cases l with
        | nil => simp [oneS] at h
        | cons c l =>
          simp only [oneS] at h
          split at h
          · cases h
          · split at h
            · cases l with
              | nil => simp at h
              | cons d l' =>
                simp only at h
                split at h
                · cases h; simp; omega
                · cases h
            · split at h
              · cases h
              · cases h; simp
      split at h
      · cases h
      · rename_i y q hy
        have h1 := one_len _ _ _ hy
        split at h
        · split at h
          · cases h
          · split at h
            · cases h
            · rename_i z e hz
              have h2 := one_len _ _ _ hz
              split at h
              · cases h
              · have := setE_len n _ _ _ _ h
                simp at h2
                omega
        · have := setE_len n _ _ _ _ h
          omega
theorem setS_len {l : List UInt8} {x : Rx} {r : List UInt8} (h : setS l = some (x, r)) : r.length < l.length := by
  unfold setS at h
  split at h
  · split at h
    · rename_i y q hy
      cases h
      have := setE_len _ _ _ _ _ hy
      simp at this
      omega
    · cases h
  · split at h
    · rename_i y q hy
      cases h
      exact setE_len _ _ _ _ _ hy
    · cases h
theorem bounds_len {l r : List UInt8} {m n : Int} (h : boundsS l = some (m, n, r)) : r.length < l.length := by
  have num : ∀ (l : List UInt8) a q, numberS l = some (a, q) → q.length ≤ l.length := by
    intro l a q h
    unfold numberS at h
    split at h
    · cases h
    · cases h; simp
  unfold boundsS at h
  split at h
  · cases h
  · rename_i a q hq
    have h1 := num _ _ _ hq
    split at h
    · cases h
    · rename_i c q'
      simp at h1
      split at h
      · cases h; omega
      · split at h
        · split at h
          · cases h
          · rename_i d q''
            simp at h1
            split at h
            · cases h; omega
            · split at h
              · cases h
              · rename_i b p hp
                have h2 := num _ _ _ hp
                simp at h2
                split at h
                · cases h
                · simp at h2
                  split at h
                  · cases h; omega
                  · cases h
        · cases h
theorem suffix_len {x y : Rx} {l r : List UInt8} (h : suffixP x l = some (y, r)) : r.length ≤ l.length := by
  cases l with
  | nil => unfold suffixP at h; cases h; simp
  | cons c l =>
    simp only [suffixP] at h
    split at h
    · cases h; simp
    · split at h
      · cases h; simp
      · split at h
        · cases h; simp
        · split at h
          · split at h
            · rename_i hb
              cases h
              have := bounds_len hb
              simp; omega
            · cases h
          · cases h; simp
theorem parse_len : ∀ n, (∀ l x r, atomP n l = some (x, r) → r.length < l.length) ∧ (∀ l x r, itemP n l = some (x, r) → r.length < l.length) ∧
    (∀ acc l x r, seqP n acc l = some (x, r) → r.length ≤ l.length) ∧ (∀ acc l x r, altP n acc l = some (x, r) → r.length ≤ l.length)
  | 0 => ⟨fun l x r h => by simp [atomP] at h, fun l x r h => by simp [itemP] at h, fun acc l x r h => by simp [seqP] at h, fun acc l x r h => by simp [altP] at h⟩
  | n + 1 => by
    obtain ⟨h1, h2, h3, h4⟩ := parse_len n
    refine ⟨fun l x r h => ?_, fun l x r h => ?_, fun acc l x r h => ?_, fun acc l x r h => ?_⟩
    · cases l with
      | nil => simp [atomP] at h
      | cons c l =>
        unfold atomP at h
        split at h
        · split at h
          · rename_i y d l' hy
            split at h
            · cases h
              have := h4 _ _ _ _ hy
              simp at this ⊢
              omega
            · cases h
          · cases h
        · split at h
          · have := setS_len h; simp; omega
          · split at h
            · cases h; simp
            · split at h
              · cases h; simp
              · split at h
                · cases h; simp
                · split at h
                  · cases l with
                    | nil => simp at h
                    | cons d l' =>
                      simp only at h
                      split at h
                      · cases h; simp; omega
                      · split at h
                        · cases h; simp; omega
                        · cases h
                  · split at h
                    · cases h
                    · cases h; simp
    · unfold itemP at h
      split at h
      · rename_i y l' hy
        have a := h1 _ _ _ hy
        have b := suffix_len h
        omega
      · cases h
    · cases l with
      | nil => unfold seqP at h; cases h; simp
      | cons c l =>
        unfold seqP at h
        split at h
        · cases h; simp
        · split at h
          · rename_i y l' hy
            have a := h2 _ _ _ hy
            have b := h3 _ _ _ _ h
            omega
          · cases h
    · unfold altP at h
      split at h
      · cases h
      · rename_i y l' hy
        have a := h3 _ _ _ _ hy
        split at h
        · cases h; simp
        · rename_i c l''
          simp at a
          split at h
          · have b := h4 _ _ _ _ h; omega
          · cases h; simp; omega
theorem fuel_more : ∀ n m, (∀ l, 4 * l.length + 1 ≤ n → 4 * l.length + 1 ≤ m → atomP n l = atomP m l) ∧ (∀ l, 4 * l.length + 2 ≤ n → 4 * l.length + 2 ≤ m → itemP n l = itemP m l) ∧
    (∀ acc l, 4 * l.length + 3 ≤ n → 4 * l.length + 3 ≤ m → seqP n acc l = seqP m acc l) ∧ (∀ acc l, 4 * l.length + 4 ≤ n → 4 * l.length + 4 ≤ m → altP n acc l = altP m acc l)
  | 0, m => ⟨fun l h => by omega, fun l h => by omega, fun acc l h => by omega, fun acc l h => by omega⟩
  | n + 1, 0 => ⟨fun l _ h => by omega, fun l _ h => by omega, fun acc l _ h => by omega, fun acc l _ h => by omega⟩
  | n + 1, m + 1 => by
    obtain ⟨h1, h2, h3, h4⟩ := fuel_more n m
    refine ⟨fun l a b => ?_, fun l a b => ?_, fun acc l a b => ?_, fun acc l a b => ?_⟩
    · cases l with
      | nil => rfl
      | cons c l =>
        simp at a b
        unfold atomP
        rw [h4 [] l (by omega) (by omega)]
    · unfold itemP
      rw [h1 l (by omega) (by omega)]
    · cases l with
      | nil => rfl
      | cons c l =>
        simp at a b
        unfold seqP
        rw [h2 (c :: l) (by simp; omega) (by simp; omega)]
        split
        · rfl
        · split
          · rename_i y l' hy
            have := (parse_len m).2.1 _ _ _ hy
            simp at this
            exact h3 _ _ (by omega) (by omega)
          · rfl
    · unfold altP
      rw [h3 [] l (by omega) (by omega)]
      split
      · rfl
      · rename_i y l' hy
        have := (parse_len m).2.2.1 _ _ _ _ hy
        split
        · rfl
        · rename_i c l''
          simp at this
          split
          · exact h4 _ _ (by omega) (by omega)
          · rfl
theorem alt_enough {l : List UInt8} {x : Rx × List UInt8} (h : ∃ n0, ∀ n, n0 ≤ n → altP n [] l = some x) : altP (4 * l.length + 4) [] l = some x := by
  obtain ⟨n0, h⟩ := h
  rw [← h (max n0 (4 * l.length + 4)) (by omega)]
  exact (fuel_more _ _).2.2.2 [] l (by omega) (by omega)
end Go.Proofs.YtlnbjdlooghpeaaGreatDoor
namespace Go.Proofs.YtlnbjdlooghpeaaGreatDoor
def AtomOK (s : List UInt8) (r : Rx) : Prop := ∀ rest, ∃ n0, ∀ n, n0 ≤ n → atomP n (s ++ rest) = some (r, rest)
def NoRep (rest : List UInt8) : Prop := ∀ c l, rest = c :: l → c ≠ 42 ∧ c ≠ 43 ∧ c ≠ 63 ∧ c ≠ 123
def ItemOK (s : List UInt8) (r : Rx) : Prop := ∀ rest, NoRep rest → ∃ n0, ∀ n, n0 ≤ n → itemP n (s ++ rest) = some (r, rest)
def Starts (s : List UInt8) : Prop := ∃ c l, s = c :: l ∧ c ≠ 42 ∧ c ≠ 43 ∧ c ≠ 63 ∧ c ≠ 123 ∧ c ≠ 124 ∧ c ≠ 41
def Stop (rest : List UInt8) : Prop := ∀ c l, rest = c :: l → c = 124 ∨ c = 41
def SeqOK (s : List UInt8) (r : Rx) : Prop := ∀ rest, Stop rest → ∃ n0, ∀ n, n0 ≤ n → seqP n [] (s ++ rest) = some (r, rest)
def Shut (rest : List UInt8) : Prop := ∀ c l, rest = c :: l → c = 41
def AltOK (s : List UInt8) (r : Rx) : Prop := ∀ rest, Shut rest → ∃ n0, ∀ n, n0 ≤ n → altP n [] (s ++ rest) = some (r, rest)
theorem Stop.norep {rest : List UInt8} (h : Stop rest) : NoRep rest := fun c l e => by
  rcases h c l e with rfl | rfl <;> decide
theorem Shut.stop {rest : List UInt8} (h : Shut rest) : Stop rest := fun c l e => Or.inr (h c l e)
theorem suffix_none {r : Rx} {rest : List UInt8} (h : NoRep rest) : suffixP r rest = some (r, rest) := by
  cases rest with
  | nil => rfl
  | cons c l =>
    obtain ⟨h1, h2, h3, h4⟩ := h c l rfl
    simp only [suffixP, if_neg h1, if_neg h2, if_neg h3, if_neg h4]
theorem AtomOK.item {s : List UInt8} {r : Rx} (h : AtomOK s r) : ItemOK s r := fun rest hr => by
  obtain ⟨n0, h⟩ := h rest
  refine ⟨n0 + 1, fun n hn => ?_⟩
  obtain ⟨m, rfl⟩ : ∃ m, n = m + 1 := ⟨n - 1, by omega⟩
  unfold itemP
  rw [h m (by omega)]
  exact suffix_none hr
theorem seq_stop (acc : List Rx) {rest : List UInt8} (h : Stop rest) (n : Nat) : seqP (n + 1) acc rest = some (wrapS 2 acc, rest) := by
  cases rest with
  | nil => rfl
  | cons c l =>
    unfold seqP
    rw [if_pos (h c l rfl)]
theorem ItemOK.seq {s : List UInt8} {r : Rx} (h : ItemOK s r) (hs : Starts s) : SeqOK s r := fun rest hr => by
  obtain ⟨n0, h⟩ := h rest hr.norep
  obtain ⟨c, l, rfl, h1, h2, h3, h4, h5, h6⟩ := hs
  refine ⟨n0 + 2, fun n hn => ?_⟩
  obtain ⟨m, rfl⟩ : ∃ m, n = m + 2 := ⟨n - 2, by omega⟩
  rw [List.cons_append]
  unfold seqP
  rw [if_neg (by simp [h5, h6])]
  have := h (m + 1) (by omega)
  rw [List.cons_append] at this
  rw [this]
  exact seq_stop _ hr m
theorem SeqOK.alt {s : List UInt8} {r : Rx} (h : SeqOK s r) : AltOK s r := fun rest hr => by
  obtain ⟨n0, h⟩ := h rest hr.stop
  refine ⟨n0 + 1, fun n hn => ?_⟩
  obtain ⟨m, rfl⟩ : ∃ m, n = m + 1 := ⟨n - 1, by omega⟩
  unfold altP
  rw [h m (by omega)]
  cases rest with
  | nil => rfl
  | cons c l =>
    have := hr c l rfl
    subst this
    rfl
theorem AltOK.atom {s : List UInt8} {r : Rx} (h : AltOK s r) : AtomOK (40 :: s ++ [41]) r := fun rest => by
  obtain ⟨n0, h⟩ := h (41 :: rest) (fun c l e => by cases e; rfl)
  refine ⟨n0 + 1, fun n hn => ?_⟩
  obtain ⟨m, rfl⟩ : ∃ m, n = m + 1 := ⟨n - 1, by omega⟩
  rw [show 40 :: s ++ [41] ++ rest = 40 :: (s ++ 41 :: rest) by simp]
  unfold atomP
  rw [if_pos rfl, h m (by omega)]
  rfl
theorem starts_paren (s : List UInt8) : Starts (40 :: s ++ [41]) := ⟨40, s ++ [41], rfl, by decide⟩
theorem Starts.app {s : List UInt8} (h : Starts s) (t : List UInt8) : Starts (s ++ t) := by
  obtain ⟨c, l, rfl, h⟩ := h
  exact ⟨c, l ++ t, rfl, h⟩
theorem Starts.norep {s : List UInt8} (h : Starts s) (t : List UInt8) : NoRep (s ++ t) := by
  obtain ⟨c, l, rfl, h1, h2, h3, h4, _⟩ := h
  intro d m e
  cases e
  exact ⟨h1, h2, h3, h4⟩
def Pair (P : List UInt8 → Rx → Prop) : List (List UInt8) → List Rx → Prop
  | [], [] => True
  | t :: ts, x :: xs => P t x ∧ Pair P ts xs
  | _, _ => False
theorem seq_list : ∀ (ts : List (List UInt8)) (xs : List Rx), Pair (fun t x => ItemOK t x ∧ Starts t) ts xs → ∀ (acc : List Rx) (rest : List UInt8), Stop rest →
    ∃ n0, ∀ n, n0 ≤ n → seqP n acc (ts.flatten ++ rest) = some (wrapS 2 (acc ++ xs), rest)
  | [], [], _, acc, rest, hr => ⟨1, fun n hn => by
      obtain ⟨m, rfl⟩ : ∃ m, n = m + 1 := ⟨n - 1, by omega⟩
      rw [List.append_nil]
      exact seq_stop acc hr m⟩
  | t :: ts, x :: xs, ⟨⟨h1, h2⟩, h3⟩, acc, rest, hr => by
    have hnr : NoRep (ts.flatten ++ rest) := by
      cases ts with
      | nil => exact hr.norep
      | cons u us =>
        cases xs with
        | nil => cases h3
        | cons y ys =>
          rw [List.flatten_cons, List.append_assoc]
          exact h3.1.2.norep _
    obtain ⟨n1, h1⟩ := h1 _ hnr
    obtain ⟨n2, h4⟩ := seq_list ts xs h3 (acc ++ [x]) rest hr
    obtain ⟨c, l, rfl, _, _, _, _, h5, h6⟩ := h2
    refine ⟨max n1 n2 + 1, fun n hn => ?_⟩
    obtain ⟨m, rfl⟩ : ∃ m, n = m + 1 := ⟨n - 1, by omega⟩
    have a := h1 m (by omega)
    have b := h4 m (by omega)
    rw [List.flatten_cons, List.append_assoc, List.cons_append] 
    rw [List.cons_append] at a
    unfold seqP
    rw [if_neg (by simp [h5, h6]), a]
    simp only
    rw [b, List.append_assoc]
    rfl
theorem alt_list : ∀ (ts : List (List UInt8)) (xs : List Rx) (t : List UInt8) (x : Rx), Pair SeqOK (t :: ts) (x :: xs) → ∀ (acc : List Rx) (rest : List UInt8), Shut rest →
    ∃ n0, ∀ n, n0 ≤ n → altP n acc (altJ (t :: ts) ++ rest) = some (wrapS 3 (acc ++ x :: xs), rest)
  | [], [], t, x, ⟨h1, _⟩, acc, rest, hr => by
    obtain ⟨n0, h⟩ := h1 rest hr.stop
    refine ⟨n0 + 1, fun n hn => ?_⟩
    obtain ⟨m, rfl⟩ : ∃ m, n = m + 1 := ⟨n - 1, by omega⟩
    unfold altP
    show (match seqP m [] (t ++ rest) with | none => none | some (r, l') => _) = _
    rw [h m (by omega)]
    cases rest with
    | nil => rfl
    | cons c l =>
      have := hr c l rfl
      subst this
      rfl
  | u :: us, y :: ys, t, x, ⟨h1, h2⟩, acc, rest, hr => by
    obtain ⟨n1, h1⟩ := h1 (124 :: (altJ (u :: us) ++ rest)) (fun c l e => by cases e; exact Or.inl rfl)
    obtain ⟨n2, h3⟩ := alt_list us ys u y h2 (acc ++ [x]) rest hr
    refine ⟨max n1 n2 + 1, fun n hn => ?_⟩
    obtain ⟨m, rfl⟩ : ∃ m, n = m + 1 := ⟨n - 1, by omega⟩
    have a := h1 m (by omega)
    have b := h3 m (by omega)
    have e : altJ (t :: u :: us) ++ rest = t ++ 124 :: (altJ (u :: us) ++ rest) := by simp [altJ]
    rw [e]
    unfold altP
    rw [a]
    simp only [if_pos]
    rw [b, List.append_assoc]
    rfl
theorem quoted_cons (c : UInt8) (esc : List UInt8) : ∃ d l, quoted c esc = d :: l := by
  unfold quoted
  split
  · exact ⟨_, _, rfl⟩
  · split
    · exact ⟨_, _, rfl⟩
    · split <;> exact ⟨_, _, rfl⟩
theorem one_quoted (c : UInt8) (hw : writable c = true) (rest : List UInt8) : oneS (quoted c inSet ++ rest) = some ([(c, c)], rest) ∧ classS (quoted c inSet ++ rest) = false ∧
    ∃ d l, quoted c inSet ++ rest = d :: l ∧ d ≠ 45 ∧ d ≠ 93 ∧ d ≠ 94 := by
  by_cases h9 : c = 9
  · subst h9
    exact ⟨rfl, rfl, 92, 116 :: rest, rfl, by decide⟩
  by_cases h10 : c = 10
  · subst h10
    exact ⟨rfl, rfl, 92, 110 :: rest, rfl, by decide⟩
  by_cases hin : c ∈ inSet
  · have hq : quoted c inSet = [92, c] := by unfold quoted; rw [if_neg h9, if_neg h10, if_pos hin]
    rw [hq]
    unfold inSet at hin
    simp only [List.mem_cons, List.not_mem_nil, or_false] at hin
    rcases hin with rfl | rfl | rfl | rfl | rfl <;> exact ⟨rfl, rfl, 92, _ :: rest, rfl, by decide⟩
  · have hq : quoted c inSet = [c] := by unfold quoted; rw [if_neg h9, if_neg h10, if_neg hin]
    rw [hq]
    unfold writable at hw
    simp only [h9, h10, decide_false, Bool.false_or, Bool.and_eq_true, decide_eq_true_eq] at hw
    have hn : ∀ d, d ∈ inSet → c ≠ d := fun d hd e => hin (e ▸ hd)
    have h92 := hn 92 (by decide)
    refine ⟨?_, ?_, c, rest, rfl, hn 45 (by decide), hn 93 (by decide), hn 94 (by decide)⟩
    · show oneS (c :: rest) = _
      unfold oneS
      have hlt : ¬ (c < 32 ∨ 126 < c) := by
        have h1 := UInt8.le_iff_toNat_le.1 hw.1
        have h2 := UInt8.le_iff_toNat_le.1 hw.2
        rw [UInt8.lt_iff_toNat_lt, UInt8.lt_iff_toNat_lt]
        omega
      simp only [if_neg hlt, if_neg h92, if_neg hin]
    · show classS (c :: rest) = false
      cases rest with
      | nil => rfl
      | cons d l => simp [classS, h92]
theorem elem_head (l : List (UInt8 × UInt8)) (hl : ∀ r ∈ l, writable r.1 = true ∧ writable r.2 = true ∧ r.1 ≤ r.2) (rest : List UInt8) : ∃ d m, l.flatMap elemS ++ 93 :: rest = d :: m ∧ d ≠ 45 := by
  cases l with
  | nil => exact ⟨93, rest, rfl, by decide⟩
  | cons r l =>
    obtain ⟨_, _, d, m, h, h45, _⟩ := one_quoted r.1 (hl r (by simp)).1 ((if r.1 < r.2 then 45 :: quoted r.2 inSet else []) ++ (l.flatMap elemS ++ 93 :: rest))
    exact ⟨d, m, by rw [← h]; simp [elemS], h45⟩
theorem setE_back : ∀ (l : List (UInt8 × UInt8)) (acc : List (UInt8 × UInt8)) (n : Nat) (rest : List UInt8), (∀ r ∈ l, writable r.1 = true ∧ writable r.2 = true ∧ r.1 ≤ r.2) → acc ++ l ≠ [] → l.length < n →
    setE n acc (l.flatMap elemS ++ 93 :: rest) = some (acc ++ l, rest)
  | [], acc, 0, _, _, _, hn => by simp at hn
  | [], acc, n + 1, rest, _, hne, _ => by
    rw [List.append_nil] at hne
    show setE (n + 1) acc (93 :: rest) = _
    unfold setE
    rw [if_pos rfl, if_neg hne, List.append_nil]
  | r :: l, acc, 0, _, _, _, hn => by simp at hn
  | r :: l, acc, n + 1, rest, hl, hne, hn => by
    obtain ⟨w1, w2, hle⟩ := hl r (by simp)
    have hl' := fun q hq => hl q (List.mem_cons_of_mem r hq)
    obtain ⟨T, hT⟩ : ∃ T, l.flatMap elemS ++ 93 :: rest = T := ⟨_, rfl⟩
    obtain ⟨td, tm, ht, htd⟩ := elem_head l hl' rest
    have ih := fun acc' h => setE_back l acc' n rest hl' h (by simp at hn; omega)
    rw [hT] at ht ih
    by_cases hlt : r.1 < r.2
    · have e : (r :: l).flatMap elemS ++ 93 :: rest = quoted r.1 inSet ++ (45 :: quoted r.2 inSet ++ T) := by simp [elemS, hlt, ← hT]
      rw [e]
      obtain ⟨o1, c1, d, m, hd, _, h93, _⟩ := one_quoted r.1 w1 (45 :: quoted r.2 inSet ++ T)
      obtain ⟨o2, c2, _⟩ := one_quoted r.2 w2 T
      rw [hd] at o1 c1 ⊢
      unfold setE
      rw [if_neg h93, o1]
      simp only
      rw [if_pos ⟨c1, rfl⟩]
      show (if classS (quoted r.2 inSet ++ T) = true then none else match oneS (quoted r.2 inSet ++ T) with | none => none | some (y, e) => _) = _
      rw [c2, o2]
      have hnl : ¬ lo1 [(r.2, r.2)] < lo1 [(r.1, r.1)] := by
        show ¬ r.2 < r.1
        rw [UInt8.lt_iff_toNat_lt] at hlt ⊢
        omega
      simp only [Bool.false_eq_true, if_false]
      rw [if_neg hnl]
      exact (ih (acc ++ [(r.1, r.2)]) (by simp)).trans (by rw [List.append_assoc]; rfl)
    · have hre : r.1 = r.2 := by
        rw [UInt8.lt_iff_toNat_lt] at hlt
        rw [UInt8.le_iff_toNat_le] at hle
        exact UInt8.toNat_inj.1 (by omega)
      have e : (r :: l).flatMap elemS ++ 93 :: rest = quoted r.1 inSet ++ T := by simp [elemS, hlt, ← hT]
      rw [e]
      obtain ⟨o1, c1, d, m, hd, _, h93, _⟩ := one_quoted r.1 w1 T
      rw [hd] at o1 c1 ⊢
      unfold setE
      rw [if_neg h93, o1]
      simp only
      rw [if_neg (by rw [ht]; simp [htd])]
      rw [ih (acc ++ [(r.1, r.1)]) (by simp), List.append_assoc]
      obtain ⟨a, b⟩ := r
      simp only at hre
      subst hre
      rfl
theorem flat_len (l : List (UInt8 × UInt8)) : l.length ≤ (l.flatMap elemS).length := by
  induction l with
  | nil => simp
  | cons r l ih =>
    obtain ⟨d, m, h⟩ := quoted_cons r.1 inSet
    rw [List.flatMap_cons, List.length_append, List.length_cons]
    have : 1 ≤ (elemS r).length := by unfold elemS; rw [h]; simp
    omega
theorem rangesP_some {l : List (UInt8 × UInt8)} {s : List UInt8} (h : rangesP l = some s) : s = l.flatMap elemS ∧ ∀ r ∈ l, writable r.1 = true ∧ writable r.2 = true := by
  unfold rangesP at h
  split at h
  · rename_i ha
    cases h
    rw [List.all_eq_true] at ha
    exact ⟨rfl, fun r hr => by simpa using ha r hr⟩
  · cases h
theorem quoted_atom (a : UInt8) (hw : writable a = true) : AtomOK (quoted a special) (setR [(a, a)]) ∧ Starts (quoted a special) := by
  by_cases h9 : a = 9
  · subst h9
    exact ⟨fun rest => ⟨1, fun n hn => by obtain ⟨m, rfl⟩ : ∃ m, n = m + 1 := ⟨n - 1, by omega⟩; rfl⟩, 92, [116], rfl, by decide⟩
  by_cases h10 : a = 10
  · subst h10
    exact ⟨fun rest => ⟨1, fun n hn => by obtain ⟨m, rfl⟩ : ∃ m, n = m + 1 := ⟨n - 1, by omega⟩; rfl⟩, 92, [110], rfl, by decide⟩
  by_cases hin : a ∈ special
  · have hq : quoted a special = [92, a] := by unfold quoted; rw [if_neg h9, if_neg h10, if_pos hin]
    rw [hq]
    refine ⟨fun rest => ⟨1, fun n hn => ?_⟩, 92, [a], rfl, by decide⟩
    obtain ⟨m, rfl⟩ : ∃ m, n = m + 1 := ⟨n - 1, by omega⟩
    unfold special at hin
    simp only [List.mem_cons, List.not_mem_nil, or_false] at hin
    rcases hin with rfl | rfl | rfl | rfl | rfl | rfl | rfl | rfl | rfl | rfl | rfl | rfl | rfl | rfl <;> rfl
  · have hq : quoted a special = [a] := by unfold quoted; rw [if_neg h9, if_neg h10, if_neg hin]
    rw [hq]
    unfold writable at hw
    simp only [h9, h10, decide_false, Bool.false_or, Bool.and_eq_true, decide_eq_true_eq] at hw
    have hn : ∀ d, d ∈ special → a ≠ d := fun d hd e => hin (e ▸ hd)
    refine ⟨fun rest => ⟨1, fun n hn' => ?_⟩, a, [], rfl, hn 42 (by decide), hn 43 (by decide), hn 63 (by decide), hn 123 (by decide), hn 124 (by decide), hn 41 (by decide)⟩
    obtain ⟨m, rfl⟩ : ∃ m, n = m + 1 := ⟨n - 1, by omega⟩
    have hlt : ¬ (a < 32 ∨ 126 < a ∨ a ∈ special) := by
      have h1 := UInt8.le_iff_toNat_le.1 hw.1
      have h2 := UInt8.le_iff_toNat_le.1 hw.2
      rw [UInt8.lt_iff_toNat_lt, UInt8.lt_iff_toNat_lt]
      rintro (h | h | h)
      · omega
      · omega
      · exact hin h
    show atomP (m + 1) (a :: rest) = _
    unfold atomP
    rw [if_neg (hn 40 (by decide)), if_neg (hn 91 (by decide)), if_neg (hn 46 (by decide)), if_neg (hn 94 (by decide)), if_neg (hn 36 (by decide)), if_neg (hn 92 (by decide)), if_neg hlt]
theorem set_atom (set : List (UInt8 × UInt8)) (s : List UInt8) (h : ofSet set = some s) (hne : set ≠ []) (hle : ∀ r ∈ set, r.1 ≤ r.2) : AtomOK s (setR set) ∧ Starts s := by
  unfold ofSet at h
  split at h
  · rename_i hcan
    split at h
    · rename_i a ha
      cases h
      have : set = [(a, a)] ∧ writable a = true := by
        unfold oneByte at ha
        split at ha
        · split at ha
          · rename_i hab
            cases ha
            exact ⟨by rw [hab.1], hab.1 ▸ hab.2⟩
          · cases ha
        · cases ha
      rw [this.1]
      exact quoted_atom a this.2
    · split at h
      · rename_i hdot
        cases h
        refine ⟨fun rest => ⟨1, fun n hn => ?_⟩, 46, [], rfl, by decide⟩
        obtain ⟨m, rfl⟩ : ∃ m, n = m + 1 := ⟨n - 1, by omega⟩
        have e : rangesS [(10, 10)] true = set := by rw [← hdot, ranges_ranges]; exact hcan.symm
        show atomP (m + 1) (46 :: rest) = _
        unfold atomP
        rw [e]
        rfl
      · split at h
        · rename_i t ht
          cases h
          obtain ⟨rfl, hw⟩ := rangesP_some ht
          refine ⟨fun rest => ⟨1, fun n hn => ?_⟩, 91, _, rfl, by decide⟩
          obtain ⟨m, rfl⟩ : ∃ m, n = m + 1 := ⟨n - 1, by omega⟩
          rw [show 91 :: set.flatMap elemS ++ [93] ++ rest = 91 :: (set.flatMap elemS ++ 93 :: rest) by simp]
          have hl : ∀ r ∈ set, writable r.1 = true ∧ writable r.2 = true ∧ r.1 ≤ r.2 := fun r hr => ⟨(hw r hr).1, (hw r hr).2, hle r hr⟩
          have hs : setS (set.flatMap elemS ++ 93 :: rest) = some (setR set, rest) := by
            unfold setS
            have hhd : (set.flatMap elemS ++ 93 :: rest).head? ≠ some 94 := by
              cases set with
              | nil => exact absurd rfl hne
              | cons r l =>
                obtain ⟨_, _, d, m, hd, _, _, h94⟩ := one_quoted r.1 (hl r (by simp)).1 ((if r.1 < r.2 then 45 :: quoted r.2 inSet else []) ++ (l.flatMap elemS ++ 93 :: rest))
                have e : (r :: l).flatMap elemS ++ 93 :: rest = d :: m := by rw [← hd]; simp [elemS]
                rw [e]
                simp [h94]
            rw [if_neg hhd, setE_back set [] _ rest hl (by simpa using hne) (by have := flat_len set; rw [List.length_append, List.length_cons]; omega)]
            simp only [List.nil_append]
            rw [← hcan]
            rfl
          unfold atomP
          rw [if_neg (by decide), if_pos rfl, hs]
        · split at h
          · rename_i t ht
            split at h
            · cases h
            · rename_i hne2
              cases h
              obtain ⟨rfl, hw⟩ := rangesP_some ht
              refine ⟨fun rest => ⟨1, fun n hn => ?_⟩, 91, _, rfl, by decide⟩
              obtain ⟨m, rfl⟩ : ∃ m, n = m + 1 := ⟨n - 1, by omega⟩
              rw [show 91 :: 94 :: (rangesS set true).flatMap elemS ++ [93] ++ rest = 91 :: (94 :: ((rangesS set true).flatMap elemS ++ 93 :: rest)) by simp]
              have hl : ∀ r ∈ rangesS set true, writable r.1 = true ∧ writable r.2 = true ∧ r.1 ≤ r.2 := fun r hr => ⟨(hw r hr).1, (hw r hr).2, UInt8.le_iff_toNat_le.2 (ranges_le set true r hr)⟩
              have hs : setS (94 :: ((rangesS set true).flatMap elemS ++ 93 :: rest)) = some (setR set, rest) := by
                unfold setS
                simp only [List.head?_cons, if_true, List.tail_cons]
                rw [setE_back (rangesS set true) [] _ rest hl (by simpa using hne2) (by have := flat_len (rangesS set true); rw [List.length_append, List.length_cons]; omega)]
                simp only [List.nil_append]
                rw [ranges_ranges]
                show some (setR (rangesS set false), rest) = _
                rw [← hcan]
              unfold atomP
              rw [if_neg (by decide), if_pos rfl, hs]
          · cases h
  · cases h
theorem suffix_back (x : Rx) (a b : Int) (h : boundsR a b = true) (rest : List UInt8) : suffixP x (suffixS a b ++ rest) = some (repS x a b, rest) := by
  unfold boundsR at h
  rw [decide_eq_true_eq] at h
  obtain ⟨h0, h8, h⟩ := h
  obtain ⟨m, rfl⟩ : ∃ m : Nat, a = (m : Int) := ⟨a.toNat, by omega⟩
  have hm : m ≤ 8 := by omega
  rcases h with rfl | ⟨b1, b8, hab⟩
  · match m, hm with
    | 0, _ => rfl
    | 1, _ => rfl
    | 2, _ => rfl
    | 3, _ => rfl
    | 4, _ => rfl
    | 5, _ => rfl
    | 6, _ => rfl
    | 7, _ => rfl
    | 8, _ => rfl
    | k + 9, h => omega
  · obtain ⟨k, rfl⟩ : ∃ k : Nat, b = (k : Int) := ⟨b.toNat, by omega⟩
    have hk : k ≤ 8 := by omega
    have hk1 : 1 ≤ k := by omega
    have hmk : m ≤ k := by omega
    clear h0 h8 b1 b8 hab
    match m, k, hm, hk, hk1, hmk with
    | 0, 1, _, _, _, _ => rfl
    | 0, 2, _, _, _, _ => rfl
    | 0, 3, _, _, _, _ => rfl
    | 0, 4, _, _, _, _ => rfl
    | 0, 5, _, _, _, _ => rfl
    | 0, 6, _, _, _, _ => rfl
    | 0, 7, _, _, _, _ => rfl
    | 0, 8, _, _, _, _ => rfl
    | 1, 1, _, _, _, _ => rfl
    | 1, 2, _, _, _, _ => rfl
    | 1, 3, _, _, _, _ => rfl
    | 1, 4, _, _, _, _ => rfl
    | 1, 5, _, _, _, _ => rfl
    | 1, 6, _, _, _, _ => rfl
    | 1, 7, _, _, _, _ => rfl
    | 1, 8, _, _, _, _ => rfl
    | 2, 2, _, _, _, _ => rfl
    | 2, 3, _, _, _, _ => rfl
    | 2, 4, _, _, _, _ => rfl
    | 2, 5, _, _, _, _ => rfl
    | 2, 6, _, _, _, _ => rfl
    | 2, 7, _, _, _, _ => rfl
    | 2, 8, _, _, _, _ => rfl
    | 3, 3, _, _, _, _ => rfl
    | 3, 4, _, _, _, _ => rfl
    | 3, 5, _, _, _, _ => rfl
    | 3, 6, _, _, _, _ => rfl
    | 3, 7, _, _, _, _ => rfl
    | 3, 8, _, _, _, _ => rfl
    | 4, 4, _, _, _, _ => rfl
    | 4, 5, _, _, _, _ => rfl
    | 4, 6, _, _, _, _ => rfl
    | 4, 7, _, _, _, _ => rfl
    | 4, 8, _, _, _, _ => rfl
    | 5, 5, _, _, _, _ => rfl
    | 5, 6, _, _, _, _ => rfl
    | 5, 7, _, _, _, _ => rfl
    | 5, 8, _, _, _, _ => rfl
    | 6, 6, _, _, _, _ => rfl
    | 6, 7, _, _, _, _ => rfl
    | 6, 8, _, _, _, _ => rfl
    | 7, 7, _, _, _, _ => rfl
    | 7, 8, _, _, _, _ => rfl
    | 8, 8, _, _, _, _ => rfl
theorem wrapS_two (k : Int) (acc : List Rx) (h : acc.length ≠ 1) : wrapS k acc = .mk k [] 0 0 acc := by
  unfold wrapS
  split
  · exact absurd rfl h
  · rfl
theorem canL_len (o : Int) : ∀ (l : List Rx) ts, canL o l = some ts → ts.length = l.length
  | [], ts, h => by unfold canL at h; cases h; rfl
  | x :: l, ts, h => by
    unfold canL at h
    split at h
    · cases h
    · split at h
      · cases h
      · rename_i t ht
        cases h
        rw [List.length_cons, List.length_cons, canL_len o l t ht]
def Back (s : List UInt8) (r : Rx) : Prop :=
  (r.kind ≠ 2 → r.kind ≠ 3 → ItemOK s r ∧ Starts s) ∧ (r.kind ≠ 2 → r.kind ≠ 3 → r.kind ≠ 4 → AtomOK s r) ∧ (r.kind ≠ 3 → SeqOK s r) ∧ AltOK s r
theorem Back.of_atom {s : List UInt8} {r : Rx} (h : AtomOK s r) (hs : Starts s) : Back s r := ⟨fun _ _ => ⟨h.item, hs⟩, fun _ _ _ => h, fun _ => h.item.seq hs, (h.item.seq hs).alt⟩
theorem canL_pair (o : Int) (Q : List UInt8 → Rx → Prop) : ∀ (l : List Rx) ts, canL o l = some ts → (∀ x ∈ l, ∀ s, canR x = some s → Q (wrapP o x.kind s) x) → Pair Q ts l
  | [], ts, h, _ => by unfold canL at h; cases h; exact True.intro
  | x :: l, ts, h, hq => by
    unfold canL at h
    split at h
    · cases h
    · rename_i s hs
      split at h
      · cases h
      · rename_i t ht
        cases h
        exact ⟨hq x (by simp) s hs, canL_pair o Q l t ht fun y hy => hq y (by simp [hy])⟩
theorem back_cat {s : List UInt8} {x : Rx} (h : Back s x) : ItemOK (wrapP 2 x.kind s) x ∧ Starts (wrapP 2 x.kind s) := by
  unfold wrapP
  split
  · exact ⟨h.2.2.2.atom.item, starts_paren s⟩
  · rename_i hp
    simp [paren] at hp
    exact h.1 hp.2 hp.1
theorem back_alt {s : List UInt8} {x : Rx} (h : Back s x) : SeqOK (wrapP 3 x.kind s) x := by
  unfold wrapP
  split
  · exact h.2.2.2.atom.item.seq (starts_paren s)
  · rename_i hp
    simp [paren] at hp
    exact h.2.2.1 hp
theorem back_rep {s : List UInt8} {x : Rx} (h : Back s x) : AtomOK (wrapP 4 x.kind s) x ∧ Starts (wrapP 4 x.kind s) := by
  unfold wrapP
  split
  · exact ⟨h.2.2.2.atom, starts_paren s⟩
  · rename_i hp
    simp [paren] at hp
    exact ⟨h.2.1 hp.2.1 hp.1 hp.2.2, (h.1 hp.2.1 hp.1).2⟩
theorem fields_of {k : Int} {set : List (UInt8 × UInt8)} {a b : Int} {l : List Rx} (h : fieldsR (.mk k set a b l) = true) :
    (1 ≤ k ∧ k ≤ 7) ∧ (k = 1 ↔ set ≠ []) ∧ (∀ r ∈ set, r.1 ≤ r.2) ∧ (k ≠ 4 → a = 0 ∧ b = 0) ∧ (k = 4 → l.length = 1) ∧ (k = 3 → 2 ≤ l.length) ∧ (k ≠ 2 → k ≠ 3 → k ≠ 4 → l = []) := by
  unfold fieldsR at h
  simp only [Bool.and_eq_true, decide_eq_true_eq, List.all_eq_true, Bool.or_eq_true] at h
  obtain ⟨⟨⟨⟨h1, h2⟩, h3⟩, h4⟩, h5⟩ := h
  refine ⟨h1, ?_, h3, fun hk => ?_, fun hk => ?_, fun hk => ?_, fun k2 k3 k4 => ?_⟩
  · have h2' : (decide (k = 1)) = decide (0 < set.length) := by simpa using h2
    have : k = 1 ↔ 0 < set.length := by simpa using congrArg (· = true) h2'
    rw [this]
    exact List.length_pos_iff
  · rcases h4 with h4 | h4
    · exact absurd h4 hk
    · exact h4
  · rw [if_pos hk] at h5; simpa using h5
  · rw [if_neg (by omega), if_pos hk] at h5; simpa using h5
  · rw [if_neg k4, if_neg k3] at h5
    simp [k2] at h5
    exact h5
theorem back (r : Rx) : nodeR r = 0 → ∀ s, canR r = some s → Back s r := by
  induction r using Rx.ind with
  | h k set a b l ih =>
    intro hn s hs
    obtain ⟨hf, hb, hsub⟩ := node_ok hn
    obtain ⟨hk, hset, hle, hab, h4, h3, hl⟩ := fields_of hf
    have IH : ∀ x ∈ l, ∀ t, canR x = some t → Back t x := fun x hx t ht => ih x hx (hsub x hx) t ht
    unfold canR at hs
    split at hs
    · rename_i hk1
      subst hk1
      obtain ⟨rfl, rfl⟩ := hab (by decide)
      obtain rfl := hl (by decide) (by decide) (by decide)
      obtain ⟨h1, h2⟩ := set_atom set s hs (hset.1 rfl) hle
      exact Back.of_atom h1 h2
    · rename_i hk1
      have hset0 : set = [] := Classical.byContradiction fun h => hk1 (hset.2 h)
      subst hset0
      have base : ∀ (t : List UInt8) (k' : Int), k = k' → k' ≠ 2 → k' ≠ 3 → k' ≠ 4 → (∀ rest n, atomP (n + 1) (t ++ rest) = some (.mk k' [] 0 0 [], rest)) → Starts t → Back t (.mk k [] a b l) := by
        rintro t k' rfl n2 n3 n4 ha ht
        obtain ⟨rfl, rfl⟩ := hab n4
        obtain rfl := hl n2 n3 n4
        refine Back.of_atom (fun rest => ⟨1, fun n hn => ?_⟩) ht
        obtain ⟨m, rfl⟩ : ∃ m, n = m + 1 := ⟨n - 1, by omega⟩
        exact ha rest m
      split at hs
      · rename_i hk5
        cases hs
        exact base [94] 5 hk5 (by decide) (by decide) (by decide) (fun rest n => rfl) ⟨94, [], rfl, by decide⟩
      · split at hs
        · rename_i hk6
          cases hs
          exact base [36] 6 hk6 (by decide) (by decide) (by decide) (fun rest n => rfl) ⟨36, [], rfl, by decide⟩
        · split at hs
          · rename_i hk7
            cases hs
            exact base [92, 98] 7 hk7 (by decide) (by decide) (by decide) (fun rest n => rfl) ⟨92, [98], rfl, by decide⟩
          · split at hs
            · rename_i hk4
              subst hk4
              have hlen := h4 rfl
              match l, hlen with
              | [x], _ =>
                split at hs
                · rename_i t ts hc
                  cases hs
                  have hp := canL_pair 4 (fun t x => AtomOK t x ∧ Starts t) [x] _ hc fun y hy u hu => back_rep (IH y hy u hu)
                  obtain ⟨⟨h1, h2⟩, _⟩ := hp
                  have hi : ItemOK (t ++ suffixS a b) (.mk 4 [] a b [x]) := fun rest _ => by
                    obtain ⟨n0, h1⟩ := h1 (suffixS a b ++ rest)
                    refine ⟨n0 + 1, fun n hn => ?_⟩
                    obtain ⟨m, rfl⟩ : ∃ m, n = m + 1 := ⟨n - 1, by omega⟩
                    unfold itemP
                    rw [List.append_assoc, h1 m (by omega)]
                    exact suffix_back x a b (hb rfl) rest
                  have hst := h2.app (suffixS a b)
                  exact ⟨fun _ _ => ⟨hi, hst⟩, fun _ _ h => absurd rfl h, fun _ => hi.seq hst, (hi.seq hst).alt⟩
                · cases hs
            · rename_i hk5 hk6 hk7 hk4
              obtain ⟨rfl, rfl⟩ := hab hk4
              split at hs
              · cases hs
              · rename_i hne1
                split at hs
                · rename_i ts hc
                  cases hs
                  by_cases hk3 : k = 3
                  · subst hk3
                    rw [if_pos rfl]
                    have hp := canL_pair 3 SeqOK l _ hc fun y hy u hu => back_alt (IH y hy u hu)
                    have hlen := h3 rfl
                    refine ⟨fun _ h => absurd rfl h, fun _ h => absurd rfl h, fun h => absurd rfl h, fun rest hr => ?_⟩
                    cases ts with
                    | nil => have := canL_len 3 l _ hc; simp at this; omega
                    | cons t ts =>
                      cases l with
                      | nil => simp at hlen
                      | cons x xs =>
                        obtain ⟨n0, h⟩ := alt_list ts xs t x hp [] rest hr
                        refine ⟨n0, fun n hn => ?_⟩
                        rw [h n hn, List.nil_append, wrapS_two 3 _ (by omega)]
                  · have hk2 : k = 2 := by omega
                    subst hk2
                    rw [if_neg (by decide)]
                    have hp := canL_pair 2 (fun t x => ItemOK t x ∧ Starts t) l _ hc fun y hy u hu => back_cat (IH y hy u hu)
                    have hsq : SeqOK ts.flatten (.mk 2 [] 0 0 l) := fun rest hr => by
                      obtain ⟨n0, h⟩ := seq_list ts l hp [] rest hr
                      refine ⟨n0, fun n hn => ?_⟩
                      rw [h n hn, List.nil_append, wrapS_two 2 _ (fun e => hne1 ⟨rfl, e⟩)]
                    exact ⟨fun h => absurd rfl h, fun h => absurd rfl h, fun _ => hsq, hsq.alt⟩
                · cases hs
theorem print_back (r : Rx) (s : List UInt8) (h : printS r = (s, 0)) : parseS s = (r, 0) ∧ rightR r = 0 ∧ s.length ≤ 300 := by
  unfold printS at h
  split at h
  · rename_i hr
    split at h
    · rename_i t ht
      split at h
      · cases h
      · rename_i hlen
        cases h
        have hn : nodeR r = 0 := by
          unfold rightR at hr
          by_cases hn : nodeR r = 0
          · exact hn
          · rw [if_neg hn] at hr; exact hr
        have hb := (back r hn s ht).2.2.2 [] (fun c l e => by cases e)
        simp only [List.append_nil] at hb
        have := alt_enough hb
        refine ⟨?_, hr, by omega⟩
        unfold parseS
        rw [if_neg hlen, this]
        simp only
        rw [if_pos hr]
    · cases h
  · rename_i hr
    have : rightR r = 0 := congrArg Prod.snd h
    exact absurd this hr
theorem parse_right (d : List UInt8) (r : Rx) (h : parseS d = (r, 0)) : rightR r = 0 := by
  unfold parseS at h
  split at h
  · cases h
  · split at h
    · split at h
      · rename_i hr
        cases h
        exact hr
      · rename_i hr
        have : rightR _ = 0 := congrArg Prod.snd h
        exact absurd this hr
    · cases h
end Go.Proofs.YtlnbjdlooghpeaaGreatDoor
namespace Go.Proofs.YtlnbjdlooghpeaaGreatDoor
def othB (c : UInt8) : UInt8 := if 97 ≤ c.toNat ∧ c.toNat ≤ 122 then UInt8.ofNat (c.toNat - 32) else if 65 ≤ c.toNat ∧ c.toNat ≤ 90 then UInt8.ofNat (c.toNat + 32) else c
theorem has_foldSet (set : List (UInt8 × UInt8)) (c : UInt8) : hasS (foldSet set) c = (hasS set c || hasS set (othB c)) := by
  have h0 : c.toNat < 256 := c.toNat_lt
  unfold foldSet
  rw [(rgN_has _ c 256 (Nat.le_refl _)).1]
  have e : UInt8.ofNat c.toNat = c := by simp
  unfold othB
  by_cases h : 97 ≤ c.toNat ∧ c.toNat ≤ 122
  · have h2 : ¬ (65 ≤ c.toNat ∧ c.toNat ≤ 90) := by omega
    simp [h0, h, h2]
  · by_cases h2 : 65 ≤ c.toNat ∧ c.toNat ≤ 90
    · simp [h0, h, h2]
    · simp [h0, h, h2]
theorem foldSet_ne {set : List (UInt8 × UInt8)} (h : set ≠ []) (hle : ∀ r ∈ set, r.1 ≤ r.2) : foldSet set ≠ [] := by
  cases set with
  | nil => exact absurd rfl h
  | cons r l =>
    intro e
    have hr : hasS (r :: l) r.1 = true := by
      unfold hasS
      rw [List.any_cons]
      have := hle r (by simp)
      simp [this]
    have := has_foldSet (r :: l) r.1
    rw [e, hr] at this
    simp [hasS] at this
theorem foldSet_le (set : List (UInt8 × UInt8)) : ∀ r ∈ foldSet set, r.1 ≤ r.2 := fun r hr => UInt8.le_iff_toNat_le.2 ((rgN_has _ 0 256 (Nat.le_refl _)).2 r hr).1
theorem foldL_len : ∀ l, (foldL l).length = l.length
  | [] => rfl
  | x :: l => by unfold foldL; rw [List.length_cons, List.length_cons, foldL_len l]
theorem size_fold (r : Rx) : sizeR (foldR r) = sizeR r := by
  induction r using Rx.ind with
  | h k s a b l ih =>
    have : ∀ m : List Rx, (∀ x ∈ m, sizeR (foldR x) = sizeR x) → sizeL (foldL m) = sizeL m := by
      intro m
      induction m with
      | nil => intro _; rfl
      | cons x m ihm => intro h; simp only [foldL, sizeL]; rw [h x (by simp), ihm fun y hy => h y (by simp [hy])]
    simp only [foldR, sizeR]
    rw [this l ih]
theorem depth_fold (r : Rx) : depthR (foldR r) = depthR r := by
  induction r using Rx.ind with
  | h k s a b l ih =>
    have : ∀ m : List Rx, (∀ x ∈ m, depthR (foldR x) = depthR x) → depthL (foldL m) = depthL m := by
      intro m
      induction m with
      | nil => intro _; rfl
      | cons x m ihm => intro h; simp only [foldL, depthL]; rw [h x (by simp), ihm fun y hy => h y (by simp [hy])]
    simp only [foldR, depthR]
    rw [this l ih]
theorem node_fold (r : Rx) (h : nodeR r = 0) : nodeR (foldR r) = 0 := by
  induction r using Rx.ind with
  | h k s a b l ih =>
    obtain ⟨hf, hb, hsub⟩ := node_ok h
    obtain ⟨hk, hset, hle, hab, h4, h3, hl⟩ := fields_of hf
    have hL : nodeL (foldL l) = 0 := by
      have : ∀ m : List Rx, (∀ x ∈ m, nodeR (foldR x) = 0) → nodeL (foldL m) = 0 := by
        intro m
        induction m with
        | nil => intro _; rfl
        | cons x m ihm => intro h; simp only [foldL, nodeL]; rw [if_pos (h x (by simp))]; exact ihm fun y hy => h y (by simp [hy])
      exact this l fun x hx => ih x hx (hsub x hx)
    simp only [foldR]
    have hff : fieldsR (.mk k (if k = 1 then foldSet s else []) a b (foldL l)) = true := by
      have hf' := hf
      simp only [fieldsR, foldL_len, Bool.and_eq_true] at hf ⊢
      obtain ⟨⟨⟨⟨q1, q2⟩, q3⟩, q4⟩, q5⟩ := hf
      refine ⟨⟨⟨⟨q1, ?_⟩, ?_⟩, q4⟩, q5⟩
      · by_cases hk1 : k = 1
        · have hne := foldSet_ne (hset.1 hk1) hle
          have : 0 < (foldSet s).length := List.length_pos_iff.2 hne
          simp [hk1, this]
        · simp [hk1]
      · by_cases hk1 : k = 1
        · rw [if_pos hk1, List.all_eq_true]
          exact fun r hr => decide_eq_true (foldSet_le s r hr)
        · rw [if_neg hk1]; rfl
    unfold nodeR
    rw [if_neg (by rw [hff]; simp), if_neg (by rintro ⟨hk4, hbb⟩; rw [hb hk4] at hbb; cases hbb)]
    exact hL
theorem right_node {r : Rx} (h : rightR r = 0) : nodeR r = 0 ∧ sizeR r ≤ 40 ∧ depthR r ≤ 12 := by
  unfold rightR at h
  by_cases hn : nodeR r = 0
  · rw [if_pos hn] at h
    split at h
    · cases h
    · exact ⟨hn, by omega, by omega⟩
  · rw [if_neg hn] at h; exact absurd h hn
theorem right_fold (r : Rx) (h : rightR r = 0) : rightR (foldR r) = 0 := by
  obtain ⟨h1, h2, h3⟩ := right_node h
  unfold rightR
  rw [if_pos (node_fold r h1), size_fold, depth_fold, if_neg (by omega)]
end Go.Proofs.YtlnbjdlooghpeaaGreatDoor
