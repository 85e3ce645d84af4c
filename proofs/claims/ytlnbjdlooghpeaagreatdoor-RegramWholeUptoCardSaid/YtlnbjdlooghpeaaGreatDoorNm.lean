/- Layer 10: the lists step by step, as loops reckon them, on plain data. -/
import Derived.Test.YtlnbjdlooghpeaaGreatDoorNr
namespace Go.Proofs.YtlnbjdlooghpeaaGreatDoor
open Go.Op (bytesLess)

theorem takeN {α : Type} {l : List α} {k : Nat} {x : α} (h : l[k]? = some x) : l.take (k + 1) = l.take k ++ [x] := by
  obtain ⟨h1, e⟩ := List.getElem?_eq_some_iff.1 h
  rw [List.take_succ_eq_append_getElem h1, e]
theorem takeA {α : Type} (l : List α) {k : Nat} (h : l.length ≤ k) : l.take k = l := List.take_of_length_le h

/-! ### add -/
def addSt (s : List UInt8) (p : Bool × List (List UInt8)) (x : List UInt8) : Bool × List (List UInt8) := if p.1 = false ∧ bytesLess s x = true then (true, p.2 ++ [s] ++ [x]) else (p.1, p.2 ++ [x])
theorem addSt_in (s : List UInt8) : ∀ (l : List (List UInt8)) (r : List (List UInt8)), l.foldl (addSt s) (true, r) = (true, r ++ l)
  | [], r => by simp
  | x :: l, r => by
    rw [List.foldl_cons, show addSt s (true, r) x = (true, r ++ [x]) from by unfold addSt; simp, addSt_in s l]
    simp
theorem addSt_all (s : List UInt8) : ∀ (l : List (List UInt8)) (r : List (List UInt8)), (if (l.foldl (addSt s) (false, r)).1 = true then (l.foldl (addSt s) (false, r)).2 else (l.foldl (addSt s) (false, r)).2 ++ [s]) = r ++ insS s l
  | [], r => by simp [insS]
  | x :: l, r => by
    rw [List.foldl_cons]
    unfold insS
    by_cases h : bytesLess s x = true
    · rw [if_pos h, show addSt s (false, r) x = (true, r ++ [s] ++ [x]) from by unfold addSt; rw [if_pos ⟨rfl, h⟩], addSt_in]
      simp
    · rw [if_neg h, show addSt s (false, r) x = (false, r ++ [x]) from by unfold addSt; rw [if_neg fun k => h k.2], addSt_all s l (r ++ [x])]
      simp
/-- What the loop of add holds before round i. -/
def addAt (s : List UInt8) (l : List (List UInt8)) (i : Nat) : Bool × List (List UInt8) := (l.take i).foldl (addSt s) (false, [])
theorem addAt_zero (s : List UInt8) (l : List (List UInt8)) : addAt s l 0 = (false, []) := by unfold addAt; simp
theorem addAt_next {s : List UInt8} {l : List (List UInt8)} {i : Nat} {x : List UInt8} (h : l[i]? = some x) : addAt s l (i + 1) = addSt s (addAt s l i) x := by
  unfold addAt
  rw [takeN h, List.foldl_append]
  rfl
theorem addAt_all {s : List UInt8} {l : List (List UInt8)} (h : s ∉ l) : addS l s = if (addAt s l l.length).1 = true then (addAt s l l.length).2 else (addAt s l l.length).2 ++ [s] := by
  unfold addS addAt
  rw [if_neg h, List.take_length, addSt_all]
  simp
theorem addSt_len (s : List UInt8) (p : Bool × List (List UInt8)) (x : List UInt8) : (addSt s p x).2.length ≤ p.2.length + 2 := by
  unfold addSt
  split <;> simp
theorem addAt_len (s : List UInt8) (l : List (List UInt8)) (i : Nat) : (addAt s l i).2.length ≤ 2 * i := by
  have key : ∀ (m : List (List UInt8)) (p : Bool × List (List UInt8)), (m.foldl (addSt s) p).2.length ≤ p.2.length + 2 * m.length := by
    intro m
    induction m with
    | nil => intro p; simp
    | cons x m ih =>
      intro p
      rw [List.foldl_cons]
      have h1 := ih (addSt s p x)
      have h2 := addSt_len s p x
      rw [List.length_cons]
      omega
  have h1 := key (l.take i) (false, [])
  have h2 : (l.take i).length ≤ i := by rw [List.length_take]; omega
  unfold addAt
  simp only [List.length_nil] at h1
  omega

/-! ### products -/
def rowP (b : List (List UInt8)) (acc : List (List UInt8)) (x : List UInt8) : List (List UInt8) := b.foldl (fun acc y => addS acc (x ++ y)) acc
def prodAt (a b : List (List UInt8)) (i : Nat) : List (List UInt8) := (a.take i).foldl (rowP b) []
def rowAt (a b : List (List UInt8)) (i : Nat) (x : List UInt8) (k : Nat) : List (List UInt8) := rowP (b.take k) (prodAt a b i) x
theorem prodAt_zero (a b : List (List UInt8)) : prodAt a b 0 = [] := by unfold prodAt; simp
theorem prodAt_all (a b : List (List UInt8)) : prodAt a b a.length = prodL a b := by unfold prodAt prodL; rw [List.take_length]; rfl
theorem rowAt_zero (a b : List (List UInt8)) (i : Nat) (x : List UInt8) : rowAt a b i x 0 = prodAt a b i := by unfold rowAt rowP; simp
theorem rowAt_next {a b : List (List UInt8)} {i k : Nat} {x y : List UInt8} (h : b[k]? = some y) : rowAt a b i x (k + 1) = addS (rowAt a b i x k) (x ++ y) := by
  unfold rowAt rowP
  rw [takeN h, List.foldl_append]
  rfl
theorem rowAt_all {a b : List (List UInt8)} {i : Nat} {x : List UInt8} (h : a[i]? = some x) : rowAt a b i x b.length = prodAt a b (i + 1) := by
  unfold rowAt prodAt
  rw [List.take_length, takeN h, List.foldl_append]
  rfl
theorem rowP_len (b : List (List UInt8)) (acc : List (List UInt8)) (x : List UInt8) : (rowP b acc x).length ≤ acc.length + b.length := by unfold rowP; exact adds_len _ b acc
theorem prodAt_len (a b : List (List UInt8)) (i : Nat) : (prodAt a b i).length ≤ i * b.length := by
  have key : ∀ (m : List (List UInt8)) (acc : List (List UInt8)), (m.foldl (rowP b) acc).length ≤ acc.length + m.length * b.length := by
    intro m
    induction m with
    | nil => intro acc; simp
    | cons x m ih =>
      intro acc
      rw [List.foldl_cons]
      have h1 := ih (rowP b acc x)
      have h2 := rowP_len b acc x
      rw [List.length_cons, Nat.add_mul]
      omega
  have h1 := key (a.take i) []
  have h2 : (a.take i).length ≤ i := by rw [List.length_take]; omega
  have h3 := Nat.mul_le_mul_right b.length h2
  unfold prodAt
  simp only [List.length_nil] at h1
  omega
theorem rowAt_len (a b : List (List UInt8)) (i : Nat) (x : List UInt8) (k : Nat) : (rowAt a b i x k).length ≤ i * b.length + k := by
  have h1 := rowP_len (b.take k) (prodAt a b i) x
  have h2 := prodAt_len a b i
  have h3 : (b.take k).length ≤ k := by rw [List.length_take]; omega
  unfold rowAt
  omega
theorem prod_none {a b : List (List UInt8)} {i k : Nat} {x y : List UInt8} (hx : a[i]? = some x) (hy : b[k]? = some y) (h : 16 < x.length + y.length) : prodS a b = none := by
  unfold prodS
  rw [if_pos]
  unfold longS
  rw [List.any_eq_true]
  refine ⟨x, List.mem_of_getElem? hx, ?_⟩
  rw [List.any_eq_true]
  exact ⟨y, List.mem_of_getElem? hy, by rw [decide_eq_true_eq]; exact h⟩
/-- No pair before i, k is too long. -/
def shortAt (a b : List (List UInt8)) (i : Nat) : Prop := ∀ x ∈ a.take i, ∀ y ∈ b, x.length + y.length ≤ 16
theorem short_next {a b : List (List UInt8)} {i : Nat} {x : List UInt8} (hx : a[i]? = some x) (h : shortAt a b i) (hr : ∀ y ∈ b, x.length + y.length ≤ 16) : shortAt a b (i + 1) := by
  intro u hu
  rw [takeN hx, List.mem_append, List.mem_singleton] at hu
  rcases hu with hu | rfl
  · exact h u hu
  · exact hr
theorem short_row {b : List (List UInt8)} {k : Nat} {x y : List UInt8} (hy : b[k]? = some y) (h : ∀ z ∈ b.take k, x.length + z.length ≤ 16) (hr : x.length + y.length ≤ 16) : ∀ z ∈ b.take (k + 1), x.length + z.length ≤ 16 := by
  intro u hu
  rw [takeN hy, List.mem_append, List.mem_singleton] at hu
  rcases hu with hu | rfl
  · exact h u hu
  · exact hr
theorem prod_is {a b : List (List UInt8)} (h : shortAt a b a.length) : prodS a b = if (prodL a b).length ≤ 8 then some (prodL a b) else none := by
  unfold prodS
  rw [if_neg]
  intro hl
  unfold longS at hl
  obtain ⟨x, hx, hl⟩ := List.any_eq_true.1 hl
  obtain ⟨y, hy, hl⟩ := List.any_eq_true.1 hl
  rw [decide_eq_true_eq] at hl
  have := h x (by rw [List.take_length]; exact hx) y hy
  omega

/-! ### both -/
def bothAt (a b : List (List UInt8)) (i : Nat) : List (List UInt8) := bothL a (b.take i)
theorem bothAt_zero (a b : List (List UInt8)) : bothAt a b 0 = a := by unfold bothAt bothL; simp
theorem bothAt_next {a b : List (List UInt8)} {i : Nat} {y : List UInt8} (h : b[i]? = some y) : bothAt a b (i + 1) = addS (bothAt a b i) y := by
  unfold bothAt bothL
  rw [takeN h, List.foldl_append]
  rfl
theorem bothAt_all (a b : List (List UInt8)) : bothAt a b b.length = bothL a b := by unfold bothAt; rw [List.take_length]
theorem bothAt_len (a b : List (List UInt8)) (i : Nat) : (bothAt a b i).length ≤ a.length + i := by
  have h1 := adds_len (fun x => x) (b.take i) a
  have h2 : (b.take i).length ≤ i := by rw [List.length_take]; omega
  unfold bothAt bothL
  omega

/-! ### sequences, alternatives, repetitions -/
/-- The product of what the first i subs have. -/
def catAt (fold : Bool) (l : List Rx) (i : Nat) : Option (List (List UInt8)) := litCat fold [[]] (l.take i)
theorem litCat_app (fold : Bool) : ∀ (l m : List Rx) (acc : List (List UInt8)), litCat fold acc (l ++ m) = (litCat fold acc l).bind fun p => litCat fold p m
  | [], m, acc => by rw [List.nil_append, litCat]; rfl
  | x :: l, m, acc => by
    rw [List.cons_append, litCat, litCat]
    cases litR fold x with
    | none => rfl
    | some y =>
      show (prodS acc y).bind _ = ((prodS acc y).bind _).bind _
      cases prodS acc y with
      | none => rfl
      | some p => exact litCat_app fold l m p
theorem catAt_zero (fold : Bool) (l : List Rx) : catAt fold l 0 = some [[]] := by unfold catAt; rw [List.take_zero, litCat]
theorem catAt_next {fold : Bool} {l : List Rx} {i : Nat} {x : Rx} (h : l[i]? = some x) : catAt fold l (i + 1) = (catAt fold l i).bind fun p => (litR fold x).bind fun y => prodS p y := by
  unfold catAt
  rw [takeN h, litCat_app]
  congr 1
  funext p
  rw [litCat]
  congr 1
  funext y
  cases prodS p y with
  | none => rfl
  | some q => show litCat fold q [] = _; rw [litCat]
theorem catAt_none {fold : Bool} {l : List Rx} {i : Nat} (h : catAt fold l i = none) : litCat fold [[]] l = none := by
  have e := litCat_app fold (l.take i) (l.drop i) [[]]
  rw [List.take_append_drop] at e
  rw [e]
  unfold catAt at h
  rw [h]
  rfl
theorem catAt_all (fold : Bool) (l : List Rx) : catAt fold l l.length = litCat fold [[]] l := by unfold catAt; rw [List.take_length]
def altAt (fold : Bool) (l : List Rx) (i : Nat) : Option (List (List UInt8)) := litAlt fold [] (l.take i)
theorem litAlt_app (fold : Bool) : ∀ (l m : List Rx) (acc : List (List UInt8)), litAlt fold acc (l ++ m) = (litAlt fold acc l).bind fun p => litAlt fold p m
  | [], m, acc => by rw [List.nil_append, litAlt]; rfl
  | x :: l, m, acc => by
    rw [List.cons_append, litAlt, litAlt]
    cases litR fold x with
    | none => rfl
    | some y =>
      show (bothS acc y).bind _ = ((bothS acc y).bind _).bind _
      cases bothS acc y with
      | none => rfl
      | some p => exact litAlt_app fold l m p
theorem altAt_zero (fold : Bool) (l : List Rx) : altAt fold l 0 = some [] := by unfold altAt; rw [List.take_zero, litAlt]
theorem altAt_next {fold : Bool} {l : List Rx} {i : Nat} {x : Rx} (h : l[i]? = some x) : altAt fold l (i + 1) = (altAt fold l i).bind fun p => (litR fold x).bind fun y => bothS p y := by
  unfold altAt
  rw [takeN h, litAlt_app]
  congr 1
  funext p
  rw [litAlt]
  congr 1
  funext y
  cases bothS p y with
  | none => rfl
  | some q => show litAlt fold q [] = _; rw [litAlt]
theorem altAt_none {fold : Bool} {l : List Rx} {i : Nat} (h : altAt fold l i = none) : litAlt fold [] l = none := by
  have e := litAlt_app fold (l.take i) (l.drop i) []
  rw [List.take_append_drop] at e
  rw [e]
  unfold altAt at h
  rw [h]
  rfl
theorem altAt_all (fold : Bool) (l : List Rx) : altAt fold l l.length = litAlt fold [] l := by unfold altAt; rw [List.take_length]
theorem catAt_good {fold : Bool} {l : List Rx} {i : Nat} {p : List (List UInt8)} (h : catAt fold l i = some p) : LitL p := litCat_some (l.take i) litL_one h
theorem altAt_good {fold : Bool} {l : List Rx} {i : Nat} {p : List (List UInt8)} (h : altAt fold l i = some p) : LitL p :=
  litAlt_some (l.take i) (fun x _ q hq => litR_good x q hq) ⟨srt_nil, by simp, fun x hx => by cases hx⟩ h
theorem repA_none {x : List (List UInt8)} {least : Int} : ∀ {m n : Nat}, n ≤ m → repA x least n = none → repA x least m = none
  | 0, n, h, e => by obtain rfl : n = 0 := by omega
                     exact e
  | m + 1, n, h, e => by
    by_cases hn : n = m + 1
    · subst hn; exact e
    · rw [repA, repA_none (m := m) (n := n) (by omega) e]; rfl
theorem repA_pow_none {x : List (List UInt8)} {least : Int} {m n : Nat} (h : n < m) (e : powS x n = none) : repA x least m = none := by
  refine repA_none (n := n + 1) (by omega) ?_
  rw [repA, e]
  cases repA x least n <;> rfl

/-! ### the sizes that the laws ask for -/
mutual
def weightR : Rx → Nat
  | .mk _ set _ _ l => 1 + set.length + weightL l
def weightL : List Rx → Nat
  | [] => 0
  | x :: l => weightR x + weightL l
end
mutual
/-- Size, as it is counted up to a limit. -/
def szR (L : Nat) : Rx → Nat
  | .mk _ set _ _ l => szL L (1 + set.length) l
def szL (L k : Nat) : List Rx → Nat
  | [] => k
  | x :: l => if k ≤ L then szL L (k + szR (L - k) x) l else k
end
theorem weightL_app (l m : List Rx) : weightL (l ++ m) = weightL l + weightL m := by
  induction l with
  | nil => simp [weightL]
  | cons x l ih => rw [List.cons_append, weightL, weightL, ih]; omega
theorem szL_stop {L k : Nat} (h : L < k) (l : List Rx) : szL L k l = k := by
  cases l with
  | nil => rw [szL]
  | cons x l => rw [szL, if_neg (by omega)]
theorem szL_ge {L : Nat} : ∀ (l : List Rx) (k : Nat), k ≤ szL L k l
  | [], k => by rw [szL]; exact Nat.le_refl k
  | x :: l, k => by
    rw [szL]
    split
    · have := szL_ge l (k + szR (L - k) x) (L := L); omega
    · omega
theorem szL_ok {L : Nat} : ∀ (l : List Rx) (k : Nat), (∀ x ∈ l, ∀ M, (szR M x ≤ M → szR M x = weightR x) ∧ szR M x ≤ weightR x) → (szL L k l ≤ L → szL L k l = k + weightL l) ∧ szL L k l ≤ k + weightL l
  | [], k, _ => by rw [szL, weightL]; exact ⟨fun _ => rfl, by omega⟩
  | x :: l, k, h => by
    rw [szL, weightL]
    obtain ⟨h1, h2⟩ := h x (by simp) (L - k)
    obtain ⟨h3, h4⟩ := szL_ok l (k + szR (L - k) x) (fun y hy => h y (by simp [hy])) (L := L)
    split
    · rename_i hk
      refine ⟨fun hl => ?_, by omega⟩
      have h5 := szL_ge l (k + szR (L - k) x) (L := L)
      rw [h3 hl, h1 (by omega)]
      omega
    · exact ⟨fun hl => by omega, by omega⟩
theorem sz_ok (r : Rx) : ∀ L, (szR L r ≤ L → szR L r = weightR r) ∧ szR L r ≤ weightR r := by
  induction r using Rx.ind with
  | h k set a b l ih =>
    intro L
    rw [szR, weightR]
    exact szL_ok l (1 + set.length) ih
theorem size_weight (r : Rx) : sizeR r ≤ weightR r := by
  induction r using Rx.ind with
  | h k set a b l ih =>
    rw [sizeR_mk, weightR]
    have : ∀ m : List Rx, (∀ x ∈ m, sizeR x ≤ weightR x) → sizeL m ≤ weightL m := by
      intro m
      induction m with
      | nil => intro _; simp [sizeL]
      | cons x m im =>
        intro h
        rw [sizeL_cons, weightL]
        have h1 := h x (by simp)
        have h2 := im fun y hy => h y (by simp [hy])
        omega
    have := this l ih
    omega
mutual
def ndR (L : Nat) : Nd → Nat
  | .mk _ _ l => ndL L 1 l
def ndL (L k : Nat) : List Nd → Nat
  | [] => k
  | x :: l => if k ≤ L then ndL L (k + ndR (L - k) x) l else k
end
theorem ndL_ge {L : Nat} : ∀ (l : List Nd) (k : Nat), k ≤ ndL L k l
  | [], k => by rw [ndL]; exact Nat.le_refl k
  | x :: l, k => by
    rw [ndL]
    split
    · have := ndL_ge l (k + ndR (L - k) x) (L := L); omega
    · omega
theorem ndL_ok {L : Nat} : ∀ (l : List Nd) (k : Nat), (∀ x ∈ l, ∀ M, (ndR M x ≤ M → ndR M x = sizeN x) ∧ ndR M x ≤ sizeN x) → (ndL L k l ≤ L → ndL L k l = k + sizeNL l) ∧ ndL L k l ≤ k + sizeNL l
  | [], k, _ => by rw [ndL, sizeNL]; exact ⟨fun _ => rfl, by omega⟩
  | x :: l, k, h => by
    rw [ndL, sizeNL]
    obtain ⟨h1, h2⟩ := h x (by simp) (L - k)
    obtain ⟨h3, h4⟩ := ndL_ok l (k + ndR (L - k) x) (fun y hy => h y (by simp [hy])) (L := L)
    split
    · rename_i hk
      refine ⟨fun hl => ?_, by omega⟩
      have h5 := ndL_ge l (k + ndR (L - k) x) (L := L)
      rw [h3 hl, h1 (by omega)]
      omega
    · exact ⟨fun hl => by omega, by omega⟩
theorem nd_ok (n : Nd) : ∀ L, (ndR L n ≤ L → ndR L n = sizeN n) ∧ ndR L n ≤ sizeN n := by
  induction n using Nd.ind with
  | h k g l ih =>
    intro L
    rw [ndR, sizeN_mk]
    exact ndL_ok l 1 ih
end Go.Proofs.YtlnbjdlooghpeaaGreatDoor
