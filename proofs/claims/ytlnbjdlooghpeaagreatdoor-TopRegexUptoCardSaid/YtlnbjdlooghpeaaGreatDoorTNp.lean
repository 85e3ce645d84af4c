/- TopRegex: Np, Nq. -/
import Derived.Test.YtlnbjdlooghpeaaGreatDoorTNg
import Derived.Lib.RowBridge
namespace Go.Proofs.YtlnbjdlooghpeaaGreatDoor
open Go.Op (bytesLess)
theorem less_lt : ∀ a b : List UInt8, bytesLess a b = true ↔ a < b
  | a, [] => by simp [bytesLess]
  | [], b :: y => by simp [bytesLess]
  | a :: x, b :: y => by
    unfold bytesLess
    rw [List.cons_lt_cons_iff, Bool.or_eq_true, Bool.and_eq_true, decide_eq_true_eq, beq_iff_eq, less_lt x y]
theorem le_less (a b : List UInt8) : a ≤ b ↔ bytesLess b a = false := by
  rw [← Bool.not_eq_true, less_lt]
  exact Iff.rfl
theorem le_cases {a b : List UInt8} (h : a ≤ b) : a = b ∨ bytesLess a b = true := by
  by_cases e : a = b
  · exact Or.inl e
  · exact Or.inr (less_tri ((le_less a b).1 h) fun e' => e e'.symm)
theorem le_trans' {a b c : List UInt8} (h : a ≤ b) (k : b ≤ c) : a ≤ c := by
  rcases le_cases h with rfl | h'
  · exact k
  rcases le_cases k with rfl | k'
  · exact h
  exact (le_less a c).2 (less_asymm (less_trans h' k'))
theorem le_total' (a b : List UInt8) : a ≤ b ∨ b ≤ a := by
  cases h : bytesLess b a with
  | false => exact Or.inl ((le_less a b).2 h)
  | true => exact Or.inr ((le_less b a).2 (less_asymm h))
def srtS (l : List (List UInt8)) : List (List UInt8) := l.mergeSort fun x y => decide (x ≤ y)
theorem srtS_len (l : List (List UInt8)) : (srtS l).length = l.length := List.length_mergeSort l
theorem srtS_mem (l : List (List UInt8)) (x : List UInt8) : x ∈ srtS l ↔ x ∈ l := List.mem_mergeSort
theorem srtS_up (l : List (List UInt8)) : (srtS l).Pairwise fun x y => x ≤ y := by
  have h := List.pairwise_mergeSort (le := fun x y : List UInt8 => decide (x ≤ y)) (fun a b c h1 h2 => by simp only [decide_eq_true_eq] at *; exact le_trans' h1 h2) (fun a b => by simp only [Bool.or_eq_true, decide_eq_true_eq]; exact le_total' a b) l
  exact h.imp fun h => by simpa using h
theorem compactS_up (d : Array (List UInt8)) (hs : ∀ i j, i < j → j < d.size → d[i]! ≤ d[j]!) : ∀ m, m ≤ d.size →
    Srt (Lib.compactUpTo d m) ∧ (∀ x, x ∈ Lib.compactUpTo d m ↔ ∃ j, j < m ∧ d[j]! = x)
  | 0, _ => ⟨by simp [Lib.compactUpTo]; exact srt_nil, fun x => by simp [Lib.compactUpTo]⟩
  | m + 1, hm => by
    obtain ⟨h1, h2⟩ := compactS_up d hs m (by omega)
    rw [Lib.compactUpTo_succ]
    by_cases hk : Lib.keeps d m = true
    · rw [if_pos hk]
      have hlt : ∀ j, j < m → bytesLess d[j]! d[m]! = true := by
        intro j hj
        have hk' : m = 0 ∨ d[m]! ≠ d[m - 1]! := by simpa [Lib.keeps] using hk
        have hne : d[m]! ≠ d[m - 1]! := by
          rcases hk' with h | h
          · omega
          · exact h
        have a1 : bytesLess d[m - 1]! d[m]! = true := (le_cases (hs (m - 1) m (by omega) (by omega))).resolve_left fun e => hne e.symm
        by_cases he : j = m - 1
        · rw [he]; exact a1
        · rcases le_cases (hs j (m - 1) (by omega) (by omega)) with e | a2
          · rw [e]; exact a1
          · exact less_trans a2 a1
      refine ⟨?_, fun x => ?_⟩
      · unfold Srt at *
        rw [List.pairwise_append]
        refine ⟨h1, by simp, fun a ha b hb => ?_⟩
        obtain ⟨j, hj, rfl⟩ := (h2 a).1 ha
        rw [List.mem_singleton] at hb
        subst hb
        exact hlt j hj
      · rw [List.mem_append, h2, List.mem_singleton]
        constructor
        · rintro (⟨j, hj, e⟩ | e)
          · exact ⟨j, by omega, e⟩
          · exact ⟨m, by omega, e.symm⟩
        · rintro ⟨j, hj, e⟩
          by_cases hjm : j = m
          · subst hjm; exact Or.inr e.symm
          · exact Or.inl ⟨j, by omega, e⟩
    · rw [if_neg hk, List.append_nil]
      refine ⟨h1, fun x => ?_⟩
      rw [h2]
      constructor
      · rintro ⟨j, hj, e⟩
        exact ⟨j, by omega, e⟩
      · rintro ⟨j, hj, e⟩
        by_cases hjm : j = m
        · subst hjm
          have hk' : ¬ (j = 0 ∨ d[j]! ≠ d[j - 1]!) := by simpa [Lib.keeps] using hk
          have h0 : j ≠ 0 := fun h => hk' (Or.inl h)
          have he : d[j]! = d[j - 1]! := Classical.not_not.1 fun h => hk' (Or.inr h)
          exact ⟨j - 1, by omega, by rw [← he, e]⟩
        · exact ⟨j, by omega, e⟩
def sortS (l : List (List UInt8)) : List (List UInt8) := Lib.compact (srtS l)
theorem sortS_spec (l : List (List UInt8)) : Srt (sortS l) ∧ ∀ x, x ∈ sortS l ↔ x ∈ l := by
  have hp := srtS_up l
  have hm := srtS_mem l
  unfold sortS
  generalize srtS l = s at hp hm ⊢
  have h := compactS_up s.toArray (fun i j hij hj => by
    have hj' : j < s.length := by simpa using hj
    have := List.pairwise_iff_getElem.1 hp i j (by omega) hj' hij
    simp [getElem!_pos, show i < s.length by omega, hj']
    simpa using this) s.length (by simp)
  refine ⟨h.1, fun x => ?_⟩
  show x ∈ Lib.compactUpTo s.toArray s.length ↔ _
  rw [h.2, ← hm]
  constructor
  · rintro ⟨j, hj, rfl⟩
    simp [getElem!_pos, hj]
  · intro hx
    obtain ⟨j, hj, rfl⟩ := List.getElem_of_mem hx
    exact ⟨j, hj, by simp [getElem!_pos, hj]⟩
theorem sortS_eq {l m : List (List UInt8)} (hm : Srt m) (h : ∀ x, x ∈ l ↔ x ∈ m) : sortS l = m :=
  srt_ext (sortS_spec l).1 hm fun y => ((sortS_spec l).2 y).trans (h y)
abbrev LS := List (List UInt8)
def gd (o : Option LS) : LS := o.getD []
def diffS (l : LS) : LS := if 8 < (sortS l).length then [] else sortS l
theorem diffS_eq {l m : LS} (hm : Srt m) (h : ∀ x, x ∈ l ↔ x ∈ m) : diffS l = gd (if m.length ≤ 8 then some m else none) := by
  unfold diffS
  rw [sortS_eq hm h]
  by_cases h8 : m.length ≤ 8
  · rw [if_neg (by omega), if_pos h8]; rfl
  · rw [if_pos (by omega), if_neg h8]; rfl
def pairS (a b : LS) : LS := a.flatMap fun x => b.map fun y => x ++ y
theorem pair_cons (x : List UInt8) (a b : LS) : pairS (x :: a) b = b.map (fun y => x ++ y) ++ pairS a b := by unfold pairS; rw [List.flatMap_cons]
def prodP (a b : LS) : LS := if longS a b = true then [] else diffS (pairS a b)
theorem prodP_eq (a b : LS) : prodP a b = gd (prodS a b) := by
  unfold prodP prodS
  split
  · rfl
  · refine diffS_eq ?_ fun x => ?_
    · unfold prodL; exact prodL_srt_from b a srt_nil
    · rw [prodL_mem]
      unfold pairS
      simp only [List.mem_flatMap, List.mem_map]
      exact ⟨fun ⟨u, hu, v, hv, e⟩ => ⟨u, hu, v, hv, e.symm⟩, fun ⟨u, hu, v, hv, e⟩ => ⟨u, hu, v, hv, e.symm⟩⟩
def unionP (a b : LS) : LS := if a.length = 0 ∨ b.length = 0 then [] else diffS (a ++ b)
theorem bothL_srt {a : LS} (h : Srt a) (b : LS) : Srt (bothL a b) := by unfold bothL; exact adds_srt (fun y => y) b h
theorem unionP_eq {a b : LS} (ha : Srt a) (h1 : a ≠ []) (h2 : b ≠ []) : unionP a b = gd (bothS a b) := by
  unfold unionP bothS
  rw [if_neg (fun h => h.elim (fun h => h1 (List.eq_nil_of_length_eq_zero h)) fun h => h2 (List.eq_nil_of_length_eq_zero h))]
  exact diffS_eq (bothL_srt ha b) fun x => by rw [List.mem_append, bothL_mem]
theorem unionP_nil (a : LS) : unionP a [] = [] := by unfold unionP; simp
theorem union_nil (b : LS) : unionP [] b = [] := by unfold unionP; simp
theorem pair_nil (a : LS) : pairS a [] = [] := by
  induction a with
  | nil => rfl
  | cons x a ih => rw [pair_cons, ih]; rfl
theorem prodS_nil' (a : LS) : gd (prodS a []) = [] := by
  rw [← prodP_eq]
  unfold prodP
  rw [pair_nil]
  split
  · rfl
  · exact diffS_eq srt_nil fun x => Iff.rfl
theorem gd_prod (o q : Option LS) : gd (prodS (gd o) (gd q)) = gd (o.bind fun p => q.bind fun y => prodS p y) := by
  cases o with
  | none => rfl
  | some p =>
    cases q with
    | none => exact prodS_nil' p
    | some y => rfl
theorem prod_ne {a b p : LS} (ha : a ≠ []) (hb : b ≠ []) (h : prodS a b = some p) : p ≠ [] := by
  obtain ⟨x, a', rfl⟩ := List.exists_cons_of_ne_nil ha
  obtain ⟨y, b', rfl⟩ := List.exists_cons_of_ne_nil hb
  intro e
  have := ((prodS_some h).2 (x ++ y)).2 ⟨x, by simp, y, by simp, rfl⟩
  rw [e] at this
  cases this
theorem both_ne {a b p : LS} (hb : b ≠ []) (h : bothS a b = some p) : p ≠ [] := by
  obtain ⟨y, b', rfl⟩ := List.exists_cons_of_ne_nil hb
  intro e
  unfold bothS at h
  split at h
  · cases h
    have := (bothL_mem a (y :: b') y).2 (Or.inr (by simp))
    rw [e] at this
    cases this
  · cases h
theorem both_nil {y : LS} (h : LitL y) : bothS [] y = some y := by
  unfold bothS
  have e : bothL [] y = y := srt_ext (bothL_srt srt_nil y) h.1 fun z => by rw [bothL_mem]; simp
  rw [e, if_pos h.2.1]
theorem gd_lit {o : Option LS} (h : ∀ p, o = some p → LitL p) : LitL (gd o) := by
  cases o with
  | none => exact ⟨srt_nil, by simp [gd], fun x hx => by simp [gd] at hx⟩
  | some p => exact h p rfl
def Full (o : Option LS) : Prop := ∀ p, o = some p → p ≠ []
theorem pow_ne {x : LS} (hx : x ≠ []) : ∀ (n : Nat), Full (powS x n)
  | 0, p, h => by cases h; simp
  | n + 1, p, h => by
    obtain ⟨q, h1, h2⟩ := bind_some h
    exact prod_ne (pow_ne hx n q h1) hx h2
theorem repA_first (x : LS) (least : Nat) : repA x (least : Int) (least + 1) = powS x least := by
  have key : ∀ n, n ≤ least → (repA x (least : Int) n = some [] ∨ repA x (least : Int) n = none ∧ ∃ m, m < n ∧ powS x m = none) := by
    intro n
    induction n with
    | zero => intro _; exact Or.inl rfl
    | succ n ih =>
      intro h
      rw [repA]
      rcases ih (by omega) with e | ⟨e, m, hm, hp⟩
      · rw [e]
        cases hp : powS x n with
        | none => exact Or.inr ⟨rfl, n, by omega, hp⟩
        | some l =>
          refine Or.inl ?_
          show (if (least : Int) ≤ (n : Int) then bothS [] l else some []) = some []
          rw [if_neg (by omega)]
      · exact Or.inr ⟨by rw [e]; rfl, m, by omega, hp⟩
  have powN : ∀ m n, m ≤ n → powS x m = none → powS x n = none := by
    intro m n h e
    induction n with
    | zero => obtain rfl : m = 0 := by omega
              exact e
    | succ n ih =>
      by_cases hn : m = n + 1
      · subst hn; exact e
      · rw [powS, ih (by omega)]; rfl
  rw [repA]
  rcases key least (Nat.le_refl _) with e | ⟨e, m, hm, hp⟩
  · rw [e]
    cases hp : powS x least with
    | none => rfl
    | some l =>
      show (if (least : Int) ≤ (least : Int) then bothS [] l else some []) = some l
      rw [if_pos (Int.le_refl _)]
      exact both_nil (powS_some least hp)
  · rw [e, powN m least (by omega) hp]; rfl
theorem rep_full {x : LS} (hx : x ≠ []) (least : Nat) : ∀ j, Full (repA x (least : Int) (least + 1 + j))
  | 0, p, h => by rw [Nat.add_zero, repA_first] at h; exact pow_ne hx least p h
  | j + 1, p, h => by
    rw [← Nat.add_assoc, repA] at h
    obtain ⟨q, h1, h2⟩ := bind_some h
    obtain ⟨l, h3, h4⟩ := bind_some h2
    rw [if_pos (by omega)] at h4
    exact both_ne (pow_ne hx _ l h3) h4
theorem cat_full {fold : Bool} : ∀ (l : List Rx) (acc : LS), acc ≠ [] → (∀ x ∈ l, Full (litR fold x)) → Full (litCat fold acc l)
  | [], acc, ha, _, p, h => by rw [litCat] at h; cases h; exact ha
  | x :: l, acc, ha, hl, p, h => by
    rw [litCat] at h
    obtain ⟨y, h1, h2⟩ := bind_some h
    obtain ⟨q, h3, h4⟩ := bind_some h2
    exact cat_full l q (prod_ne ha (hl x (by simp) y h1) h3) (fun z hz => hl z (by simp [hz])) p h4
theorem alt_full {fold : Bool} : ∀ (l : List Rx) (acc : LS), acc ≠ [] ∨ l ≠ [] → (∀ x ∈ l, Full (litR fold x)) → Full (litAlt fold acc l)
  | [], acc, ha, _, p, h => by rw [litAlt] at h; cases h; exact ha.resolve_right fun e => e rfl
  | x :: l, acc, _, hl, p, h => by
    rw [litAlt] at h
    obtain ⟨y, h1, h2⟩ := bind_some h
    obtain ⟨q, h3, h4⟩ := bind_some h2
    exact alt_full l q (Or.inl (both_ne (hl x (by simp) y h1) h3)) (fun z hz => hl z (by simp [hz])) p h4
theorem lit_full {fold : Bool} (r : Rx) : nodeR r = 0 → Full (litR fold r) := by
  induction r using Rx.ind with
  | h k set a b l ih =>
    intro hn p h
    obtain ⟨h1, h2, h3⟩ := node_ok hn
    have hl : ∀ x ∈ l, Full (litR fold x) := fun x hx => ih x hx (h3 x hx)
    unfold fieldsR at h1
    simp only [Bool.and_eq_true, decide_eq_true_eq, beq_iff_eq] at h1
    obtain ⟨⟨⟨⟨hk, hs⟩, hr⟩, -⟩, hf⟩ := h1
    unfold litR at h
    by_cases k1 : k = 1
    · rw [if_pos k1] at h
      obtain ⟨-, hm⟩ := bytesS_some h
      have hset : 0 < set.length := by
        have : decide (0 < set.length) = true := by rw [← hs]; simp [k1]
        simpa using this
      match set, hset, hr, hm with
      | (lo, hi) :: set, _, hr, hm =>
        have hle : lo ≤ hi := by simpa using (List.all_eq_true.1 hr (lo, hi) (by simp))
        intro e
        have := (hm [fb fold lo]).2 ⟨lo, by unfold hasS; simp [hle], rfl⟩
        rw [e] at this
        cases this
    rw [if_neg k1] at h
    by_cases k2 : k = 2
    · rw [if_pos k2] at h
      exact cat_full l [[]] (by simp) hl p h
    rw [if_neg k2] at h
    by_cases k3 : k = 3
    · rw [if_pos k3] at h
      rw [if_neg (by omega), if_pos k3, decide_eq_true_eq] at hf
      exact alt_full l [] (Or.inr (fun e => by rw [e] at hf; simp at hf)) hl p h
    rw [if_neg k3] at h
    by_cases k4 : k = 4 ∧ 0 ≤ b
    · rw [if_pos k4] at h
      obtain ⟨x, hx, h4⟩ := bind_some h
      have hbd := h2 k4.1
      unfold boundsR at hbd
      rw [decide_eq_true_eq] at hbd
      obtain ⟨n, hnn⟩ : ∃ n : Nat, a = (n : Int) := ⟨a.toNat, by omega⟩
      subst hnn
      have hx' : x ≠ [] := by
        match l, hx, hl with
        | y :: l, hx, hl => unfold litOne at hx; exact hl y (by simp) x hx
      have e : b.toNat + 1 = n + 1 + (b.toNat - n) := by omega
      rw [e] at h4
      exact rep_full hx' n _ p h4
    · rw [if_neg k4] at h
      cases h
theorem lit_gd {fold : Bool} {r : Rx} (hn : nodeR r = 0) : gd (litR fold r) = [] ↔ litR fold r = none := by
  cases h : litR fold r with
  | none => simp [gd]
  | some p => simpa [gd] using lit_full r hn p h
theorem lit_some {fold : Bool} {r : Rx} (hn : nodeR r = 0) : (litR fold r).isSome = decide (0 < (gd (litR fold r)).length) := by
  cases h : litR fold r with
  | none => simp [gd]
  | some p => simpa [gd, List.length_pos_iff] using lit_full r hn p h
def byteP (set : List (UInt8 × UInt8)) (f : UInt8 → UInt8) : Nat → LS
  | 0 => []
  | n + 1 => if hasS set (UInt8.ofNat n) = true then byteP set f n ++ [[f (UInt8.ofNat n)]] else byteP set f n
theorem byteP_len (set : List (UInt8 × UInt8)) (f : UInt8 → UInt8) : ∀ n, (byteP set f n).length ≤ n
  | 0 => Nat.le_refl _
  | n + 1 => by
    have := byteP_len set f n
    unfold byteP
    split
    · simp; exact this
    · omega
theorem byteP_mem (set : List (UInt8 × UInt8)) (fold : Bool) (y : List UInt8) : ∀ n, y ∈ byteP set (fb fold) n ↔ y ∈ byteL set fold n
  | 0 => by simp [byteP, byteL]
  | n + 1 => by
    unfold byteP byteL
    split
    · rw [List.mem_append, byteP_mem set fold y n, addS_mem]
      simp
    · exact byteP_mem set fold y n
theorem bytes_is (set : List (UInt8 × UInt8)) (fold : Bool) : diffS (byteP set (fb fold) 256) = gd (bytesS set fold) :=
  diffS_eq (byteL_srt set fold 256) fun x => byteP_mem set fold x 256
theorem cat_step {fold : Bool} {l : List Rx} {i : Nat} {x : Rx} (h : l[i]? = some x) : gd (prodS (gd (catAt fold l i)) (gd (litR fold x))) = gd (catAt fold l (i + 1)) := by rw [catAt_next h, gd_prod]
theorem altAt_full {fold : Bool} {l : List Rx} (hl : ∀ x ∈ l, Full (litR fold x)) {i : Nat} (hi : 0 < i) (h0 : 0 < l.length) : Full (altAt fold l i) := by
  unfold altAt
  refine alt_full _ [] (Or.inr fun e => ?_) fun x hx => hl x (List.mem_of_mem_take hx)
  have := congrArg List.length e
  rw [List.length_take, List.length_nil] at this
  omega
theorem alt_first {fold : Bool} {l : List Rx} {x : Rx} (h : l[0]? = some x) : altAt fold l 1 = litR fold x := by
  rw [altAt_next h, altAt_zero]
  cases hx : litR fold x with
  | none => rfl
  | some y => exact both_nil (litR_good x y hx)
theorem alt_step {fold : Bool} {l : List Rx} (hl : ∀ x ∈ l, Full (litR fold x)) {i : Nat} (hi : 0 < i) {x : Rx} (h : l[i]? = some x) : unionP (gd (altAt fold l i)) (gd (litR fold x)) = gd (altAt fold l (i + 1)) := by
  have h0 : 0 < l.length := by have := (List.getElem?_eq_some_iff.1 h).1; omega
  have hf := altAt_full hl hi h0
  rw [altAt_next h]
  cases h1 : altAt fold l i with
  | none => rw [show gd none = [] from rfl, union_nil]; rfl
  | some p =>
    cases h2 : litR fold x with
    | none => rw [show gd none = [] from rfl, unionP_nil]; rfl
    | some y => exact unionP_eq (altAt_good h1).1 (hf p h1) (hl x (List.mem_of_getElem? h) y h2)
def repP (x : LS) (least : Nat) : Nat → LS
  | 0 => gd (powS x least)
  | j + 1 => unionP (repP x least j) (gd (powS x (least + j + 1)))
theorem pow_step (x : LS) (n : Nat) : gd (prodS (gd (powS x n)) x) = gd (powS x (n + 1)) := by
  rw [powS]
  cases powS x n with
  | none => rfl
  | some p => rfl
theorem powS_nil (n : Nat) : gd (powS [] (n + 1)) = [] := by rw [← pow_step, prodS_nil']
theorem repP_eq {x : LS} (hx : x ≠ []) (least : Nat) : ∀ j, repP x least j = gd (repA x (least : Int) (least + 1 + j))
  | 0 => by rw [repP, Nat.add_zero, repA_first]
  | j + 1 => by
    rw [repP, repP_eq hx least j, ← Nat.add_assoc, repA, show least + j + 1 = least + 1 + j by omega]
    cases h1 : repA x (least : Int) (least + 1 + j) with
    | none => rw [show gd none = [] from rfl, union_nil]; rfl
    | some p =>
      cases h2 : powS x (least + 1 + j) with
      | none => rw [show gd none = [] from rfl, unionP_nil]; rfl
      | some q =>
        show unionP p q = gd (if (least : Int) ≤ ((least + 1 + j : Nat) : Int) then bothS p q else some p)
        rw [if_pos (by omega)]
        exact unionP_eq (repA_some _ h1).1 (rep_full hx least j p h1) (pow_ne hx _ q h2)
theorem repP_nil (least : Nat) : ∀ j, 0 < least + j → repP [] least j = []
  | 0, h => by
    obtain ⟨m, rfl⟩ : ∃ m, least = m + 1 := ⟨least - 1, by omega⟩
    rw [repP, powS_nil]
  | j + 1, _ => by rw [repP, powS_nil, unionP_nil]
theorem rep_is {x : Option LS} (hx : Full x) {a b : Nat} (hab : a ≤ b) (hb : 0 < b) : repP (gd x) a (b - a) = gd (x.bind fun y => repA y (a : Int) (b + 1)) := by
  cases x with
  | none => exact repP_nil a (b - a) (by omega)
  | some y =>
    rw [show gd (some y) = y from rfl, repP_eq (hx y rfl) a (b - a), show a + 1 + (b - a) = b + 1 by omega]
    rfl
theorem powS_lit (x : LS) (n : Nat) : LitL (gd (powS x n)) := gd_lit fun _ h => powS_some n h
theorem diffS_lit {l : LS} (h : ∀ x ∈ l, x.length ≤ 16) : LitL (diffS l) := by
  unfold diffS
  split
  · exact ⟨srt_nil, by simp, fun x hx => by cases hx⟩
  · exact ⟨(sortS_spec l).1, by omega, fun x hx => h x (((sortS_spec l).2 x).1 hx)⟩
theorem unionP_lit {a b : LS} (ha : ∀ x ∈ a, x.length ≤ 16) (hb : ∀ x ∈ b, x.length ≤ 16) : LitL (unionP a b) := by
  unfold unionP
  split
  · exact ⟨srt_nil, by simp, fun x hx => by cases hx⟩
  · exact diffS_lit fun x hx => (List.mem_append.1 hx).elim (ha x) (hb x)
theorem prodP_lit (a b : LS) : LitL (gd (prodS a b)) := gd_lit fun _ h => (prodS_some h).1
theorem repP_lit {x : LS} (least : Nat) : ∀ j, LitL (repP x least j)
  | 0 => powS_lit x least
  | j + 1 => unionP_lit (repP_lit least j).2.2 (powS_lit x _).2.2
def curS (part : LS) : Option LS := if part = [] then none else some part
theorem curS_nil : curS [] = none := if_pos rfl
theorem curS_ne {p : LS} (h : p ≠ []) : curS p = some p := if_neg h
theorem parts_step_none {part : LS} {x : Rx} {l : List Rx} (hn : nodeR x = 0) (h : gd (litR true x) = []) : partsR (curS part) (x :: l) = flushS (curS part) ++ rawR x :: partsR (curS []) l := parts_none ((lit_gd hn).1 h)
theorem parts_step_more {part : LS} {x : Rx} {l : List Rx} (h : gd (prodS part (gd (litR true x))) ≠ []) : partsR (curS part) (x :: l) = partsR (curS (gd (prodS part (gd (litR true x))))) l := by
  cases hx : litR true x with
  | none => rw [hx] at h; exact absurd (prodS_nil' part) h
  | some y =>
    rw [hx] at h
    have hp : part ≠ [] := fun e => h (by rw [e]; rfl)
    rw [curS_ne hp, curS_ne h]
    change gd (prodS part y) ≠ [] at h
    cases hq : prodS part y with
    | none => rw [hq] at h; exact absurd rfl h
    | some q => rw [parts_more hx hq]; show _ = partsR (some (gd (prodS part y))) l; rw [hq]; rfl
theorem parts_step_cut {part : LS} {x : Rx} {l : List Rx} (h0 : gd (litR true x) ≠ []) (h : gd (prodS part (gd (litR true x))) = []) : partsR (curS part) (x :: l) = flushS (curS part) ++ partsR (curS (gd (litR true x))) l := by
  cases hx : litR true x with
  | none => rw [hx] at h0; exact absurd rfl h0
  | some y =>
    rw [hx] at h h0
    change gd (prodS part y) = [] at h
    change y ≠ [] at h0
    rw [show gd (some y) = y from rfl, curS_ne h0]
    by_cases hp : part = []
    · subst hp
      rw [curS_nil, parts_new hx]
      rfl
    · rw [curS_ne hp]
      cases hq : prodS part y with
      | none => rw [parts_cut hx hq]; rfl
      | some q =>
        rw [hq] at h
        exact absurd h (prod_ne hp h0 hq)
theorem flush_len (c : Option LS) : (flushS c).length ≤ 1 := by cases c <;> simp [flushS]
end Go.Proofs.YtlnbjdlooghpeaaGreatDoor
namespace Go.Proofs.YtlnbjdlooghpeaaGreatDoor
mutual
def keyN : Nd → List UInt8
  | .mk k g l => UInt8.ofNat k.toNat :: UInt8.ofNat (g.toNat / 65536) :: UInt8.ofNat (g.toNat / 256) :: UInt8.ofNat g.toNat :: (keyNL l ++ [0])
def keyNL : List Nd → List UInt8
  | [] => []
  | x :: l => keyN x ++ keyNL l
end
theorem keyN_mk (k g : Int) (l : List Nd) : keyN (.mk k g l) = UInt8.ofNat k.toNat :: UInt8.ofNat (g.toNat / 65536) :: UInt8.ofNat (g.toNat / 256) :: UInt8.ofNat g.toNat :: (keyNL l ++ [0]) := by rw [keyN]
theorem keyNL_cons (x : Nd) (l : List Nd) : keyNL (x :: l) = keyN x ++ keyNL l := by rw [keyNL]
theorem keyNL_app (l m : List Nd) : keyNL (l ++ m) = keyNL l ++ keyNL m := by
  induction l with
  | nil => simp [keyNL]
  | cons x l ih => rw [List.cons_append, keyNL_cons, keyNL_cons, ih, List.append_assoc]
theorem keyNL_len {l : List Nd} (h : ∀ x ∈ l, (keyN x).length ≤ 5 * sizeN x) : (keyNL l).length ≤ 5 * sizeNL l := by
  induction l with
  | nil => simp [keyNL]
  | cons x l ih =>
    rw [keyNL_cons, sizeNL_cons, List.length_append]
    have h1 := h x (by simp)
    have h2 := ih fun y hy => h y (by simp [hy])
    omega
theorem keyN_len (n : Nd) : (keyN n).length ≤ 5 * sizeN n := by
  induction n using Nd.ind with
  | h k g l ih =>
    rw [keyN_mk, sizeN_mk]
    have := keyNL_len ih
    simp
    omega
theorem u8_inj {a b : Nat} (h : UInt8.ofNat a = UInt8.ofNat b) : a % 256 = b % 256 := by
  have := congrArg UInt8.toNat h
  simpa using this
theorem wf_range {n : Nd} (h : WfN n) : 1 ≤ n.kind ∧ n.kind ≤ 5 ∧ 0 ≤ n.gram ∧ n.gram < 16777216 := by
  cases h with
  | gram g a b => exact ⟨by simp [Nd.kind], by simp [Nd.kind], a, b⟩
  | all => exact ⟨by decide, by decide, by decide, by decide⟩
  | none => exact ⟨by decide, by decide, by decide, by decide⟩
  | op k l hk _ => exact ⟨by simp only [Nd.kind]; omega, by simp only [Nd.kind]; omega, by simp [Nd.gram], by simp [Nd.gram]⟩
theorem wf_subs {n : Nd} (h : WfN n) : ∀ x ∈ n.subs, WfN x := by
  cases h with
  | gram g a b => intro x hx; cases hx
  | all => intro x hx; cases hx
  | none => intro x hx; cases hx
  | op k l _ hl => exact hl
theorem keyL_inj : ∀ (l m : List Nd) (s t : List UInt8), (∀ x ∈ l, WfN x) → (∀ x ∈ m, WfN x) → (∀ x ∈ l, ∀ b, WfN b → ∀ s t, keyN x ++ s = keyN b ++ t → x = b ∧ s = t) → keyNL l ++ 0 :: s = keyNL m ++ 0 :: t → l = m ∧ s = t
  | [], [], s, t, _, _, _, h => by simp [keyNL] at h; exact ⟨rfl, h⟩
  | [], y :: m, s, t, _, hm, _, h => by
    obtain ⟨k, g, ys⟩ := y
    have := wf_range (hm (.mk k g ys) (by simp))
    simp only [Nd.kind] at this
    rw [keyNL, keyNL_cons, keyN_mk] at h
    simp only [List.nil_append, List.cons_append, List.cons.injEq] at h
    have := u8_inj (show UInt8.ofNat 0 = UInt8.ofNat k.toNat from h.1)
    omega
  | x :: l, [], s, t, hl, _, _, h => by
    obtain ⟨k, g, ys⟩ := x
    have := wf_range (hl (.mk k g ys) (by simp))
    simp only [Nd.kind] at this
    rw [keyNL_cons, keyN_mk, keyNL] at h
    simp only [List.nil_append, List.cons_append, List.cons.injEq] at h
    have := u8_inj (show UInt8.ofNat k.toNat = UInt8.ofNat 0 from h.1)
    omega
  | x :: l, y :: m, s, t, hl, hm, ih, h => by
    rw [keyNL_cons, keyNL_cons, List.append_assoc, List.append_assoc] at h
    obtain ⟨rfl, h2⟩ := ih x (by simp) y (hm y (by simp)) _ _ h
    obtain ⟨rfl, h3⟩ := keyL_inj l m s t (fun z hz => hl z (by simp [hz])) (fun z hz => hm z (by simp [hz])) (fun z hz => ih z (by simp [hz])) h2
    exact ⟨rfl, h3⟩
theorem key_inj' (a : Nd) : WfN a → ∀ b, WfN b → ∀ s t, keyN a ++ s = keyN b ++ t → a = b ∧ s = t := by
  induction a using Nd.ind with
  | h k g l ih =>
    intro ha b hb s t h
    obtain ⟨k', g', l'⟩ := b
    have h1 := wf_range ha
    have h2 := wf_range hb
    have hl := wf_subs ha
    have hl' := wf_subs hb
    simp only [Nd.kind, Nd.gram, Nd.subs] at h1 h2 hl hl'
    rw [keyN_mk, keyN_mk] at h
    simp only [List.cons_append, List.cons.injEq, List.append_assoc, List.nil_append] at h
    obtain ⟨e1, e2, e3, e4, e5⟩ := h
    have e1 := u8_inj e1
    have e2 := u8_inj e2
    have e3 := u8_inj e3
    have e4 := u8_inj e4
    obtain ⟨rfl, hst⟩ := keyL_inj l l' s t hl hl' (fun x hx => ih x hx (hl x hx)) e5
    have hk : k = k' := by omega
    have hg : g = g' := by omega
    subst hk hg
    exact ⟨rfl, hst⟩
theorem key_inj {a b : Nd} (ha : WfN a) (hb : WfN b) (h : keyN a = keyN b) : a = b :=
  (key_inj' a ha b hb [] [] (by rw [h])).1
def takeP (k : Int) (p : Bool × List Nd) (x : Nd) : Bool × List Nd := if x.kind = endK k then (true, p.2) else if x.kind ≠ skipK k ∧ x ∉ p.2 then (p.1, p.2 ++ [x]) else p
def addP (k : Int) (p : Bool × List Nd) (x : Nd) : Bool × List Nd := if x.kind = k then x.subs.foldl (takeP k) p else takeP k p x
def closeP (k : Int) (p : Bool × List Nd) : Nd := if p.1 = true then .mk (endK k) 0 [] else if p.2.length = 0 then .mk (skipK k) 0 [] else if p.2.length = 1 then p.2.headD (.mk 1 0 []) else .mk k 0 p.2
def twoP (k : Int) (acc : List Nd) : Bool × List Nd := (acc.any fun x => decide (x.kind = endK k), acc.filter fun x => !decide (x.kind = endK k))
theorem skip_end (k : Int) : skipK k ≠ endK k := by unfold skipK endK; split <;> decide
theorem take_skip {k : Int} {p : Bool × List Nd} {x : Nd} (h : x.kind = skipK k) : takeP k p x = p := by
  unfold takeP
  rw [if_neg (by rw [h]; exact skip_end k), if_neg (fun h' => h'.1 h)]
theorem take_once {k : Int} {acc : List Nd} {x : Nd} (h : x.kind ≠ skipK k) : takeP k (twoP k acc) x = twoP k (onceN acc x) := by
  unfold takeP
  by_cases he : x.kind = endK k
  · rw [if_pos he]
    unfold onceN twoP
    split
    · rename_i hx
      have : (acc.any fun x => decide (x.kind = endK k)) = true := List.any_eq_true.2 ⟨x, hx, by simp [he]⟩
      rw [this]
    · simp [he]
  · rw [if_neg he]
    have hm : x ∈ (twoP k acc).2 ↔ x ∈ acc := by unfold twoP; simp [he]
    unfold onceN
    by_cases hx : x ∈ acc
    · rw [if_pos hx, if_neg (fun h' => h'.2 (hm.2 hx))]
    · rw [if_neg hx, if_pos ⟨h, fun h' => hx (hm.1 h')⟩]
      unfold twoP
      simp [he]
theorem takes_once {k : Int} : ∀ (xs acc : List Nd), (∀ x ∈ xs, x.kind ≠ skipK k) → xs.foldl (takeP k) (twoP k acc) = twoP k (xs.foldl onceN acc)
  | [], _, _ => rfl
  | x :: xs, acc, h => by
    rw [List.foldl_cons, List.foldl_cons, take_once (h x (by simp)), takes_once xs _ fun y hy => h y (by simp [hy])]
theorem addP_is {k : Int} (hk : k = 4 ∨ k = 5) (acc : List Nd) {x : Nd} (hx : NmN x) : addP k (twoP k acc) x = twoP k (addN k acc x) := by
  unfold addP addN
  split
  · rename_i he
    obtain ⟨-, h2⟩ := nm_subs hx (by omega)
    refine takes_once _ _ fun y hy => ?_
    obtain ⟨-, -, h5, h6⟩ := h2 y hy
    unfold skipK
    split <;> assumption
  · split
    · rename_i hs
      exact take_skip hs
    · rename_i hs
      exact take_once hs
theorem closeP_is (k : Int) (acc : List Nd) : closeP k (twoP k acc) = closeN k acc := by
  unfold closeP closeN
  show (if (acc.any fun x => decide (x.kind = endK k)) = true then _ else _) = _
  split
  · rfl
  · rename_i h
    have e : (twoP k acc).2 = acc := by
      unfold twoP
      refine List.filter_eq_self.2 fun x hx => ?_
      have := List.any_eq_false.1 (Bool.eq_false_iff.2 h) x hx
      simpa using this
    rw [e]
def gatP (k : Int) (l : List Nd) : Bool × List Nd := l.foldl (fun p n => addP k p (simpN n)) (false, [])
theorem gat_is {k : Int} (hk : k = 4 ∨ k = 5) : ∀ (l acc : List Nd), (∀ n ∈ l, WfN n) → l.foldl (fun p n => addP k p (simpN n)) (twoP k acc) = twoP k (simpL k acc l)
  | [], acc, _ => by rw [simpL]; rfl
  | n :: l, acc, h => by
    rw [List.foldl_cons, addP_is hk acc (simp_nm (h n (by simp))), simpL, gat_is hk l _ fun m hm => h m (by simp [hm])]
theorem simp_is {k g : Int} {l : List Nd} (hk : k = 4 ∨ k = 5) (hl : ∀ n ∈ l, WfN n) : simpN (.mk k g l) = closeP k (gatP k l) := by
  rw [simp_op hk, ← closeP_is]
  unfold gatP
  rw [← gat_is hk l [] hl]
  rfl
def gatAt (k : Int) (l : List Nd) (i : Nat) : Bool × List Nd := gatP k (l.take i)
theorem gatAt_zero (k : Int) (l : List Nd) : gatAt k l 0 = (false, []) := by unfold gatAt gatP; simp
theorem gatAt_next {k : Int} {l : List Nd} {i : Nat} {x : Nd} (h : l[i]? = some x) : gatAt k l (i + 1) = addP k (gatAt k l i) (simpN x) := by
  unfold gatAt gatP
  have hi := (List.getElem?_eq_some_iff.1 h).1
  rw [List.take_succ_eq_append_getElem hi, (List.getElem?_eq_some_iff.1 h).2, List.foldl_append]
  rfl
theorem gatAt_all (k : Int) (l : List Nd) : gatAt k l l.length = gatP k l := by unfold gatAt; rw [List.take_length]
def takesAt (k : Int) (p : Bool × List Nd) (xs : List Nd) (j : Nat) : Bool × List Nd := (xs.take j).foldl (takeP k) p
theorem takesAt_zero (k : Int) (p : Bool × List Nd) (xs : List Nd) : takesAt k p xs 0 = p := by unfold takesAt; simp
theorem takesAt_next {k : Int} {p : Bool × List Nd} {xs : List Nd} {j : Nat} {x : Nd} (h : xs[j]? = some x) : takesAt k p xs (j + 1) = takeP k (takesAt k p xs j) x := by
  unfold takesAt
  have hi := (List.getElem?_eq_some_iff.1 h).1
  rw [List.take_succ_eq_append_getElem hi, (List.getElem?_eq_some_iff.1 h).2, List.foldl_append]
  rfl
theorem takesAt_all (k : Int) (p : Bool × List Nd) (xs : List Nd) : takesAt k p xs xs.length = xs.foldl (takeP k) p := by unfold takesAt; rw [List.take_length]
theorem take_size (k : Int) (p : Bool × List Nd) (x : Nd) : sizeNL (takeP k p x).2 ≤ sizeNL p.2 + sizeN x := by
  unfold takeP
  split
  · simp
  · split
    · simp only; rw [sizeNL_app]; simp [sizeNL]
    · omega
theorem takes_size (k : Int) : ∀ (xs : List Nd) (p : Bool × List Nd), sizeNL (xs.foldl (takeP k) p).2 ≤ sizeNL p.2 + sizeNL xs
  | [], p => by simp [sizeNL]
  | x :: xs, p => by
    rw [List.foldl_cons, sizeNL_cons]
    have h1 := takes_size k xs (takeP k p x)
    have h2 := take_size k p x
    omega
theorem addP_size (k : Int) (p : Bool × List Nd) (x : Nd) : sizeNL (addP k p x).2 ≤ sizeNL p.2 + sizeN x := by
  unfold addP
  split
  · have h1 := takes_size k x.subs p
    have h2 := subs_size x
    omega
  · exact take_size k p x
theorem gatP_size (k : Int) : ∀ (l : List Nd) (p : Bool × List Nd), sizeNL (l.foldl (fun p n => addP k p (simpN n)) p).2 ≤ sizeNL p.2 + sizeNL l
  | [], p => by simp [sizeNL]
  | n :: l, p => by
    rw [List.foldl_cons, sizeNL_cons]
    have h1 := gatP_size k l (addP k p (simpN n))
    have h2 := addP_size k p (simpN n)
    have h3 := simp_size n
    omega
theorem gatAt_size (k : Int) (l : List Nd) (i : Nat) : sizeNL (gatAt k l i).2 ≤ sizeNL l := by
  have h1 := gatP_size k (l.take i) (false, [])
  have h2 := sizeNL_take l i
  unfold gatAt gatP
  simp only [sizeNL, Nat.zero_add] at h1
  omega
theorem takesAt_size (k : Int) (p : Bool × List Nd) (xs : List Nd) (j : Nat) : sizeNL (takesAt k p xs j).2 ≤ sizeNL p.2 + sizeNL xs := by
  have h1 := takes_size k (xs.take j) p
  have h2 := sizeNL_take xs j
  unfold takesAt
  omega
def AllNm (p : Bool × List Nd) : Prop := ∀ x ∈ p.2, NmN x
theorem take_nm {k : Int} {p : Bool × List Nd} {x : Nd} (h : AllNm p) (hx : NmN x) : AllNm (takeP k p x) := by
  unfold takeP
  split
  · exact h
  · split
    · intro y hy
      rcases List.mem_append.1 hy with hy | hy
      · exact h y hy
      · rw [List.mem_singleton.1 hy]; exact hx
    · exact h
theorem takes_nm {k : Int} : ∀ (xs : List Nd) {p : Bool × List Nd}, AllNm p → (∀ x ∈ xs, NmN x) → AllNm (xs.foldl (takeP k) p)
  | [], _, h, _ => h
  | x :: xs, _, h, hx => takes_nm xs (take_nm h (hx x (by simp))) fun y hy => hx y (by simp [hy])
theorem nm_all_subs {n : Nd} (h : NmN n) : ∀ x ∈ n.subs, NmN x := by
  cases h with
  | gram g a b => intro x hx; cases hx
  | all => intro x hx; cases hx
  | none => intro x hx; cases hx
  | op k l _ _ _ h4 _ => exact h4
theorem addP_nm {k : Int} {p : Bool × List Nd} {x : Nd} (h : AllNm p) (hx : NmN x) : AllNm (addP k p x) := by
  unfold addP
  split
  · exact takes_nm _ h (nm_all_subs hx)
  · exact take_nm h hx
theorem gat_nm {k : Int} : ∀ (l : List Nd) {p : Bool × List Nd}, AllNm p → (∀ n ∈ l, WfN n) → AllNm (l.foldl (fun p n => addP k p (simpN n)) p)
  | [], _, h, _ => h
  | n :: l, _, h, hl => gat_nm l (addP_nm h (simp_nm (hl n (by simp)))) fun m hm => hl m (by simp [hm])
theorem gatAt_nm {k : Int} {l : List Nd} (hl : ∀ n ∈ l, WfN n) (i : Nat) : AllNm (gatAt k l i) :=
  gat_nm _ (fun x hx => by cases hx) fun n hn => hl n (List.mem_of_mem_take hn)
theorem takesAt_nm {k : Int} {p : Bool × List Nd} {xs : List Nd} (h : AllNm p) (hx : ∀ x ∈ xs, NmN x) (j : Nat) : AllNm (takesAt k p xs j) :=
  takes_nm _ h fun y hy => hx y (List.mem_of_mem_take hy)
end Go.Proofs.YtlnbjdlooghpeaaGreatDoor
