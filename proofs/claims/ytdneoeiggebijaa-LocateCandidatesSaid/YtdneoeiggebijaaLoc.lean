/- Substrings over plain lists of bytes, and their candidates by trigrams; no program. -/
import Derived.Test.YtdneoeiggebijaaTri
namespace Go.Proofs.Ytdneoeiggebijaa

/-- The byte at an index, folded if that is asked. -/
def fb (f : Bool) (d : List UInt8) (i : Nat) : Nat := if f then fat d i else (d.getD i 0).toNat
theorem fb_lt (f : Bool) (d : List UInt8) (i : Nat) : fb f d i < 256 := by
  unfold fb
  split
  · exact fat_lt d i
  · exact byte_lt _
/-- e occurs in d at k. -/
def Occ (f : Bool) (d e : List UInt8) (k : Nat) : Prop := k + e.length ≤ d.length ∧ ∀ i, i < e.length → fb f d (k + i) = fb f e i
def occB (f : Bool) (d e : List UInt8) (k : Nat) : Bool := decide (k + e.length ≤ d.length) && (List.range e.length).all fun i => decide (fb f d (k + i) = fb f e i)
theorem occ_iff (f : Bool) (d e : List UInt8) (k : Nat) : occB f d e k = true ↔ Occ f d e k := by
  unfold occB Occ
  simp [List.all_eq_true]
theorem occ_yes {f : Bool} {d e : List UInt8} {k : Nat} (h : k + e.length ≤ d.length) (h' : ∀ i, i < e.length → fb f d (k + i) = fb f e i) : occB f d e k = true := (occ_iff f d e k).2 ⟨h, h'⟩
theorem occ_far {f : Bool} {d e : List UInt8} {k : Nat} (h : d.length < k + e.length) : occB f d e k = false := by
  cases hb : occB f d e k with
  | false => rfl
  | true => have := ((occ_iff f d e k).1 hb).1; omega
theorem occ_diff {f : Bool} {d e : List UInt8} {k : Nat} (i : Nat) (hi : i < e.length) (h : fb f d (k + i) ≠ fb f e i) : occB f d e k = false := by
  cases hb : occB f d e k with
  | false => rfl
  | true => exact absurd (((occ_iff f d e k).1 hb).2 i hi) h

/-- The offsets below n at which e occurs. -/
def findN (f : Bool) (d e : List UInt8) (n : Nat) : List Int := ((List.range n).filter fun k => occB f d e k).map fun (k : Nat) => (k : Int)
def findS (f : Bool) (d e : List UInt8) : List Int := findN f d e (d.length + 1)
theorem findN_zero (f : Bool) (d e : List UInt8) : findN f d e 0 = [] := rfl
theorem findN_succ (f : Bool) (d e : List UInt8) (n : Nat) : findN f d e (n + 1) = findN f d e n ++ (if occB f d e n = true then [(n : Int)] else []) := by
  unfold findN
  rw [List.range_succ, List.filter_append, List.map_append]
  cases h : occB f d e n <;> simp [h]
theorem findN_yes (f : Bool) (d e : List UInt8) (n : Nat) (h : occB f d e n = true) : findN f d e (n + 1) = findN f d e n ++ [(n : Int)] := by rw [findN_succ, if_pos h]
theorem findN_no (f : Bool) (d e : List UInt8) (n : Nat) (h : occB f d e n = false) : findN f d e (n + 1) = findN f d e n := by rw [findN_succ, if_neg (by rw [h]; simp), List.append_nil]
theorem mem_findN (f : Bool) (d e : List UInt8) (n : Nat) (x : Int) : x ∈ findN f d e n ↔ ∃ k : Nat, k < n ∧ Occ f d e k ∧ x = (k : Int) := by
  unfold findN
  simp only [List.mem_map, List.mem_filter, List.mem_range]
  constructor
  · rintro ⟨k, ⟨h1, h2⟩, rfl⟩; exact ⟨k, h1, (occ_iff f d e k).1 h2, rfl⟩
  · rintro ⟨k, h1, h2, rfl⟩; exact ⟨k, ⟨h1, (occ_iff f d e k).2 h2⟩, rfl⟩
theorem mem_find (f : Bool) (d e : List UInt8) (x : Int) : x ∈ findS f d e ↔ ∃ k : Nat, Occ f d e k ∧ x = (k : Int) := by
  unfold findS
  rw [mem_findN]
  constructor
  · rintro ⟨k, _, h⟩; exact ⟨k, h⟩
  · rintro ⟨k, h, e'⟩; exact ⟨k, by have := h.1; omega, h, e'⟩
theorem up_findN (f : Bool) (d e : List UInt8) : ∀ n, Up (findN f d e n)
  | 0 => up_nil
  | n + 1 => by
    rw [findN_succ]
    unfold Up
    rw [List.pairwise_append]
    refine ⟨up_findN f d e n, ?_, fun a ha b hb => ?_⟩
    · split <;> simp
    · obtain ⟨k, hk, _, rfl⟩ := (mem_findN f d e n a).1 ha
      split at hb
      · simp at hb; omega
      · simp at hb
theorem findN_len (f : Bool) (d e : List UInt8) (n : Nat) : (findN f d e n).length ≤ n := by
  unfold findN
  rw [List.length_map]
  exact Nat.le_trans (List.length_filter_le _ _) (by simp)
/-- Behind the last place nothing occurs. -/
theorem findN_more (f : Bool) (d e : List UInt8) : ∀ j n, d.length < n + e.length → findN f d e (n + j) = findN f d e n
  | 0, _, _ => rfl
  | j + 1, n, h => by
    rw [show n + (j + 1) = (n + j) + 1 by omega, findN_no f d e (n + j) (occ_far (by omega)), findN_more f d e j n h]
theorem find_short (f : Bool) (d e : List UInt8) (h : d.length < e.length) : findS f d e = [] := by
  have := findN_more f d e (d.length + 1) 0 (by omega)
  rw [Nat.zero_add] at this
  exact this
theorem find_upto (f : Bool) (d e : List UInt8) (n : Nat) (h : n + e.length = d.length + 1) : findN f d e n = findS f d e := by
  by_cases he : e.length = 0
  · unfold findS
    rw [show n = d.length + 1 by omega]
  · have := findN_more f d e (d.length + 1 - n) n (by omega)
    rw [show n + (d.length + 1 - n) = d.length + 1 by omega] at this
    exact this.symm

/-! ### Count -/
/-- How far one goes on behind an occurrence. -/
def stp (e : List UInt8) : Nat := max 1 e.length
def cntF (f : Bool) (d e : List UInt8) : Nat → Nat → Nat
  | 0, _ => 0
  | n + 1, k => if k ≤ d.length then (if occB f d e k = true then 1 + cntF f d e n (k + stp e) else cntF f d e n (k + 1)) else 0
theorem stp_pos (e : List UInt8) : 1 ≤ stp e := by unfold stp; omega
theorem cntF_stable (f : Bool) (d e : List UInt8) : ∀ n m k, d.length + 1 - k ≤ n → d.length + 1 - k ≤ m → cntF f d e n k = cntF f d e m k
  | 0, 0, _, _, _ => rfl
  | 0, m + 1, k, h, _ => by
    unfold cntF
    rw [if_neg (by omega)]
  | n + 1, 0, k, _, h => by
    unfold cntF
    rw [if_neg (by omega)]
  | n + 1, m + 1, k, h, h' => by
    have hs := stp_pos e
    unfold cntF
    rw [cntF_stable f d e n m (k + stp e) (by omega) (by omega), cntF_stable f d e n m (k + 1) (by omega) (by omega)]
/-- How many occurrences from k on, from the left, each behind the one before. -/
def cntK (f : Bool) (d e : List UInt8) (k : Nat) : Nat := cntF f d e (d.length + 1 - k) k
def countS (f : Bool) (d e : List UInt8) : Nat := cntK f d e 0
theorem cntK_end (f : Bool) (d e : List UInt8) (k : Nat) (h : d.length < k) : cntK f d e k = 0 := by
  unfold cntK
  rw [show d.length + 1 - k = 0 by omega]
  rfl
theorem cntK_yes (f : Bool) (d e : List UInt8) (k : Nat) (h : occB f d e k = true) : cntK f d e k = 1 + cntK f d e (k + stp e) := by
  have hk := ((occ_iff f d e k).1 h).1
  have hs := stp_pos e
  unfold cntK
  rw [show d.length + 1 - k = (d.length - k) + 1 by omega]
  show (if k ≤ d.length then _ else 0) = _
  rw [if_pos (by omega), if_pos h, cntF_stable f d e (d.length - k) (d.length + 1 - (k + stp e)) (k + stp e) (by omega) (by omega)]
theorem cntK_no (f : Bool) (d e : List UInt8) (k : Nat) (h : occB f d e k = false) : cntK f d e k = cntK f d e (k + 1) := by
  by_cases hk : k ≤ d.length
  · unfold cntK
    rw [show d.length + 1 - k = (d.length - k) + 1 by omega]
    show (if k ≤ d.length then _ else 0) = _
    rw [if_pos hk, if_neg (by rw [h]; simp), cntF_stable f d e (d.length - k) (d.length + 1 - (k + 1)) (k + 1) (by omega) (by omega)]
  · rw [cntK_end f d e k (by omega), cntK_end f d e (k + 1) (by omega)]
theorem cntK_le (f : Bool) (d e : List UInt8) : ∀ n k, d.length + 1 - k = n → cntK f d e k ≤ n
  | 0, k, h => by rw [cntK_end f d e k (by omega)]; omega
  | n + 1, k, h => by
    have hs := stp_pos e
    cases hb : occB f d e k with
    | true =>
      rw [cntK_yes f d e k hb]
      have := cntK_le f d e (d.length + 1 - (k + stp e)) (k + stp e) rfl
      omega
    | false =>
      rw [cntK_no f d e k hb]
      have := cntK_le f d e n (k + 1) (by omega)
      omega
termination_by n => n
decreasing_by all_goals omega
theorem count_le (f : Bool) (d e : List UInt8) : countS f d e ≤ d.length + 1 := cntK_le f d e _ 0 rfl
theorem cnt_empty (f : Bool) (d e : List UInt8) (h : e.length = 0) : ∀ n k, d.length + 1 - k = n → cntK f d e k = n
  | 0, k, hn => cntK_end f d e k (by omega)
  | n + 1, k, hn => by
    rw [cntK_yes f d e k (occ_yes (by omega) fun i hi => by omega), show stp e = 1 by unfold stp; omega, cnt_empty f d e h n (k + 1) (by omega)]
    omega
theorem count_empty (f : Bool) (d e : List UInt8) (h : e.length = 0) : countS f d e = d.length + 1 := cnt_empty f d e h _ 0 rfl

/-! ### P7.8: from the left -/
/-- One offset more: how many so far, and the end of the last one. -/
def gr (m : Nat) (p : Nat × Int) (q : Int) : Nat × Int := if p.2 ≤ q then (p.1 + 1, q + (m : Int)) else p
def grS (m : Nat) (l : List Int) : Nat × Int := l.foldl (gr m) (0, 0)
theorem grS_snoc (m : Nat) (l : List Int) (q : Int) : grS m (l ++ [q]) = gr m (grS m l) q := by unfold grS; rw [List.foldl_append]; rfl
theorem grS_le (m : Nat) (l : List Int) : (grS m l).1 ≤ l.length := by
  have key : ∀ (l : List Int) (p : Nat × Int), (l.foldl (gr m) p).1 ≤ p.1 + l.length := by
    intro l
    induction l with
    | nil => intro p; simp
    | cons q l ih =>
      intro p
      have := ih (gr m p q)
      have h1 : (gr m p q).1 ≤ p.1 + 1 := by unfold gr; split <;> simp
      rw [List.foldl_cons, List.length_cons]
      omega
  have := key l (0, 0)
  unfold grS
  simp at this ⊢
  omega
theorem grS_nat (m : Nat) (f : Bool) (d e : List UInt8) : ∀ n, ∃ x : Nat, (grS m (findN f d e n)).2 = (x : Int) ∧ x ≤ n + m
  | 0 => ⟨0, rfl, by omega⟩
  | n + 1 => by
    obtain ⟨x, hx, hle⟩ := grS_nat m f d e n
    cases hb : occB f d e n with
    | false => rw [findN_no f d e n hb]; exact ⟨x, hx, by omega⟩
    | true =>
      rw [findN_yes f d e n hb, grS_snoc]
      unfold gr
      by_cases h : (grS m (findN f d e n)).2 ≤ (n : Int)
      · rw [if_pos h]; exact ⟨n + m, by simp, by omega⟩
      · rw [if_neg h]; exact ⟨x, hx, by omega⟩
theorem gr_inv (f : Bool) (d e : List UInt8) : ∀ n, ∃ x : Nat, (grS e.length (findN f d e n)).2 = (x : Int) ∧ (grS e.length (findN f d e n)).1 + cntK f d e (max x n) = countS f d e
  | 0 => ⟨0, rfl, by show 0 + cntK f d e (max 0 0) = _; simp [countS]⟩
  | n + 1 => by
    obtain ⟨x, hx, hc⟩ := gr_inv f d e n
    cases hb : occB f d e n with
    | false =>
      rw [findN_no f d e n hb]
      refine ⟨x, hx, ?_⟩
      by_cases h : x ≤ n
      · rw [show max x n = n by omega, cntK_no f d e n hb] at hc
        rw [show max x (n + 1) = n + 1 by omega]
        exact hc
      · rw [show max x (n + 1) = max x n by omega]
        exact hc
    | true =>
      rw [findN_yes f d e n hb, grS_snoc]
      unfold gr
      by_cases h : x ≤ n
      · rw [if_pos (by rw [hx]; omega)]
        refine ⟨n + e.length, by simp, ?_⟩
        rw [show max x n = n by omega, cntK_yes f d e n hb] at hc
        rw [show max (n + e.length) (n + 1) = n + stp e by unfold stp; omega]
        show (grS e.length (findN f d e n)).1 + 1 + _ = _
        omega
      · rw [if_neg (by rw [hx]; omega)]
        refine ⟨x, hx, ?_⟩
        rw [show max x (n + 1) = max x n by omega]
        exact hc
theorem apart (f : Bool) (d e : List UInt8) : (grS e.length (findS f d e)).1 = countS f d e := by
  obtain ⟨x, _, hc⟩ := gr_inv f d e (d.length + 1)
  rw [cntK_end f d e _ (by omega)] at hc
  exact hc

/-! ### P7.8: folding first -/
theorem fb_fold (d : List UInt8) (i : Nat) : fb true d i = fb false (d.map fld) i := by
  unfold fb fat
  rw [if_pos rfl, if_neg (by simp), List.getD_eq_getElem?_getD, List.getD_eq_getElem?_getD, List.getElem?_map]
  cases d[i]? with
  | none => rfl
  | some c => rfl
theorem occ_fold (d e : List UInt8) : occB true d e = occB false (d.map fld) (e.map fld) := by
  funext k
  unfold occB
  rw [List.length_map, List.length_map]
  congr 1
  congr 1
  funext i
  rw [fb_fold, fb_fold]
theorem find_fold (d e : List UInt8) : findS true d e = findS false (d.map fld) (e.map fld) := by
  unfold findS findN
  rw [occ_fold, List.length_map]
theorem cntF_fold (d e : List UInt8) : ∀ n k, cntF true d e n k = cntF false (d.map fld) (e.map fld) n k
  | 0, _ => rfl
  | n + 1, k => by
    unfold cntF
    rw [cntF_fold d e n, cntF_fold d e n, occ_fold, List.length_map, show stp (e.map fld) = stp e by unfold stp; rw [List.length_map]]
theorem count_fold (d e : List UInt8) : countS true d e = countS false (d.map fld) (e.map fld) := by
  unfold countS cntK
  rw [cntF_fold, List.length_map]

/-! ### Codes, Possible, Candidates -/
def possS (cs : List Int) (e : List UInt8) : Bool := (ofS e).all fun c => decide (c ∈ cs)
/-- All trigrams of e below the n-th occur so that e is at z. -/
def goodN (gs : List (Int × List Int)) (e : List UInt8) (z : Int) (n : Nat) : Bool := decide (0 ≤ z) && (List.range n).all fun i => decide (z + (i : Int) ∈ atS gs (tri e i))
theorem goodN_zero (gs : List (Int × List Int)) (e : List UInt8) (z : Int) : goodN gs e z 0 = decide (0 ≤ z) := by simp [goodN]
theorem goodN_succ (gs : List (Int × List Int)) (e : List UInt8) (z : Int) (n : Nat) : goodN gs e z (n + 1) = (goodN gs e z n && decide (z + (n : Int) ∈ atS gs (tri e n))) := by
  unfold goodN
  rw [List.range_succ, List.all_append]
  simp [Bool.and_assoc]
def goodS (gs : List (Int × List Int)) (e : List UInt8) (z : Int) : Bool := goodN gs e z (e.length - 2)
def candS (gs : List (Int × List Int)) (e : List UInt8) : List Int := if e.length < 3 then [] else ((atS gs (tri e 0)).filter (goodS gs e)).foldl putS []
def candN (gs : List (Int × List Int)) (e : List UInt8) (l : List Int) : List Int := (l.filter (goodS gs e)).foldl putS []
theorem candN_yes (gs : List (Int × List Int)) (e : List UInt8) (l : List Int) (z : Int) (h : goodS gs e z = true) : candN gs e (l ++ [z]) = putS (candN gs e l) z := by
  unfold candN
  rw [List.filter_append, List.foldl_append]
  simp [h]
theorem candN_no (gs : List (Int × List Int)) (e : List UInt8) (l : List Int) (z : Int) (h : goodS gs e z = false) : candN gs e (l ++ [z]) = candN gs e l := by
  unfold candN
  rw [List.filter_append, List.foldl_append]
  simp [h]
theorem candN_len (gs : List (Int × List Int)) (e : List UInt8) (l : List Int) : (candN gs e l).length ≤ l.length := by
  have h1 := foldp_len (l.filter (goodS gs e)) []
  have h2 := List.length_filter_le (goodS gs e) l
  unfold candN
  simp at h1 ⊢
  omega
theorem up_candN (gs : List (Int × List Int)) (e : List UInt8) (l : List Int) : Up (candN gs e l) := up_fold _ _ up_nil
theorem cand_is (gs : List (Int × List Int)) (e : List UInt8) (h : 3 ≤ e.length) : candS gs e = candN gs e (atS gs (tri e 0)) := by unfold candS candN; rw [if_neg (by omega)]
theorem up_cand (gs : List (Int × List Int)) (e : List UInt8) : Up (candS gs e) := by
  unfold candS
  split
  · exact up_nil
  · exact up_fold _ _ up_nil
theorem good_iff (gs : List (Int × List Int)) (e : List UInt8) (z : Int) : goodS gs e z = true ↔ 0 ≤ z ∧ ∀ i : Nat, i + 2 < e.length → z + (i : Int) ∈ atS gs (tri e i) := by
  unfold goodS goodN
  simp only [Bool.and_eq_true, decide_eq_true_eq, List.all_eq_true, List.mem_range]
  constructor
  · rintro ⟨h1, h2⟩; exact ⟨h1, fun i hi => h2 i (by omega)⟩
  · rintro ⟨h1, h2⟩; exact ⟨h1, fun i hi => h2 i (by omega)⟩
theorem mem_cand (gs : List (Int × List Int)) (e : List UInt8) (h : 3 ≤ e.length) (z : Int) : z ∈ candS gs e ↔ 0 ≤ z ∧ ∀ i : Nat, i + 2 < e.length → z + (i : Int) ∈ atS gs (tri e i) := by
  rw [cand_is gs e h]
  unfold candN
  rw [mem_fold]
  simp only [List.not_mem_nil, false_or, List.mem_filter, good_iff]
  constructor
  · rintro ⟨_, h2⟩; exact h2
  · intro h2
    refine ⟨?_, h2⟩
    have := h2.2 0 (by omega)
    simpa using this

/-! ### P7.6 -/
theorem at_map (F : Int → List Int) (c : Int) : ∀ L : List Int, atS (L.map fun x => (x, F x)) c = if c ∈ L then F c else []
  | [] => rfl
  | x :: L => by
    rw [List.map_cons]
    show (if x = c then F x else atS (L.map fun x => (x, F x)) c) = _
    by_cases h : x = c
    · subst h; simp
    · have h' : ¬ c = x := fun e => h e.symm
      rw [if_neg h, at_map F c L]
      simp [h']
theorem at_grams (d : List UInt8) (c : Int) : atS (gramsS d) c = offs d c := by
  unfold gramsS
  rw [at_map]
  split
  · rfl
  · rename_i h
    symm
    apply List.eq_nil_iff_forall_not_mem.2
    intro x hx
    obtain ⟨i, hi, e, _⟩ := (mem_offsN d c _ x).1 hx
    exact h ((mem_of d c).2 ⟨i, by omega, e⟩)
theorem tri_eq (d e : List UInt8) (i j : Nat) : tri d i = tri e j ↔ fat d i = fat e j ∧ fat d (i + 1) = fat e (j + 1) ∧ fat d (i + 2) = fat e (j + 2) := by
  have a0 := fat_lt d i
  have a1 := fat_lt d (i + 1)
  have a2 := fat_lt d (i + 2)
  have b0 := fat_lt e j
  have b1 := fat_lt e (j + 1)
  have b2 := fat_lt e (j + 2)
  unfold tri
  constructor
  · intro h; omega
  · rintro ⟨h0, h1, h2⟩; rw [h0, h1, h2]
theorem cand_grams (d e : List UInt8) (h : 3 ≤ e.length) : candS (gramsS d) e = findS true d e := by
  refine up_ext _ _ (up_cand _ _) (up_findN true d e _) fun z => ?_
  rw [mem_cand _ _ h, mem_find]
  constructor
  · rintro ⟨h0, h1⟩
    obtain ⟨k, rfl⟩ : ∃ k : Nat, z = (k : Int) := ⟨z.toNat, by omega⟩
    have at_ : ∀ i : Nat, i + 2 < e.length → k + i < d.length - 2 ∧ tri d (k + i) = tri e i := by
      intro i hi
      have := h1 i hi
      rw [at_grams] at this
      obtain ⟨j, hj, ht, e'⟩ := (mem_offsN d _ _ _).1 this
      obtain rfl : j = k + i := by omega
      exact ⟨hj, ht⟩
    refine ⟨k, ⟨?_, fun i hi => ?_⟩, rfl⟩
    · have := (at_ (e.length - 3) (by omega)).1
      omega
    · unfold fb
      rw [if_pos rfl, if_pos rfl]
      by_cases h3 : i + 2 < e.length
      · exact ((tri_eq d e (k + i) i).1 (at_ i h3).2).1
      · by_cases h2 : i + 1 < e.length
        · obtain ⟨j, rfl⟩ : ∃ j, i = j + 1 := ⟨i - 1, by omega⟩
          have := ((tri_eq d e (k + j) j).1 (at_ j (by omega)).2).2.1
          rw [show k + j + 1 = k + (j + 1) by omega] at this
          exact this
        · obtain ⟨j, rfl⟩ : ∃ j, i = j + 2 := ⟨i - 2, by omega⟩
          have := ((tri_eq d e (k + j) j).1 (at_ j (by omega)).2).2.2
          rw [show k + j + 2 = k + (j + 2) by omega] at this
          exact this
  · rintro ⟨k, ⟨h1, h2⟩, rfl⟩
    refine ⟨by omega, fun i hi => ?_⟩
    rw [at_grams]
    have at_ : ∀ j, j < e.length → fat d (k + j) = fat e j := fun j hj => by
      have := h2 j hj
      unfold fb at this
      rw [if_pos rfl, if_pos rfl] at this
      exact this
    refine (mem_offsN d _ _ _).2 ⟨k + i, by omega, (tri_eq d e (k + i) i).2 ⟨at_ i (by omega), ?_, ?_⟩, by omega⟩
    · rw [show k + i + 1 = k + (i + 1) by omega]; exact at_ (i + 1) (by omega)
    · rw [show k + i + 2 = k + (i + 2) by omega]; exact at_ (i + 2) (by omega)

/-! ### P7.7 -/
theorem occ_mid (a e b : List UInt8) : Occ true (a ++ e.map fld ++ b) e a.length := by
  refine ⟨by simp, fun i hi => ?_⟩
  unfold fb
  rw [if_pos rfl, if_pos rfl, fat_left _ _ _ (by simp; omega), fat_right, fat_map fld fld_fld]
theorem need (a e b : List UInt8) : possS (ofS (a ++ e.map fld ++ b)) e = true := by
  unfold possS
  rw [List.all_eq_true]
  intro c hc
  refine decide_eq_true (of_left _ _ _ (of_right _ _ _ ?_))
  rw [of_map fld fld_fld]
  exact hc

/-! ### Insert -/
theorem put_snoc (z n : Int) : ∀ a : List Int, (∃ y ∈ a, n ≤ y) → putS (a ++ [z]) n = putS a n ++ [z]
  | [], h => by obtain ⟨y, hy, _⟩ := h; simp at hy
  | x :: a, h => by
    rw [List.cons_append]
    unfold putS
    by_cases h1 : n < x
    · rw [if_pos h1, if_pos h1]; rfl
    · rw [if_neg h1, if_neg h1]
      by_cases h2 : n = x
      · rw [if_pos h2, if_pos h2]; rfl
      · rw [if_neg h2, if_neg h2, put_snoc z n a ?_]
        · rfl
        · obtain ⟨y, hy, hle⟩ := h
          rcases List.mem_cons.1 hy with rfl | hy
          · omega
          · exact ⟨y, hy, hle⟩
theorem put_last (z n : Int) (hz : n < z) : ∀ a : List Int, (∀ y ∈ a, y < n) → putS (a ++ [z]) n = a ++ [n] ++ [z]
  | [], _ => by simp [putS, hz]
  | x :: a, h => by
    have hx := h x (by simp)
    rw [List.cons_append]
    unfold putS
    rw [if_neg (by omega), if_neg (by omega), put_last z n hz a fun y hy => h y (by simp [hy])]
    rfl
theorem put_end (n : Int) : ∀ a : List Int, (∀ y ∈ a, y < n) → putS a n = a ++ [n]
  | [], _ => rfl
  | x :: a, h => by
    have hx := h x (by simp)
    unfold putS
    rw [if_neg (by omega), if_neg (by omega), put_end n a fun y hy => h y (by simp [hy])]
    rfl
theorem put_there (n : Int) : ∀ a : List Int, Up a → n ∈ a → putS a n = a
  | [], _, h => by simp at h
  | x :: a, hu, h => by
    have hu' := up_cons.1 hu
    unfold putS
    rcases List.mem_cons.1 h with rfl | h
    · rw [if_neg (by omega), if_pos rfl]
    · have := hu'.1 n h
      rw [if_neg (by omega), if_neg (by omega), put_there n a hu'.2 h]

end Go.Proofs.Ytdneoeiggebijaa
