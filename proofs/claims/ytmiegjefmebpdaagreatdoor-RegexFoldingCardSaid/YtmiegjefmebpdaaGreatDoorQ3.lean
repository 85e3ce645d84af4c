/- Layer 8, the program: N8, N9, NA, NB. -/
import Derived.Test.YtmiegjefmebpdaaGreatDoorQ1
import Derived.Test.YtmiegjefmebpdaaGreatDoorKE
import Derived.Test.YtmiegjefmebpdaaGreatDoorK7
import Derived.BigQuiet
import Derived.Deep.RegionHeld3
namespace Go.Proofs.YtmiegjefmebpdaaGreatDoor
open Go.RowKit

/-! ### N8 -/

def lo (x : Rx) : Int := (lenR x).1
def hi (x : Rx) : Int := (lenR x).2
def repd (q b : Int) : Int := if q = 0 then 0 else if b = -1 then -1 else b * q
def minL : List Int → Int
  | [] => 0
  | x :: l => l.foldl min x
def maxL : List Int → Int
  | [] => 0
  | x :: l => l.foldl max x
theorem cat_len (a b : Int) : ∀ (l : List Rx) (i : Nat) (p q : Int), (∀ x ∈ l, -1 ≤ hi x) → -1 ≤ q → lenL 2 a b i (p, q) l = (p + (l.map lo).sum, if q = -1 ∨ -1 ∈ l.map hi then -1 else q + (l.map hi).sum)
  | [], i, p, q, _, hq => by simp [lenL]; first | done | omega
  | x :: l, i, p, q, hx, hq => by
    have h1 := hx x (by simp)
    rw [lenL_step 2 a b i _ x l (by decide)]
    have hs : stepN 2 i (p, q) (lenR x) = (p + lo x, if q < 0 ∨ hi x < 0 then -1 else q + hi x) := rfl
    rw [hs, cat_len a b l (i + 1) _ _ (fun y hy => hx y (by simp [hy])) (by split <;> omega)]
    by_cases h0 : q = -1
    · first | (simp [h0]; done) | (simp [h0]; omega)
    · by_cases h2 : hi x = -1
      · first | (simp [h0, h2]; done) | (simp [h0, h2]; omega)
      · have h3 : ¬ (q < 0 ∨ hi x < 0) := by omega
        rw [if_neg h3]
        by_cases h4 : -1 ∈ l.map hi
        · have h5 : -1 ∈ (x :: l).map hi := by simp at h4 ⊢; exact Or.inr h4
          rw [if_pos (Or.inr h4), if_pos (Or.inr h5)]
          first | (simp; done) | (simp; omega)
        · have h5 : ¬ -1 ∈ (x :: l).map hi := by
            simp at h4 ⊢
            exact ⟨fun e => h2 e.symm, h4⟩
          rw [if_neg (by simp only [not_or]; exact ⟨by omega, h4⟩), if_neg (by simp only [not_or]; exact ⟨h0, h5⟩)]
          first | (simp; done) | (simp; omega)
theorem alt_len (a b : Int) : ∀ (l : List Rx) (i : Nat) (p q : Int), 0 < i → (∀ x ∈ l, -1 ≤ hi x) → -1 ≤ q → lenL 3 a b i (p, q) l = ((l.map lo).foldl min p, if q = -1 ∨ -1 ∈ l.map hi then -1 else (l.map hi).foldl max q)
  | [], i, p, q, _, _, hq => by simp [lenL]; first | done | omega
  | x :: l, i, p, q, hi0, hx, hq => by
    have h1 := hx x (by simp)
    rw [lenL_step 3 a b i _ x l (by decide)]
    have hs : stepN 3 i (p, q) (lenR x) = (min p (lo x), if q < 0 ∨ hi x < 0 then -1 else max q (hi x)) := by
      unfold stepN altStep
      rw [if_neg (by decide), if_neg (by omega)]
      refine Prod.ext ?_ ?_
      · show (if lo x < p then lo x else p) = _
        split <;> omega
      · show (if q < 0 ∨ hi x < 0 then -1 else if q < hi x then hi x else q) = _
        split
        · rfl
        · split <;> omega
    rw [hs, alt_len a b l (i + 1) _ _ (by omega) (fun y hy => hx y (by simp [hy])) (by split <;> omega)]
    by_cases h0 : q = -1
    · simp [h0]
    · by_cases h2 : hi x = -1
      · simp [h0, h2]
      · have h3 : ¬ (q < 0 ∨ hi x < 0) := by omega
        rw [if_neg h3]
        by_cases h4 : -1 ∈ l.map hi
        · have h5 : -1 ∈ (x :: l).map hi := by simp at h4 ⊢; exact Or.inr h4
          rw [if_pos (Or.inr h4), if_pos (Or.inr h5)]
          simp
        · have h5 : ¬ -1 ∈ (x :: l).map hi := by
            simp at h4 ⊢
            exact ⟨fun e => h2 e.symm, h4⟩
          rw [if_neg (by simp only [not_or]; exact ⟨by omega, h4⟩), if_neg (by simp only [not_or]; exact ⟨h0, h5⟩)]
          simp
theorem hi_ge {r : Rx} (h : nodeR r = 0) : -1 ≤ hi r := (len_in r h).2.2.1
theorem len_alt {k a b : Int} {s : List (UInt8 × UInt8)} {l : List Rx} (h : nodeR (.mk k s a b l) = 0) :
    lo (.mk k s a b l) = (if k = 1 then 1 else if k = 2 then (l.map lo).sum else if k = 3 then minL (l.map lo) else if k = 4 then a * (l.map lo).headD 0 else 0) ∧
    hi (.mk k s a b l) = (if -1 ∈ l.map hi then -1 else if k = 1 then 1 else if k = 2 then (l.map hi).sum else if k = 3 then maxL (l.map hi) else if k = 4 then repd ((l.map hi).headD 0) b else 0) := by
  obtain ⟨hf, hbd, hsub⟩ := node_ok h
  obtain ⟨hk7, hkset, hle, hab, h4, h3, hl0⟩ := fields_of hf
  have hx : ∀ x ∈ l, -1 ≤ hi x := fun x hx => hi_ge (hsub x hx)
  have hR : lenR (.mk k s a b l) = if k = 1 then (1, 1) else lenL k a b 0 (0, 0) l := by rw [lenR]
  show (lenR _).1 = _ ∧ (lenR _).2 = _
  rw [hR]
  by_cases h1 : k = 1
  · have : l = [] := hl0 (by omega) (by omega) (by omega)
    subst this h1
    simp
  · rw [if_neg h1, if_neg h1, if_neg h1]
    by_cases h2 : k = 2
    · subst h2
      rw [cat_len a b l 0 0 0 hx (by omega)]
      simp
    · rw [if_neg h2, if_neg h2]
      by_cases hk3 : k = 3
      · subst hk3
        rw [if_pos rfl, if_pos rfl]
        cases l with
        | nil => have := h3 rfl; simp at this
        | cons x l =>
          have h1x := hx x (by simp)
          rw [lenL_step 3 a b 0 _ x l (by decide)]
          have hs : stepN 3 0 (0, 0) (lenR x) = (lo x, hi x) := by
            unfold stepN
            rw [if_neg (by decide), if_pos rfl]
            refine Prod.ext rfl ?_
            show (if (0 : Int) < 0 ∨ hi x < 0 then -1 else if 0 < hi x then hi x else 0) = _
            split
            · omega
            · split <;> omega
          rw [hs, alt_len a b l 1 _ _ (by omega) (fun y hy => hx y (by simp [hy])) h1x]
          refine ⟨rfl, ?_⟩
          by_cases hm : hi x = -1 ∨ -1 ∈ l.map hi
          · rw [if_pos hm, if_pos]
            rcases hm with hm | hm
            · simp only [List.map_cons]; exact List.mem_cons.2 (Or.inl hm.symm)
            · simp only [List.map_cons]; exact List.mem_cons.2 (Or.inr hm)
          · rw [if_neg hm, if_neg]
            · rfl
            · intro e
              simp only [List.map_cons] at e
              rcases List.mem_cons.1 e with e | e
              · exact hm (Or.inl e.symm)
              · exact hm (Or.inr e)
      · rw [if_neg hk3, if_neg hk3]
        by_cases hk4 : k = 4
        · subst hk4
          rw [if_pos rfl, if_pos rfl]
          obtain ⟨x, rfl⟩ := List.length_eq_one_iff.1 (h4 rfl)
          have h1x := hx x (by simp)
          rw [lenL, if_pos rfl]
          have hb := hbd rfl
          unfold boundsR at hb
          rw [decide_eq_true_eq] at hb
          refine ⟨rfl, ?_⟩
          show (if hi x = 0 then 0 else if hi x < 0 ∨ b < 0 then -1 else b * hi x) = _
          unfold repd
          simp only [List.map_cons, List.map_nil, List.headD_cons, List.mem_singleton]
          by_cases e0 : hi x = 0
          · rw [if_pos e0, if_neg (fun e => by omega), if_pos e0]
          · rw [if_neg e0, if_neg e0]
            by_cases e1 : hi x = -1
            · rw [if_pos (by omega), if_pos e1.symm]
            · by_cases e2 : b = -1
              · rw [if_pos (by omega), if_neg (fun e => e1 e.symm), if_pos e2]
              · rw [if_neg (by omega), if_neg (fun e => e1 e.symm), if_neg e2]
        · have : l = [] := hl0 h2 hk3 hk4
          subst this
          rw [if_neg hk4]
          simp [lenL, hk4]

/-! ### N9 -/

theorem infoN : (Tryz.prog.info? 3).map (fun i => (i.zero, i.size, i.bytes)) = some (some (.int .i64 0), 1, 8) := by kernel_rfl
theorem sum_take {l : List Int} {k : Nat} {z : Int} (h : l[k]? = some z) : (l.take (k + 1)).sum = (l.take k).sum + z := by
  obtain ⟨h1, e⟩ := List.getElem?_eq_some_iff.1 h
  rw [List.take_succ_eq_append_getElem h1, e]
  simp
theorem sum_in {l : List Int} {U : Int} (h : ∀ z ∈ l, 0 ≤ z ∧ z ≤ U) : 0 ≤ l.sum ∧ l.sum ≤ l.length * U := by
  induction l with
  | nil => simp
  | cons x l ih =>
    have h1 := h x (by simp)
    have h2 := ih fun z hz => h z (by simp [hz])
    have h3 : (((x :: l).length : Nat) : Int) * U = (l.length : Int) * U + U := by simp [Int.add_mul]
    rw [h3]
    simp only [List.sum_cons]
    omega
theorem sum_in_take {l : List Int} (h : ∀ z ∈ l, 0 ≤ z ∧ z ≤ 68719476736000) (k : Nat) (hk : k ≤ 1000) : 0 ≤ (l.take k).sum ∧ (l.take k).sum ≤ 68719476736000000 := by
  obtain ⟨h1, h2⟩ := sum_in (U := 68719476736000) (l := l.take k) fun z hz => h z (List.mem_of_mem_take hz)
  have h3 : (l.take k).length ≤ 1000 := by rw [List.length_take]; omega
  omega
theorem min_take {l : List Int} {k : Nat} {z : Int} (h : l[k]? = some z) (hk : 0 < k) : minL (l.take (k + 1)) = min (minL (l.take k)) z := by
  obtain ⟨h1, e⟩ := List.getElem?_eq_some_iff.1 h
  rw [List.take_succ_eq_append_getElem h1, e]
  cases l with
  | nil => simp at h1
  | cons x l =>
    obtain ⟨j, rfl⟩ : ∃ j, k = j + 1 := ⟨k - 1, by omega⟩
    simp [minL]
theorem max_take {l : List Int} {k : Nat} {z : Int} (h : l[k]? = some z) (hk : 0 < k) : maxL (l.take (k + 1)) = max (maxL (l.take k)) z := by
  obtain ⟨h1, e⟩ := List.getElem?_eq_some_iff.1 h
  rw [List.take_succ_eq_append_getElem h1, e]
  cases l with
  | nil => simp at h1
  | cons x l =>
    obtain ⟨j, rfl⟩ : ∃ j, k = j + 1 := ⟨k - 1, by omega⟩
    simp [maxL]
theorem notin_take {l : List Int} {k : Nat} {z x : Int} (h : l[k]? = some z) (hm : ¬ x ∈ l.take k) (hz : x ≠ z) : ¬ x ∈ l.take (k + 1) := by
  obtain ⟨h1, e⟩ := List.getElem?_eq_some_iff.1 h
  rw [List.take_succ_eq_append_getElem h1, e]
  simp [hm, hz]

set_option maxRecDepth 20000 in
set_option maxHeartbeats 1600000 in
theorem sum65 {W : World} {A : Option Addr} {n c : Nat} {l : List Int} (h : Sl W A n c (numCells l)) (hn : n ≤ 1000) (hU : ∀ z ∈ l, 0 ≤ z ∧ z ≤ 68719476736000) :
    Calls Tryz.prog 65 #[.slice A n c] W fun e w' => e = .returned (.int .i64 l.sum) ∧ W = w' := by
  have hnc := h.1
  have hcc := h.2.1
  have hlen := h.nlen
  have H := hide h
  have Hlen := hide hlen
  have HU := hide hU
  clear h hlen hU
  go_enter Tryz.func65, Tryz.ntmps65
  go_wp2
  go_loop [3, 8] (fun y x => ∃ (k : Nat) (z : Int), k ≤ n ∧ x = .int .i64 (k : Int) ∧ y = .int .i64 z ∧ z = (l.take k).sum) (fun _ x => n - (intOf x).toNat)
  case atStart => exact ⟨0, 0, Nat.zero_le _, rfl, rfl, rfl⟩
  case round =>
    obtain ⟨k, z, hk, rfl, rfl, hz⟩ := hrel
    have hb := sum_in_take HU.out k (by omega)
    rw [← hz] at hb
    obtain ⟨hb1, hb2⟩ := hb
    have Hz := hide hz
    clear hz
    by_cases hlt : k < n
    · have hlt' : (k : Int) < (n : Int) := by omega
      obtain ⟨ad, y, rfl, hy, hc⟩ := num_cell H.out.reads hlt
      have hyb := HU.out y (List.mem_of_getElem? hy)
      obtain ⟨hy1, hy2⟩ := hyb
      have Hn := hide (show z + y = (l.take (k + 1)).sum by rw [sum_take hy, Hz.out])
      clear hy
      go_wp2
      go_round
      case rel => exact ⟨k + 1, z + y, by omega, by go_num, by first | rfl | go_num, Hn.out⟩
      case measure => simp [intOf]; omega
    · have hlt' : ¬ (k : Int) < (n : Int) := by omega
      have hall := Hz.out
      rw [List.take_of_length_le (by rw [Hlen.out]; omega)] at hall
      have Hn := hide hall
      clear hall
      go_wp2
      go_ret
      exact ⟨ret_int Hn.out, rfl⟩

set_option maxRecDepth 20000 in
set_option maxHeartbeats 1600000 in
theorem index86 {W : World} {A : Option Addr} {n c : Nat} {l : List Int} (h : Sl W A n c (numCells l)) (x : Int) (q : Bool) (hq : decide (x ∈ l) = q) :
    Calls Tryz.prog 86 #[.slice A n c, .int .i64 x] W fun e w' => ∃ z : Int, e = .returned (.int .i64 z) ∧ decide (0 ≤ z) = q ∧ W = w' := by
  have hnc := h.1
  have hcc := h.2.1
  have hlen := h.nlen
  have H := hide h
  have Hlen := hide hlen
  have Hq := hide hq
  clear h hlen hq
  go_enter Tryz.func86, Tryz.ntmps86
  go_wp2
  go_loop [8] (fun y => ∃ (k : Nat), k ≤ n ∧ y = .int .i64 (k : Int) ∧ ¬ x ∈ l.take k) (fun y => n - (intOf y).toNat)
  case atStart => exact ⟨0, Nat.zero_le _, rfl, by simp⟩
  case round =>
    obtain ⟨k, hk, rfl, hm⟩ := hrel
    have Hm := hide hm
    clear hm
    by_cases hlt : k < n
    · have hlt' : (k : Int) < (n : Int) := by omega
      obtain ⟨ad, y, rfl, hy, hc⟩ := num_cell H.out.reads hlt
      by_cases he : x = y
      · have e1 : (x == y) = true := beq_iff_eq.2 he
        have Hn := hide (show true = q by rw [← Hq.out]; exact (decide_eq_true (he ▸ List.mem_of_getElem? hy)).symm)
        clear hy he
        go_wp2
        go_ret
        exact ⟨_, rfl, by rw [← Hn.out]; exact decide_eq_true (by omega), rfl⟩
      · have e1 : (x == y) = false := beq_eq_false_iff_ne.2 he
        have Hn := hide (notin_take hy Hm.out he)
        clear hy he
        go_wp2
        go_round
        case rel => exact ⟨k + 1, by omega, by go_num, Hn.out⟩
        case measure => simp [intOf]; omega
    · have hlt' : ¬ (k : Int) < (n : Int) := by omega
      have hall := Hm.out
      rw [List.take_of_length_le (by rw [Hlen.out]; omega)] at hall
      have Hn := hide (show false = q by rw [← Hq.out]; exact (decide_eq_false hall).symm)
      clear hall
      go_wp2
      go_ret
      exact ⟨_, rfl, by rw [← Hn.out]; rfl, rfl⟩

set_option maxRecDepth 20000 in
theorem contains67 {W : World} {A : Option Addr} {n c : Nat} {l : List Int} (h : Sl W A n c (numCells l)) (x : Int) (q : Bool) (hq : decide (x ∈ l) = q) :
    Calls Tryz.prog 67 #[.slice A n c, .int .i64 x] W fun e w' => e = .returned (.bool q) ∧ W = w' := by
  have HC := hide (index86 h x q hq)
  clear h hq
  go_enter Tryz.func67, Tryz.ntmps67
  go_wp2_with fail
  with_reducible refine HC.out.mono ?_
  rintro e w2 ⟨z, rfl, hz, rfl⟩
  have Hz := hide hz
  clear hz
  go_wp2
  go_ret
  exact ⟨ret_bool Hz.out, rfl⟩

set_option maxRecDepth 20000 in
set_option maxHeartbeats 1600000 in
theorem min66 {W : World} {A : Option Addr} {n c : Nat} {l : List Int} (h : Sl W A n c (numCells l)) (h0 : 0 < n) :
    Calls Tryz.prog 66 #[.slice A n c] W fun e w' => e = .returned (.int .i64 (minL l)) ∧ W = w' := by
  have hnc := h.1
  have hcc := h.2.1
  have hlen := h.nlen
  have H := hide h
  have Hlen := hide hlen
  have l1 : ¬ (n : Int) < 1 := by omega
  have l0 : (0 : Int) < (n : Int) := by omega
  obtain ⟨ad, y, rfl, hy, hc⟩ := num_cell h.reads h0
  have hc' : W.cell? ad = some (.int .i64 y) := by rw [show ad.add 0 = ad from if_pos rfl] at hc; exact hc
  have Hy := hide (show y = minL (l.take 1) by
    obtain ⟨h1, e⟩ := List.getElem?_eq_some_iff.1 hy
    cases l with
    | nil => simp at h1
    | cons x l => simp at e; subst e; rfl)
  clear h hlen hy
  go_enter Tryz.func66, Tryz.ntmps66
  go_wp2
  go_loop [3, 4] (fun y x => ∃ (k : Nat) (z : Int), 1 ≤ k ∧ k ≤ n ∧ x = .int .i64 (k : Int) ∧ y = .int .i64 z ∧ z = minL (l.take k)) (fun _ x => n - (intOf x).toNat)
  case atStart => exact ⟨1, y, Nat.le_refl _, h0, rfl, rfl, Hy.out⟩
  case round =>
    obtain ⟨k, z, hk1, hk, rfl, rfl, hz⟩ := hrel
    have Hz := hide hz
    clear hz hc hc'
    by_cases hlt : k < n
    · have hlt' : (k : Int) < (n : Int) := by omega
      have hk0 : (0 : Int) ≤ (k : Int) := by omega
      obtain ⟨ad', y', e', hy, hc⟩ := num_cell H.out.reads hlt
      cases e'
      have Hn := hide (show min z y' = minL (l.take (k + 1)) by rw [min_take hy (by omega), Hz.out])
      clear hy
      go_wp2
      go_round
      case rel => exact ⟨k + 1, min z y', by omega, by omega, by go_num, by first | rfl | (congr 1; omega), Hn.out⟩
      case measure => simp [intOf]; omega
    · have hlt' : ¬ (k : Int) < (n : Int) := by omega
      have hall := Hz.out
      rw [List.take_of_length_le (by rw [Hlen.out]; omega)] at hall
      have Hn := hide hall
      clear hall
      go_wp2
      go_ret
      exact ⟨ret_int Hn.out, rfl⟩

set_option maxRecDepth 20000 in
set_option maxHeartbeats 1600000 in
theorem max68 {W : World} {A : Option Addr} {n c : Nat} {l : List Int} (h : Sl W A n c (numCells l)) (h0 : 0 < n) :
    Calls Tryz.prog 68 #[.slice A n c] W fun e w' => e = .returned (.int .i64 (maxL l)) ∧ W = w' := by
  have hnc := h.1
  have hcc := h.2.1
  have hlen := h.nlen
  have H := hide h
  have Hlen := hide hlen
  have l1 : ¬ (n : Int) < 1 := by omega
  have l0 : (0 : Int) < (n : Int) := by omega
  obtain ⟨ad, y, rfl, hy, hc⟩ := num_cell h.reads h0
  have hc' : W.cell? ad = some (.int .i64 y) := by rw [show ad.add 0 = ad from if_pos rfl] at hc; exact hc
  have Hy := hide (show y = maxL (l.take 1) by
    obtain ⟨h1, e⟩ := List.getElem?_eq_some_iff.1 hy
    cases l with
    | nil => simp at h1
    | cons x l => simp at e; subst e; rfl)
  clear h hlen hy
  go_enter Tryz.func68, Tryz.ntmps68
  go_wp2
  go_loop [3, 4] (fun y x => ∃ (k : Nat) (z : Int), 1 ≤ k ∧ k ≤ n ∧ x = .int .i64 (k : Int) ∧ y = .int .i64 z ∧ z = maxL (l.take k)) (fun _ x => n - (intOf x).toNat)
  case atStart => exact ⟨1, y, Nat.le_refl _, h0, rfl, rfl, Hy.out⟩
  case round =>
    obtain ⟨k, z, hk1, hk, rfl, rfl, hz⟩ := hrel
    have Hz := hide hz
    clear hz hc hc'
    by_cases hlt : k < n
    · have hlt' : (k : Int) < (n : Int) := by omega
      have hk0 : (0 : Int) ≤ (k : Int) := by omega
      obtain ⟨ad', y', e', hy, hc⟩ := num_cell H.out.reads hlt
      cases e'
      have Hn := hide (show max z y' = maxL (l.take (k + 1)) by rw [max_take hy (by omega), Hz.out])
      clear hy
      go_wp2
      go_round
      case rel => exact ⟨k + 1, max z y', by omega, by omega, by go_num, by first | rfl | (congr 1; omega), Hn.out⟩
      case measure => simp [intOf]; omega
    · have hlt' : ¬ (k : Int) < (n : Int) := by omega
      have hall := Hz.out
      rw [List.take_of_length_le (by rw [Hlen.out]; omega)] at hall
      have Hn := hide hall
      clear hall
      go_wp2
      go_ret
      exact ⟨ret_int Hn.out, rfl⟩

set_option maxRecDepth 20000 in
theorem repeated69 (q b : Int) (W : World) (hq : -1 ≤ q ∧ q ≤ 68719476736000) (hb : -1 ≤ b ∧ b ≤ 8) :
    Calls Tryz.prog 69 #[.int .i64 q, .int .i64 b] W fun e w' => e = .returned (.int .i64 (repd q b)) ∧ W = w' := by
  unfold repd
  by_cases h0 : q = 0
  · have e0 : (q == 0) = true := beq_iff_eq.2 h0
    rw [if_pos h0]
    clear h0
    go_enter Tryz.func69, Tryz.ntmps69
    go_wp2
    go_ret
    exact ⟨rfl, rfl⟩
  · have e0 : (q == 0) = false := beq_eq_false_iff_ne.2 h0
    rw [if_neg h0]
    by_cases h1 : b = -1
    · have e1 : (b == -1) = true := beq_iff_eq.2 h1
      rw [if_pos h1]
      clear h0 h1
      go_enter Tryz.func69, Tryz.ntmps69
      go_wp2
      go_ret
      exact ⟨rfl, rfl⟩
    · have e1 : (b == -1) = false := beq_eq_false_iff_ne.2 h1
      rw [if_neg h1]
      have hq0 : 0 ≤ q ∨ q = -1 := by omega
      have m1 : -8 ≤ b * q ∧ b * q ≤ 8 * 68719476736000 := by
        rcases hq0 with hq0 | hq0
        · have m3 : 0 ≤ b * q := Int.mul_nonneg (by omega) hq0
          have m4 : b * q ≤ 8 * 68719476736000 := Int.mul_le_mul hb.2 hq.2 hq0 (by omega)
          omega
        · subst hq0; omega
      obtain ⟨Z, hZ⟩ : ∃ Z, b * q = Z := ⟨_, rfl⟩
      rw [hZ] at m1 ⊢
      obtain ⟨m2, m3⟩ := m1
      clear h0 h1 hq0
      go_enter Tryz.func69, Tryz.ntmps69
      go_wp2
      go_ret
      exact ⟨rfl, rfl⟩

set_option maxRecDepth 100000 in
set_option maxHeartbeats 3200000 in
theorem ofeach64 (N : Nat) (f : Rx → Int) {W : World} {ok : Nat → Prop} {B : Option Addr} {m d : Nat} {l : List Rx} (h : SubsS W ok B m d l) (hm : m ≤ 1000000)
    (hcf : ∀ (xs : Array Value) (W : World), (callFunc N xs).run Tryz.prog W = .ok (.enter N xs) W)
    (hp : ∀ x ∈ l, ∀ (W' : World) (v : Value), RxV W' ok v x → Calls Tryz.prog N #[v] W' fun e w' => e = .returned (.int .i64 (f x)) ∧ Below W'.heap.size W' w') :
    Calls Tryz.prog 64 #[.slice B m d, .func (.func N) #[] #[]] W (GrewI W (l.map f)) := by
  obtain ⟨i0, hi, hz0, hz1, hz2⟩ := info_parts infoN
  have hmd := h.1
  have hdd := h.2.1
  have Hlen := hide h.2.2.1
  have Hs := hide h
  have Hp := hide hp
  clear h hp
  go_enter Tryz.func64, Tryz.ntmps64
  go_wp2
  go_loopw [5, 10] (fun u x wr => ∃ i : Nat, i ≤ m ∧ x = .int .i64 (i : Int) ∧ Own wr W.heap.size 3 u (numCells ((l.take i).map f)) ∧ Below W.heap.size W wr) (fun _ x _ => m - (intOf x).toNat)
  case atStart => exact ⟨0, Nat.zero_le _, rfl, World.ownsRow_nil _ _ _ _, Below.refl _ _⟩
  case round =>
    obtain ⟨i, hi1, rfl, ho, hbel⟩ := hrel
    obtain ⟨w3, hw3⟩ : ∃ w3, w3 = wr := ⟨wr, rfl⟩
    subst hw3
    obtain ⟨u, huu⟩ : ∃ u, u = u5 := ⟨u5, rfl⟩
    subst huu
    have hsz3 := hbel.size
    have B3 := hide hbel
    have Fl := hide (show (numCells ((l.take i).map f)).length = i by rw [num_len, List.length_map, List.length_take, Hlen.out]; omega)
    by_cases hlt : i < m
    · have hlt' : (i : Int) < (m : Int) := by omega
      obtain ⟨x, g, o, q0, qA, qn, qc, q1, q2, qB, qm, qd, hxl, rfl, x0, x1, x2, x3, x4, rx⟩ := (Hs.out.below hbel).at_ hlt
      have hmem : x ∈ l := List.mem_of_getElem? hxl
      have hb5 := bnew (Below.refl _ w3) (.cells #[.int .i64 q0, .slice qA qn qc, .int .i64 q1, .int .i64 q2, .slice qB qm qd] 25)
      have hfv := five_new w3 (.int .i64 q0) (.slice qA qn qc) (.int .i64 q1) (.int .i64 q2) (.slice qB qm qd) 25
      obtain ⟨-, y0, y1, y2, y3, y4⟩ := hfv
      have HC := hide (Hp.out x hmem _ _ (rx.kept hb5))
      have Hn := hide (show numCells ((l.take i).map f) ++ [.int .i64 (f x)] = numCells ((l.take (i + 1)).map f) by rw [rx_take hxl, List.map_append, num_app]; rfl)
      have O4 := hide (ho.below hb5)
      have B4 := hide (bgo hbel hb5)
      clear hxl rx hmem hbel ho hb5
      go_wp2_with fail
      with_reducible refine HC.out.mono ?_
      rintro e w5 ⟨rfl, hb5⟩
      have O5 := hide (O4.out.below hb5)
      have hB5 := bgo B4.out hb5
      have B5 := hide hB5
      have hsz5 := hB5.size
      clear hb5 hB5 y0 y1 y2 y3 y4 x0 x1 x2 x3 x4
      go_wp2_with (first
        | (at_builtin; refine wp_push rfl (.tmp 14) (.tmp 18) 71 rfl 3 i0 _ 8 Tryz.underlying71 hi hz0 hz1 hz2 rfl W.heap.size u _ rfl w5 (.int .i64 (f x)) rfl O5.out.src hsz5 _ rfl rfl (by rw [Fl.out]; omega) (by rw [Fl.out]; unfold maxLen; omega) ?_; intro v7 w7 hown7 hb7; rw [Hn.out] at hown7; have O7 := hide hown7; have B7 := hide (B5.out.trans hb7); clear hown7 hb7)
        | fail)
      go_roundw
      case rel => exact ⟨i + 1, by omega, by go_num, O7.out, B7.out⟩
      case measure => simp [intOf]; omega
    · have hlt' : ¬ (i : Int) < (m : Int) := by omega
      rw [List.take_of_length_le (by rw [Hlen.out]; omega)] at ho
      have O4 := hide ho
      clear ho hbel
      go_wp2
      go_ret
      exact ⟨_, rfl, O4.out, B3.out⟩

/-! ### NA -/

theorem bel_drewM (w : World) (n : Nat) : Below w.heap.size w (w.drewN n) := ⟨rfl, rfl, rfl, Nat.le_refl _, fun _ _ => rfl⟩
theorem run45 (xs : Array Value) (W : World) : (callFunc 45 xs).run Tryz.prog W = .ok (.enter 45 xs) W := by kernel_rfl
theorem run46 (xs : Array Value) (W : World) : (callFunc 46 xs).run Tryz.prog W = .ok (.enter 46 xs) W := by kernel_rfl
theorem min_pos : ∀ {l : List Int}, (∀ z ∈ l, 0 ≤ z) → 0 ≤ l.headD 0
  | [], _ => by simp
  | x :: l, h => h x (by simp)

set_option maxRecDepth 100000 in
set_option maxHeartbeats 6400000 in
theorem least45 : ∀ (r : Rx), nodeR r = 0 → sizeR r ≤ 1000 → depthR r ≤ 12 → ∀ (W : World) (ok : Nat → Prop) (v : Value), RxV W ok v r → Calls Tryz.prog 45 #[v] W fun e w' => e = .returned (.int .i64 (lo r)) ∧ Below W.heap.size W w' := by
  intro r
  induction r using Rx.ind with
  | h k s a b l ih =>
    intro hnode hsz hdp W ok v hv
    cases hv with
    | mk _ _ _ A B n c m d _ vs _ hset hvs hlen hk ha hb hr =>
    obtain ⟨hf, hbd, hsub⟩ := node_ok hnode
    obtain ⟨hk7, hkset, hle, hab, h4, h3, hl0⟩ := fields_of hf
    have hmd := hvs.1
    have hdd := hvs.2.1
    have hB := bnew (Below.refl _ W) (.cells #[.int .i64 k, .slice A n c, .int .i64 a, .int .i64 b, .slice B m d] 25)
    have BB := hide hB
    have F := hide (five_new W (.int .i64 k) (.slice A n c) (.int .i64 a) (.int .i64 b) (.slice B m d) 25)
    have hm1000 : m ≤ 1000 := by have := sizeL_len l; unfold sizeR at hsz; omega
    have IH := fun x (hx : x ∈ l) => ih x hx (hsub x hx) (by have := sizeL_mem hx; unfold sizeR at hsz; omega) (by have := depthL_mem hx; unfold depthR at hdp; omega)
    have HU := hide (show ∀ x ∈ l, InB (lenR x) 68719476736000 from fun x hx => len_U (hsub x hx) (by have := sizeL_mem hx; unfold sizeR at hsz; omega) (by have := depthL_mem hx; unfold depthR at hdp; omega))
    have HE := hide (ofeach64 45 lo ((SubsS.of hvs hlen hr).below hB) (by omega) run45 fun x hx W' v hv => IH x hx W' ok v hv)
    have HA := hide ((len_alt hnode).1)
    obtain ⟨_, t0, t1, t2, t3, t4⟩ := F.out
    have Hl3 := hide (show k = 3 → 0 < m from fun h => by have := h3 h; omega)
    have Hl4 := hide (show k = 4 → m = 1 from fun h => by have := h4 h; omega)
    have Hbd := hide hbd
    have Hml := hide hlen
    clear hset hvs hlen hr hB ih hnode hf hbd hsub hkset hle hab h4 h3 hl0 hsz hdp IH
    have hkk : (k = 1) ∨ (k = 2) ∨ (k = 3) ∨ (k = 4) ∨ (5 ≤ k ∧ k ≤ 7) := by omega
    obtain ⟨R, hR⟩ : ∃ R, lo (.mk k s a b l) = R := ⟨_, rfl⟩
    rw [hR] at HA ⊢
    clear hR
    rcases hkk with hk0 | hk0 | hk0 | hk0 | hk0
    · have HR := hide (show (1 : Int) = R by rw [HA.out, if_pos hk0])
      have e1 : (k == 1) = true := beq_iff_eq.2 hk0
      clear hk0 hk7
      go_enter Tryz.func45, Tryz.ntmps45
      go_wp2_with fail
      with_reducible refine HE.out.mono ?_
      rintro e w2 hg
      obtain ⟨A2, m2, c2, rfl, hm2, hs2, hb2⟩ := hg.sl
      rw [List.length_map, Hml.out] at hm2
      subst hm2
      have hnc2 := hs2.1
      have hcc2 := hs2.2.1
      have S2 := hide hs2
      have B2 := hide (bgo BB.out hb2)
      clear t0 t1 t2 t3 t4
      obtain ⟨_, t0, t1, t2, t3, t4⟩ := F.out.keep hb2
      clear hb2 hg hs2
      go_wp2
      go_ret
      exact ⟨ret_int HR.out, B2.out⟩
    · have HR := hide (show (l.map lo).sum = R by rw [HA.out, if_neg (by omega), if_pos hk0])
      have e1 : (k == 1) = false := beq_eq_false_iff_ne.2 (by omega)
      have e2 : (k == 2) = true := beq_iff_eq.2 hk0
      clear hk0 hk7
      go_enter Tryz.func45, Tryz.ntmps45
      go_wp2_with fail
      with_reducible refine HE.out.mono ?_
      rintro e w2 hg
      obtain ⟨A2, m2, c2, rfl, hm2, hs2, hb2⟩ := hg.sl
      rw [List.length_map, Hml.out] at hm2
      subst hm2
      have hnc2 := hs2.1
      have hcc2 := hs2.2.1
      have S2 := hide hs2
      have B2 := hide (bgo BB.out hb2)
      clear t0 t1 t2 t3 t4
      obtain ⟨_, t0, t1, t2, t3, t4⟩ := F.out.keep hb2
      clear hb2 hg hs2
      have HC := hide (fun W (h : Sl W A2 m2 c2 (numCells (l.map lo))) => sum65 h hm1000 fun z hz => by
        obtain ⟨x, hx, rfl⟩ := List.mem_map.1 hz
        exact ⟨(HU.out x hx).1, (HU.out x hx).2.1⟩)
      go_wp2_with fail
      with_reducible refine (HC.out _ S2.out).mono ?_
      rintro e w3 ⟨rfl, rfl⟩
      go_wp2
      go_ret
      exact ⟨ret_int HR.out, B2.out⟩
    · have HR := hide (show minL (l.map lo) = R by rw [HA.out, if_neg (by omega), if_neg (by omega), if_pos hk0])
      have h0m := Hl3.out hk0
      have e1 : (k == 1) = false := beq_eq_false_iff_ne.2 (by omega)
      have e2 : (k == 2) = false := beq_eq_false_iff_ne.2 (by omega)
      have e3 : (k == 3) = true := beq_iff_eq.2 hk0
      clear hk0 hk7
      go_enter Tryz.func45, Tryz.ntmps45
      go_wp2_with fail
      with_reducible refine HE.out.mono ?_
      rintro e w2 hg
      obtain ⟨A2, m2, c2, rfl, hm2, hs2, hb2⟩ := hg.sl
      rw [List.length_map, Hml.out] at hm2
      subst hm2
      have hnc2 := hs2.1
      have hcc2 := hs2.2.1
      have S2 := hide hs2
      have B2 := hide (bgo BB.out hb2)
      clear t0 t1 t2 t3 t4
      obtain ⟨_, t0, t1, t2, t3, t4⟩ := F.out.keep hb2
      clear hb2 hg hs2
      have HC := hide (fun W (h : Sl W A2 m2 c2 (numCells (l.map lo))) => min66 h h0m)
      go_wp2_with fail
      with_reducible refine (HC.out _ S2.out).mono ?_
      rintro e w3 ⟨rfl, rfl⟩
      go_wp2
      go_ret
      exact ⟨ret_int HR.out, B2.out⟩
    · have HR := hide (show a * (l.map lo).headD 0 = R by rw [HA.out, if_neg (by omega), if_neg (by omega), if_neg (by omega), if_pos hk0])
      have h0m : 0 < m := by have := Hl4.out hk0; omega
      have hab := Hbd.out hk0
      have e1 : (k == 1) = false := beq_eq_false_iff_ne.2 (by omega)
      have e2 : (k == 2) = false := beq_eq_false_iff_ne.2 (by omega)
      have e3 : (k == 3) = false := beq_eq_false_iff_ne.2 (by omega)
      have e4 : (k == 4) = true := beq_iff_eq.2 hk0
      unfold boundsR at hab
      rw [decide_eq_true_eq] at hab
      obtain ⟨hab1, hab2, -⟩ := hab
      clear hk0 hk7
      go_enter Tryz.func45, Tryz.ntmps45
      go_wp2_with fail
      with_reducible refine HE.out.mono ?_
      rintro e w2 hg
      obtain ⟨A2, m2, c2, rfl, hm2, hs2, hb2⟩ := hg.sl
      rw [List.length_map, Hml.out] at hm2
      subst hm2
      have hnc2 := hs2.1
      have hcc2 := hs2.2.1
      have S2 := hide hs2
      have B2 := hide (bgo BB.out hb2)
      clear t0 t1 t2 t3 t4
      obtain ⟨_, t0, t1, t2, t3, t4⟩ := F.out.keep hb2
      clear hb2 hg hs2
      obtain ⟨ad, y, rfl, hy, hc⟩ := num_cell S2.out.reads (k := 0) (by omega)
      rw [show ad.add 0 = ad from if_pos rfl] at hc
      have hyl : (l.map lo).headD 0 = y := by rw [List.headD_eq_head?_getD, List.head?_eq_getElem?, hy]; rfl
      have hyb : 0 ≤ y ∧ y ≤ 68719476736000 := by
        obtain ⟨x, hx, rfl⟩ := List.mem_map.1 (List.mem_of_getElem? hy)
        exact ⟨(HU.out x hx).1, (HU.out x hx).2.1⟩
      obtain ⟨hy0, hy1⟩ := hyb
      have m1 : 0 ≤ a * y := Int.mul_nonneg hab1 hy0
      have m2' : a * y ≤ 8 * 68719476736000 := Int.mul_le_mul hab2 hy1 hy0 (by omega)
      rw [hyl] at HR
      have l0 : (0 : Int) < (m2 : Int) := by omega
      obtain ⟨Z, hZ⟩ : ∃ Z, a * y = Z := ⟨_, rfl⟩
      rw [hZ] at m1 m2' HR
      have hwr : IntKind.i64.wrap Z = Z := IntWalk.i64_in (by omega) (by omega)
      clear hy hyl
      go_wp2
      go_quiet (fail)
      go_wp2
      go_ret
      exact ⟨ret_int HR.out, bgo B2.out (bel_drewM _ _)⟩
    · have HR := hide (show (0 : Int) = R by rw [HA.out, if_neg (by omega), if_neg (by omega), if_neg (by omega), if_neg (by omega)])
      have e1 : (k == 1) = false := beq_eq_false_iff_ne.2 (by omega)
      have e2 : (k == 2) = false := beq_eq_false_iff_ne.2 (by omega)
      have e3 : (k == 3) = false := beq_eq_false_iff_ne.2 (by omega)
      have e4 : (k == 4) = false := beq_eq_false_iff_ne.2 (by omega)
      clear hk0 hk7
      go_enter Tryz.func45, Tryz.ntmps45
      go_wp2_with fail
      with_reducible refine HE.out.mono ?_
      rintro e w2 hg
      obtain ⟨A2, m2, c2, rfl, hm2, hs2, hb2⟩ := hg.sl
      rw [List.length_map, Hml.out] at hm2
      subst hm2
      have hnc2 := hs2.1
      have hcc2 := hs2.2.1
      have S2 := hide hs2
      have B2 := hide (bgo BB.out hb2)
      clear t0 t1 t2 t3 t4
      obtain ⟨_, t0, t1, t2, t3, t4⟩ := F.out.keep hb2
      clear hb2 hg hs2
      go_wp2
      go_ret
      exact ⟨ret_int HR.out, B2.out⟩

set_option maxRecDepth 100000 in
set_option maxHeartbeats 6400000 in
theorem greatest46 : ∀ (r : Rx), nodeR r = 0 → sizeR r ≤ 1000 → depthR r ≤ 12 → ∀ (W : World) (ok : Nat → Prop) (v : Value), RxV W ok v r → Calls Tryz.prog 46 #[v] W fun e w' => e = .returned (.int .i64 (hi r)) ∧ Below W.heap.size W w' := by
  intro r
  induction r using Rx.ind with
  | h k s a b l ih =>
    intro hnode hsz hdp W ok v hv
    cases hv with
    | mk _ _ _ A B n c m d _ vs _ hset hvs hlen hk ha hb hr =>
    obtain ⟨hf, hbd, hsub⟩ := node_ok hnode
    obtain ⟨hk7, hkset, hle, hab, h4, h3, hl0⟩ := fields_of hf
    have hmd := hvs.1
    have hdd := hvs.2.1
    have hB := bnew (Below.refl _ W) (.cells #[.int .i64 k, .slice A n c, .int .i64 a, .int .i64 b, .slice B m d] 25)
    have BB := hide hB
    have F := hide (five_new W (.int .i64 k) (.slice A n c) (.int .i64 a) (.int .i64 b) (.slice B m d) 25)
    have hm1000 : m ≤ 1000 := by have := sizeL_len l; unfold sizeR at hsz; omega
    have IH := fun x (hx : x ∈ l) => ih x hx (hsub x hx) (by have := sizeL_mem hx; unfold sizeR at hsz; omega) (by have := depthL_mem hx; unfold depthR at hdp; omega)
    have HU := hide (show ∀ x ∈ l, InB (lenR x) 68719476736000 from fun x hx => len_U (hsub x hx) (by have := sizeL_mem hx; unfold sizeR at hsz; omega) (by have := depthL_mem hx; unfold depthR at hdp; omega))
    have HE := hide (ofeach64 46 hi ((SubsS.of hvs hlen hr).below hB) (by omega) run46 fun x hx W' v hv => IH x hx W' ok v hv)
    have HA := hide ((len_alt hnode).2)
    obtain ⟨_, t0, t1, t2, t3, t4⟩ := F.out
    have Hl3 := hide (show k = 3 → 0 < m from fun h => by have := h3 h; omega)
    have Hl4 := hide (show k = 4 → m = 1 from fun h => by have := h4 h; omega)
    have Hbd := hide hbd
    have Hml := hide hlen
    clear hset hvs hlen hr hB ih hnode hf hbd hsub hkset hle hab h4 h3 hl0 hsz hdp IH
    have hkk : (k = 1) ∨ (k = 2) ∨ (k = 3) ∨ (k = 4) ∨ (5 ≤ k ∧ k ≤ 7) := by omega
    obtain ⟨R, hR⟩ : ∃ R, hi (.mk k s a b l) = R := ⟨_, rfl⟩
    rw [hR] at HA ⊢
    clear hR
    by_cases hin : -1 ∈ l.map hi
    · have HR := hide (show (-1 : Int) = R by rw [HA.out, if_pos hin])
      clear hkk hk7
      go_enter Tryz.func46, Tryz.ntmps46
      go_wp2_with fail
      with_reducible refine HE.out.mono ?_
      rintro e w2 hg
      obtain ⟨A2, m2, c2, rfl, hm2, hs2, hb2⟩ := hg.sl
      rw [List.length_map, Hml.out] at hm2
      subst hm2
      have hnc2 := hs2.1
      have hcc2 := hs2.2.1
      have S2 := hide hs2
      have B2 := hide (bgo BB.out hb2)
      clear t0 t1 t2 t3 t4
      obtain ⟨_, t0, t1, t2, t3, t4⟩ := F.out.keep hb2
      clear hb2 hg hs2
      have HC0 := hide (fun W (h : Sl W A2 m2 c2 (numCells (l.map hi))) => contains67 h (-1) true (decide_eq_true hin))
      go_wp2_with fail
      with_reducible refine (HC0.out _ S2.out).mono ?_
      rintro e w9 ⟨rfl, rfl⟩
      go_wp2
      go_ret
      exact ⟨ret_int HR.out, B2.out⟩
    · have HA2 := HA.out
      rw [if_neg hin] at HA2
      have HUp := hide (show ∀ z ∈ l.map hi, 0 ≤ z ∧ z ≤ 68719476736000 from fun z hz => by
        obtain ⟨x, hx, rfl⟩ := List.mem_map.1 hz
        have h1 := (HU.out x hx).2.2
        have h2 : ¬ hi x = -1 := fun e => hin (e ▸ hz)
        unfold hi at h2 ⊢
        omega)
      rcases hkk with hk0 | hk0 | hk0 | hk0 | hk0
      · have HR := hide (show (1 : Int) = R by rw [HA2, if_pos hk0])
        have e1 : (k == 1) = true := beq_iff_eq.2 hk0
        clear hk0 hk7 HA2
        go_enter Tryz.func46, Tryz.ntmps46
        go_wp2_with fail
        with_reducible refine HE.out.mono ?_
        rintro e w2 hg
        obtain ⟨A2, m2, c2, rfl, hm2, hs2, hb2⟩ := hg.sl
        rw [List.length_map, Hml.out] at hm2
        subst hm2
        have hnc2 := hs2.1
        have hcc2 := hs2.2.1
        have S2 := hide hs2
        have B2 := hide (bgo BB.out hb2)
        clear t0 t1 t2 t3 t4
        obtain ⟨_, t0, t1, t2, t3, t4⟩ := F.out.keep hb2
        clear hb2 hg hs2
        have HC0 := hide (fun W (h : Sl W A2 m2 c2 (numCells (l.map hi))) => contains67 h (-1) false (decide_eq_false hin))
        go_wp2_with fail
        with_reducible refine (HC0.out _ S2.out).mono ?_
        rintro e w9 ⟨rfl, rfl⟩
        go_wp2
        go_ret
        exact ⟨ret_int HR.out, B2.out⟩
      · have HR := hide (show (l.map hi).sum = R by rw [HA2, if_neg (by omega), if_pos hk0])
        have e1 : (k == 1) = false := beq_eq_false_iff_ne.2 (by omega)
        have e2 : (k == 2) = true := beq_iff_eq.2 hk0
        clear hk0 hk7 HA2
        go_enter Tryz.func46, Tryz.ntmps46
        go_wp2_with fail
        with_reducible refine HE.out.mono ?_
        rintro e w2 hg
        obtain ⟨A2, m2, c2, rfl, hm2, hs2, hb2⟩ := hg.sl
        rw [List.length_map, Hml.out] at hm2
        subst hm2
        have hnc2 := hs2.1
        have hcc2 := hs2.2.1
        have S2 := hide hs2
        have B2 := hide (bgo BB.out hb2)
        clear t0 t1 t2 t3 t4
        obtain ⟨_, t0, t1, t2, t3, t4⟩ := F.out.keep hb2
        clear hb2 hg hs2
        have HC0 := hide (fun W (h : Sl W A2 m2 c2 (numCells (l.map hi))) => contains67 h (-1) false (decide_eq_false hin))
        go_wp2_with fail
        with_reducible refine (HC0.out _ S2.out).mono ?_
        rintro e w9 ⟨rfl, rfl⟩
        have HC := hide (fun W (h : Sl W A2 m2 c2 (numCells (l.map hi))) => sum65 h hm1000 HUp.out)
        go_wp2_with fail
        with_reducible refine (HC.out _ S2.out).mono ?_
        rintro e w3 ⟨rfl, rfl⟩
        go_wp2
        go_ret
        exact ⟨ret_int HR.out, B2.out⟩
      · have HR := hide (show maxL (l.map hi) = R by rw [HA2, if_neg (by omega), if_neg (by omega), if_pos hk0])
        have h0m := Hl3.out hk0
        have e1 : (k == 1) = false := beq_eq_false_iff_ne.2 (by omega)
        have e2 : (k == 2) = false := beq_eq_false_iff_ne.2 (by omega)
        have e3 : (k == 3) = true := beq_iff_eq.2 hk0
        clear hk0 hk7 HA2
        go_enter Tryz.func46, Tryz.ntmps46
        go_wp2_with fail
        with_reducible refine HE.out.mono ?_
        rintro e w2 hg
        obtain ⟨A2, m2, c2, rfl, hm2, hs2, hb2⟩ := hg.sl
        rw [List.length_map, Hml.out] at hm2
        subst hm2
        have hnc2 := hs2.1
        have hcc2 := hs2.2.1
        have S2 := hide hs2
        have B2 := hide (bgo BB.out hb2)
        clear t0 t1 t2 t3 t4
        obtain ⟨_, t0, t1, t2, t3, t4⟩ := F.out.keep hb2
        clear hb2 hg hs2
        have HC0 := hide (fun W (h : Sl W A2 m2 c2 (numCells (l.map hi))) => contains67 h (-1) false (decide_eq_false hin))
        go_wp2_with fail
        with_reducible refine (HC0.out _ S2.out).mono ?_
        rintro e w9 ⟨rfl, rfl⟩
        have HC := hide (fun W (h : Sl W A2 m2 c2 (numCells (l.map hi))) => max68 h h0m)
        go_wp2_with fail
        with_reducible refine (HC.out _ S2.out).mono ?_
        rintro e w3 ⟨rfl, rfl⟩
        go_wp2
        go_ret
        exact ⟨ret_int HR.out, B2.out⟩
      · have HR := hide (show repd ((l.map hi).headD 0) b = R by rw [HA2, if_neg (by omega), if_neg (by omega), if_neg (by omega), if_pos hk0])
        have h0m : 0 < m := by have := Hl4.out hk0; omega
        have hab := Hbd.out hk0
        have e1 : (k == 1) = false := beq_eq_false_iff_ne.2 (by omega)
        have e2 : (k == 2) = false := beq_eq_false_iff_ne.2 (by omega)
        have e3 : (k == 3) = false := beq_eq_false_iff_ne.2 (by omega)
        have e4 : (k == 4) = true := beq_iff_eq.2 hk0
        unfold boundsR at hab
        rw [decide_eq_true_eq] at hab
        have hbb : -1 ≤ b ∧ b ≤ 8 := by omega
        clear hk0 hk7 HA2 hab
        go_enter Tryz.func46, Tryz.ntmps46
        go_wp2_with fail
        with_reducible refine HE.out.mono ?_
        rintro e w2 hg
        obtain ⟨A2, m2, c2, rfl, hm2, hs2, hb2⟩ := hg.sl
        rw [List.length_map, Hml.out] at hm2
        subst hm2
        have hnc2 := hs2.1
        have hcc2 := hs2.2.1
        have S2 := hide hs2
        have B2 := hide (bgo BB.out hb2)
        clear t0 t1 t2 t3 t4
        obtain ⟨_, t0, t1, t2, t3, t4⟩ := F.out.keep hb2
        clear hb2 hg hs2
        have HC0 := hide (fun W (h : Sl W A2 m2 c2 (numCells (l.map hi))) => contains67 h (-1) false (decide_eq_false hin))
        go_wp2_with fail
        with_reducible refine (HC0.out _ S2.out).mono ?_
        rintro e w9 ⟨rfl, rfl⟩
        obtain ⟨ad, y, rfl, hy, hc⟩ := num_cell S2.out.reads (k := 0) (by omega)
        rw [show ad.add 0 = ad from if_pos rfl] at hc
        have hyl : (l.map hi).headD 0 = y := by rw [List.headD_eq_head?_getD, List.head?_eq_getElem?, hy]; rfl
        have hyb := HUp.out y (List.mem_of_getElem? hy)
        rw [hyl] at HR
        have l0 : (0 : Int) < (m2 : Int) := by omega
        have HQ := hide (fun W => repeated69 y b W ⟨by omega, hyb.2⟩ hbb)
        obtain ⟨Z, hZ⟩ : ∃ Z, repd y b = Z := ⟨_, rfl⟩
        rw [hZ] at HQ HR
        clear hy hyl hZ
        go_wp2_with fail
        go_quiet ((go_at_call 69; refine quiet_left (HQ.out _)))
        go_wp2
        go_ret
        exact ⟨ret_int HR.out, bgo B2.out (bel_drewM _ _)⟩
      · have HR := hide (show (0 : Int) = R by rw [HA2, if_neg (by omega), if_neg (by omega), if_neg (by omega), if_neg (by omega)])
        have e1 : (k == 1) = false := beq_eq_false_iff_ne.2 (by omega)
        have e2 : (k == 2) = false := beq_eq_false_iff_ne.2 (by omega)
        have e3 : (k == 3) = false := beq_eq_false_iff_ne.2 (by omega)
        have e4 : (k == 4) = false := beq_eq_false_iff_ne.2 (by omega)
        clear hk0 hk7 HA2
        go_enter Tryz.func46, Tryz.ntmps46
        go_wp2_with fail
        with_reducible refine HE.out.mono ?_
        rintro e w2 hg
        obtain ⟨A2, m2, c2, rfl, hm2, hs2, hb2⟩ := hg.sl
        rw [List.length_map, Hml.out] at hm2
        subst hm2
        have hnc2 := hs2.1
        have hcc2 := hs2.2.1
        have S2 := hide hs2
        have B2 := hide (bgo BB.out hb2)
        clear t0 t1 t2 t3 t4
        obtain ⟨_, t0, t1, t2, t3, t4⟩ := F.out.keep hb2
        clear hb2 hg hs2
        have HC0 := hide (fun W (h : Sl W A2 m2 c2 (numCells (l.map hi))) => contains67 h (-1) false (decide_eq_false hin))
        go_wp2_with fail
        with_reducible refine (HC0.out _ S2.out).mono ?_
        rintro e w9 ⟨rfl, rfl⟩
        go_wp2
        go_ret
        exact ⟨ret_int HR.out, B2.out⟩

/-! ### NB -/

set_option maxRecDepth 100000 in
set_option maxHeartbeats 6400000 in
theorem plens22 {W : World} {ok : Nat → Prop} {v : Value} {r : Rx} (hv : RxV W ok v r) (h0 : rightR r = 0) : Calls Tryz.prog 22 #[v] W fun e w' => e = .returned (.tuple #[.int .i64 (lo r), .int .i64 (hi r)]) ∧ Below W.heap.size W w' := by
  obtain ⟨hn, hsz, hdp⟩ := right_node h0
  obtain ⟨k, A, n, c, a, b, B, m, d, rfl⟩ := hv.nine
  have hB := bnew (Below.refl _ W) (.cells #[.int .i64 k, .slice A n c, .int .i64 a, .int .i64 b, .slice B m d] 25)
  have BB := hide hB
  have F := hide (five_new W (.int .i64 k) (.slice A n c) (.int .i64 a) (.int .i64 b) (.slice B m d) 25)
  have V := hide (hv.kept hB)
  have HR := pright12 V.out (by omega) (by omega)
  rw [h0] at HR
  have HR := hide HR
  have H45 := hide (fun W (h : RxV W ok (.agg #[.int .i64 k, .slice A n c, .int .i64 a, .int .i64 b, .slice B m d]) r) => least45 r hn (by omega) hdp W ok _ h)
  have H46 := hide (fun W (h : RxV W ok (.agg #[.int .i64 k, .slice A n c, .int .i64 a, .int .i64 b, .slice B m d]) r) => greatest46 r hn (by omega) hdp W ok _ h)
  obtain ⟨L, hL⟩ : ∃ L, lo r = L := ⟨_, rfl⟩
  obtain ⟨G, hG⟩ : ∃ G, hi r = G := ⟨_, rfl⟩
  rw [hL] at H45
  rw [hG] at H46
  rw [hL, hG]
  obtain ⟨_, t0, t1, t2, t3, t4⟩ := F.out
  clear hv hB h0 hn hsz hdp hL hG
  go_enter Tryz.func22, Tryz.ntmps22
  go_wp2_with fail
  with_reducible refine HR.out.mono ?_
  rintro e w2 ⟨rfl, hb⟩
  have B2 := hide (bgo BB.out hb)
  have F2 := hide (F.out.keep hb)
  have V2 := hide (V.out.kept hb)
  clear hb t0 t1 t2 t3 t4
  obtain ⟨_, t0, t1, t2, t3, t4⟩ := F2.out
  go_wp2_with fail
  obtain ⟨x, hx⟩ : ∃ x, x = w2 := ⟨_, rfl⟩
  subst hx
  have HK := hide (show ∀ X : World, Below x.heap.size x X → (X.cell? ⟨W.heap.size, 0, none⟩ = some (.int .i64 k) ∧ X.cell? ⟨W.heap.size, 1, none⟩ = some (.slice A n c) ∧ X.cell? ⟨W.heap.size, 2, none⟩ = some (.int .i64 a) ∧ X.cell? ⟨W.heap.size, 3, none⟩ = some (.int .i64 b) ∧ X.cell? ⟨W.heap.size, 4, none⟩ = some (.slice B m d)) ∧ Below x.heap.size x X from fun X hb => by
    obtain ⟨-, t0, t1, t2, t3, t4⟩ := F2.out.keep hb
    exact ⟨⟨t0, t1, t2, t3, t4⟩, hb⟩)
  have HS0 := hide (bel_drew x)
  have HKs := hide (show ∀ X Y : World, (X.cell? ⟨W.heap.size, 0, none⟩ = some (.int .i64 k) ∧ X.cell? ⟨W.heap.size, 1, none⟩ = some (.slice A n c) ∧ X.cell? ⟨W.heap.size, 2, none⟩ = some (.int .i64 a) ∧ X.cell? ⟨W.heap.size, 3, none⟩ = some (.int .i64 b) ∧ X.cell? ⟨W.heap.size, 4, none⟩ = some (.slice B m d)) ∧ Below x.heap.size x X → Below X.heap.size X Y → (Y.cell? ⟨W.heap.size, 0, none⟩ = some (.int .i64 k) ∧ Y.cell? ⟨W.heap.size, 1, none⟩ = some (.slice A n c) ∧ Y.cell? ⟨W.heap.size, 2, none⟩ = some (.int .i64 a) ∧ Y.cell? ⟨W.heap.size, 3, none⟩ = some (.int .i64 b) ∧ Y.cell? ⟨W.heap.size, 4, none⟩ = some (.slice B m d)) ∧ Below x.heap.size x Y from fun X Y h hb => HK.out Y (bgo h.2 hb))
  have HKb := hide (show ∀ X : World, (X.cell? ⟨W.heap.size, 0, none⟩ = some (.int .i64 k) ∧ X.cell? ⟨W.heap.size, 1, none⟩ = some (.slice A n c) ∧ X.cell? ⟨W.heap.size, 2, none⟩ = some (.int .i64 a) ∧ X.cell? ⟨W.heap.size, 3, none⟩ = some (.int .i64 b) ∧ X.cell? ⟨W.heap.size, 4, none⟩ = some (.slice B m d)) ∧ Below x.heap.size x X → Below W.heap.size W X from fun X h => bgo B2.out h.2)
  have HRa := hide (show ∀ X : World, (X.cell? ⟨W.heap.size, 0, none⟩ = some (.int .i64 k) ∧ X.cell? ⟨W.heap.size, 1, none⟩ = some (.slice A n c) ∧ X.cell? ⟨W.heap.size, 2, none⟩ = some (.int .i64 a) ∧ X.cell? ⟨W.heap.size, 3, none⟩ = some (.int .i64 b) ∧ X.cell? ⟨W.heap.size, 4, none⟩ = some (.slice B m d)) ∧ Below x.heap.size x X → RxV X ok (.agg #[.int .i64 k, .slice A n c, .int .i64 a, .int .i64 b, .slice B m d]) r from fun X h => V2.out.kept h.2)
  go_region_held3 (fun w' => (w'.cell? ⟨W.heap.size, 0, none⟩ = some (.int .i64 k) ∧ w'.cell? ⟨W.heap.size, 1, none⟩ = some (.slice A n c) ∧ w'.cell? ⟨W.heap.size, 2, none⟩ = some (.int .i64 a) ∧ w'.cell? ⟨W.heap.size, 3, none⟩ = some (.int .i64 b) ∧ w'.cell? ⟨W.heap.size, 4, none⟩ = some (.slice B m d)) ∧ Below x.heap.size x w')
    (first | exact HK.out _ HS0.out | exact HKs.out _ _ (by assumption) hb4)
    (first
      | (go_at_call 45; with_reducible refine (H45.out _ (HRa.out _ ?_)).mono ?_; assumption; rintro e w4 ⟨rfl, hb4⟩)
      | (go_at_call 46; with_reducible refine (H46.out _ (HRa.out _ ?_)).mono ?_; assumption; rintro e w4 ⟨rfl, hb4⟩))
  all_goals
    have Bfin := HKb.out _ (by assumption)
    go_wp2
    go_ret2
    exact ⟨rfl, Bfin⟩

end Go.Proofs.YtmiegjefmebpdaaGreatDoor
