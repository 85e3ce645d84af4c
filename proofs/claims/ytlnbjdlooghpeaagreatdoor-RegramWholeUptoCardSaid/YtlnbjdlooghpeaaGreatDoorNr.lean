/- Layer 10: the raw condition of an expression: what it holds for, its form and its size, on plain data. -/
import Derived.Test.YtlnbjdlooghpeaaGreatDoorNl
import Derived.Test.YtlnbjdlooghpeaaGreatDoorNg
namespace Go.Proofs.YtlnbjdlooghpeaaGreatDoor

/-- The condition of a list of strings. -/
def andN (s : List UInt8) : Nd := .mk 4 0 ((tris s).map fun c => .mk 3 c [])
def ofStr (l : List (List UInt8)) : Nd := .mk 5 0 (l.map andN)
/-- The condition of the part that is open. -/
def flushS : Option (List (List UInt8)) → List Nd
  | none => []
  | some c => [ofStr c]
mutual
def rawR : Rx → Nd
  | .mk k set a b l => match litR true (.mk k set a b l) with
    | some L => ofStr L
    | none => if k = 2 then .mk 4 0 (partsR none l) else if k = 3 then .mk 5 0 (rawL l) else if k = 4 ∧ 1 ≤ a then rawOne l else .mk 1 0 []
def partsR (cur : Option (List (List UInt8))) : List Rx → List Nd
  | [] => flushS cur
  | x :: l => match litR true x with
    | none => flushS cur ++ rawR x :: partsR none l
    | some y => match cur with
      | none => partsR (some y) l
      | some c => match prodS c y with
        | some p => partsR (some p) l
        | none => ofStr c :: partsR (some y) l
def rawL : List Rx → List Nd
  | [] => []
  | x :: l => rawR x :: rawL l
def rawOne : List Rx → Nd
  | [] => .mk 1 0 []
  | x :: _ => rawR x
end
def needS (r : Rx) : Nd := if rightR r = 0 then simpN (rawR r) else .mk 1 0 []
theorem raw_lit {r : Rx} {L : List (List UInt8)} (h : litR true r = some L) : rawR r = ofStr L := by
  cases r with
  | mk k set a b l => unfold rawR; rw [h]
theorem raw_none {k : Int} {set : List (UInt8 × UInt8)} {a b : Int} {l : List Rx} (h : litR true (.mk k set a b l) = none) :
    rawR (.mk k set a b l) = if k = 2 then .mk 4 0 (partsR none l) else if k = 3 then .mk 5 0 (rawL l) else if k = 4 ∧ 1 ≤ a then rawOne l else .mk 1 0 [] := by
  rw [rawR, h]
theorem parts_none {cur : Option (List (List UInt8))} {x : Rx} {l : List Rx} (h : litR true x = none) : partsR cur (x :: l) = flushS cur ++ rawR x :: partsR none l := by rw [partsR, h]
theorem parts_new {x : Rx} {l : List Rx} {y : List (List UInt8)} (h : litR true x = some y) : partsR none (x :: l) = partsR (some y) l := by rw [partsR, h]
theorem parts_more {x : Rx} {l : List Rx} {c y p : List (List UInt8)} (h : litR true x = some y) (hp : prodS c y = some p) : partsR (some c) (x :: l) = partsR (some p) l := by rw [partsR, h]; simp only [hp]
theorem parts_cut {x : Rx} {l : List Rx} {c y : List (List UInt8)} (h : litR true x = some y) (hp : prodS c y = none) : partsR (some c) (x :: l) = ofStr c :: partsR (some y) l := by rw [partsR, h]; simp only [hp]
theorem rawL_map : ∀ l : List Rx, rawL l = l.map rawR
  | [] => by rw [rawL]; rfl
  | x :: l => by rw [rawL, rawL_map l]; rfl

theorem fb_true : fb true = fld := by funext c; simp [fb]
theorem fb_false : fb false = fun c => c := by funext c; simp [fb]
/-! ### it holds where the expression matches -/
theorem tris_map (d : List UInt8) : tris (d.map fld) = tris d := by
  unfold tris
  rw [tri_map fld fld_fld, List.length_map]
theorem tris_cut {s : List UInt8} {i j : Nat} (h1 : i ≤ j) (h2 : j ≤ s.length) (c : Int) (h : c ∈ tris (cut s i j)) : c ∈ tris s := by
  unfold tris at h ⊢
  rw [List.mem_map] at h ⊢
  obtain ⟨k, hk, e⟩ := h
  rw [List.mem_range, cut_len h1 h2] at hk
  refine ⟨i + k, by rw [List.mem_range]; omega, ?_⟩
  rw [← e]
  have key : ∀ m, m < j - i → fat s (i + m) = fat (cut s i j) m := fun m hm => by
    unfold fat cut
    congr 2
    unfold List.getD
    rw [List.getElem?_take_of_lt hm, List.getElem?_drop]
  unfold tri
  rw [← key k (by omega), ← key (k + 1) (by omega), ← key (k + 2) (by omega)]
  rfl
theorem ofStr_holds {s : List UInt8} {codes : List Int} (hc : ∀ c ∈ tris s, c ∈ codes) {L : List (List UInt8)} {i j : Nat} (h1 : i ≤ j) (h2 : j ≤ s.length) (h : (cut s i j).map fld ∈ L) : holdsN codes (ofStr L) = true := by
  unfold ofStr
  rw [holds_or, List.any_eq_true]
  refine ⟨_, List.mem_map_of_mem h, ?_⟩
  unfold andN
  rw [holds_and, List.all_eq_true]
  intro n hn
  obtain ⟨c, hc', rfl⟩ := List.mem_map.1 hn
  rw [holds_gram, decide_eq_true_eq]
  rw [tris_map] at hc'
  exact hc c (tris_cut h1 h2 c hc')
theorem parts_holds {s : List UInt8} {codes : List Int} (hc : ∀ c ∈ tris s, c ∈ codes) : ∀ (l : List Rx) (cur : Option (List (List UInt8))) (i0 i j : Nat), (∀ x ∈ l, ∀ i j, i ≤ s.length → mtR x s i j → holdsN codes (rawR x) = true) → i0 ≤ i → i ≤ s.length →
    (∀ c, cur = some c → (cut s i0 i).map fld ∈ c) → mtCat l s i j → (partsR cur l).all (holdsN codes) = true
  | [], cur, i0, i, j, _, h0, hi, hm, _ => by
    unfold partsR flushS
    cases cur with
    | none => rfl
    | some c =>
      simp only [List.all_cons, List.all_nil, Bool.and_true]
      exact ofStr_holds hc h0 hi (hm c rfl)
  | x :: l, cur, i0, i, j, hl, h0, hi, hm, hr => by
    unfold mtCat at hr
    obtain ⟨m, h1, h2⟩ := hr
    have hle := mt_le x s i m hi h1
    have hl' : ∀ y ∈ l, ∀ i j, i ≤ s.length → mtR y s i j → holdsN codes (rawR y) = true := fun y hy => hl y (by simp [hy])
    cases hx : litR true x with
    | none =>
      rw [parts_none hx, List.all_append, List.all_cons, hl x (by simp) i m hi h1, parts_holds hc l none m m j hl' (Nat.le_refl _) hle.2 (fun c e => by cases e) h2]
      cases cur with
      | none => rfl
      | some c =>
        unfold flushS
        rw [List.all_cons, ofStr_holds hc h0 hi (hm c rfl)]
        rfl
    | some y =>
      have hy := lit_says true s x y hx i m hi h1
      have hy' : (cut s i m).map fld ∈ y := by rw [fb_true] at hy; exact hy
      cases cur with
      | none =>
        rw [parts_new hx]
        exact parts_holds hc l (some y) i m j hl' hle.1 hle.2 (fun c e => by cases e; exact hy') h2
      | some c =>
        cases hp : prodS c y with
        | some p =>
          rw [parts_more hx hp]
          refine parts_holds hc l (some p) i0 m j hl' (by omega) hle.2 (fun c' e => ?_) h2
          cases e
          refine ((prodS_some hp).2 _).2 ⟨_, hm c rfl, _, hy', ?_⟩
          rw [← List.map_append, cut_join h0 hle.1]
        | none =>
          rw [parts_cut hx hp, List.all_cons, ofStr_holds hc h0 hi (hm c rfl)]
          exact parts_holds hc l (some y) i m j hl' hle.1 hle.2 (fun c e => by cases e; exact hy') h2
/-- Where an expression matches, its raw condition holds. -/
theorem raw_holds {s : List UInt8} {codes : List Int} (hc : ∀ c ∈ tris s, c ∈ codes) (r : Rx) : ∀ i j, i ≤ s.length → mtR r s i j → holdsN codes (rawR r) = true := by
  induction r using Rx.ind with
  | h k set a b l ih =>
    intro i j hi hr
    have hle := mt_le _ s i j hi hr
    cases hx : litR true (.mk k set a b l) with
    | some L =>
      rw [raw_lit hx]
      have := lit_says true s _ L hx i j hi hr
      exact ofStr_holds hc hle.1 hle.2 (by rw [fb_true] at this; exact this)
    | none =>
      rw [raw_none hx]
      unfold mtR at hr
      by_cases h2 : k = 2
      · rw [if_pos h2] at hr ⊢
        rw [holds_and]
        exact parts_holds hc l none i i j ih (Nat.le_refl _) hi (fun c e => by cases e) hr
      rw [if_neg h2] at hr ⊢
      by_cases h3 : k = 3
      · rw [if_pos h3] at hr ⊢
        rw [holds_or, rawL_map, List.any_map, List.any_eq_true]
        obtain ⟨x, hx, hm⟩ := (mtAlt_mem s i j l).1 hr
        exact ⟨x, hx, ih x hx i j hi hm⟩
      rw [if_neg h3] at hr ⊢
      by_cases h4 : k = 4 ∧ 1 ≤ a
      · rw [if_pos h4.1] at hr
        rw [if_pos h4]
        obtain ⟨n, n1, -, n3⟩ := hr
        cases l with
        | nil => unfold rawOne; exact holds_all codes
        | cons x l =>
          have e : mtOne (x :: l) s = mtR x s := by funext p q; unfold mtOne; rfl
          rw [e] at n3
          unfold rawOne
          match n, n1, n3 with
          | 0, n1, _ => omega
          | n + 1, _, ⟨m, h5, _⟩ => exact ih x (by simp) i m hi h5
      · rw [if_neg h4]
        exact holds_all codes

/-! ### its form, its levels, its size -/
theorem tris_len (d : List UInt8) : (tris d).length = d.length - 2 := by unfold tris; simp
theorem andN_wf (s : List UInt8) : WfN (andN s) := by
  refine .op 4 _ (Or.inl rfl) fun x hx => ?_
  obtain ⟨c, hc, rfl⟩ := List.mem_map.1 hx
  unfold tris at hc
  obtain ⟨i, -, rfl⟩ := List.mem_map.1 hc
  have := tri_lt s i
  exact .gram _ this.1 this.2
theorem ofStr_wf (l : List (List UInt8)) : WfN (ofStr l) := .op 5 _ (Or.inr rfl) fun x hx => by
  obtain ⟨s, -, rfl⟩ := List.mem_map.1 hx
  exact andN_wf s
theorem flush_wf (cur : Option (List (List UInt8))) : ∀ n ∈ flushS cur, WfN n := by
  intro n hn
  cases cur with
  | none => cases hn
  | some c => rw [List.mem_singleton.1 hn]; exact ofStr_wf c
theorem parts_wf : ∀ (l : List Rx) (cur : Option (List (List UInt8))), (∀ x ∈ l, WfN (rawR x)) → ∀ n ∈ partsR cur l, WfN n
  | [], cur, _, n, hn => by rw [partsR] at hn; exact flush_wf cur n hn
  | x :: l, cur, hl, n, hn => by
    have hl' : ∀ y ∈ l, WfN (rawR y) := fun y hy => hl y (by simp [hy])
    cases hx : litR true x with
    | none =>
      rw [parts_none hx, List.mem_append, List.mem_cons] at hn
      rcases hn with hn | rfl | hn
      · exact flush_wf cur n hn
      · exact hl x (by simp)
      · exact parts_wf l none hl' n hn
    | some y =>
      cases cur with
      | none => rw [parts_new hx] at hn; exact parts_wf l _ hl' n hn
      | some c =>
        cases hp : prodS c y with
        | some p => rw [parts_more hx hp] at hn; exact parts_wf l _ hl' n hn
        | none =>
          rw [parts_cut hx hp, List.mem_cons] at hn
          rcases hn with rfl | hn
          · exact ofStr_wf c
          · exact parts_wf l _ hl' n hn
theorem raw_wf (r : Rx) : WfN (rawR r) := by
  induction r using Rx.ind with
  | h k set a b l ih =>
    cases hx : litR true (.mk k set a b l) with
    | some L => rw [raw_lit hx]; exact ofStr_wf L
    | none =>
      rw [raw_none hx]
      split
      · exact .op 4 _ (Or.inl rfl) (parts_wf l none ih)
      · split
        · refine .op 5 _ (Or.inr rfl) fun n hn => ?_
          rw [rawL_map] at hn
          obtain ⟨x, hx, rfl⟩ := List.mem_map.1 hn
          exact ih x hx
        · split
          · cases l with
            | nil => unfold rawOne; exact .all
            | cons x l => unfold rawOne; exact ih x (by simp)
          · exact .all
theorem depthN_mk (k g : Int) (l : List Nd) : depthN (.mk k g l) = depthNL l + 1 := by rw [depthN]
theorem sizeN_mk (k g : Int) (l : List Nd) : sizeN (.mk k g l) = 1 + sizeNL l := by rw [sizeN]
theorem andN_depth (s : List UInt8) : depthN (andN s) ≤ 2 := by
  unfold andN
  rw [depthN_mk]
  have : depthNL ((tris s).map fun c => Nd.mk 3 c []) ≤ 1 := depthNL_le fun x hx => by
    obtain ⟨c, -, rfl⟩ := List.mem_map.1 hx
    rw [depthN_mk]
    simp [depthNL]
  omega
theorem ofStr_depth (l : List (List UInt8)) : depthN (ofStr l) ≤ 3 := by
  unfold ofStr
  rw [depthN_mk]
  have : depthNL (l.map andN) ≤ 2 := depthNL_le fun x hx => by
    obtain ⟨s, -, rfl⟩ := List.mem_map.1 hx
    exact andN_depth s
  omega
theorem depthR_mk (k : Int) (set : List (UInt8 × UInt8)) (a b : Int) (l : List Rx) : depthR (.mk k set a b l) = depthL l + 1 := by rw [depthR]
theorem depthR_pos (r : Rx) : 0 < depthR r := by cases r; rw [depthR_mk]; omega
theorem depthL_mem' {x : Rx} : ∀ {l : List Rx}, x ∈ l → depthR x ≤ depthL l
  | y :: l, h => by
    unfold depthL
    rcases List.mem_cons.1 h with rfl | h
    · omega
    · have := depthL_mem' h; omega
theorem flush_depth (cur : Option (List (List UInt8))) : ∀ n ∈ flushS cur, depthN n ≤ 3 := by
  intro n hn
  cases cur with
  | none => cases hn
  | some c => rw [List.mem_singleton.1 hn]; exact ofStr_depth c
theorem parts_depth {N : Nat} (hN : 3 ≤ N) : ∀ (l : List Rx) (cur : Option (List (List UInt8))), (∀ x ∈ l, depthN (rawR x) ≤ N) → ∀ n ∈ partsR cur l, depthN n ≤ N
  | [], cur, _, n, hn => by rw [partsR] at hn; have := flush_depth cur n hn; omega
  | x :: l, cur, hl, n, hn => by
    have hl' : ∀ y ∈ l, depthN (rawR y) ≤ N := fun y hy => hl y (by simp [hy])
    cases hx : litR true x with
    | none =>
      rw [parts_none hx, List.mem_append, List.mem_cons] at hn
      rcases hn with hn | rfl | hn
      · have := flush_depth cur n hn; omega
      · exact hl x (by simp)
      · exact parts_depth hN l none hl' n hn
    | some y =>
      cases cur with
      | none => rw [parts_new hx] at hn; exact parts_depth hN l _ hl' n hn
      | some c =>
        cases hp : prodS c y with
        | some p => rw [parts_more hx hp] at hn; exact parts_depth hN l _ hl' n hn
        | none =>
          rw [parts_cut hx hp, List.mem_cons] at hn
          rcases hn with rfl | hn
          · have := ofStr_depth c; omega
          · exact parts_depth hN l _ hl' n hn
theorem raw_depth (r : Rx) : depthN (rawR r) ≤ depthR r + 2 := by
  induction r using Rx.ind with
  | h k set a b l ih =>
    have hp := depthR_pos (.mk k set a b l)
    cases hx : litR true (.mk k set a b l) with
    | some L => rw [raw_lit hx]; have := ofStr_depth L; omega
    | none =>
      have hd := depthR_mk k set a b l
      rw [raw_none hx]
      split
      · rw [depthN_mk]
        cases l with
        | nil => simp [partsR, flushS, depthNL]
        | cons x l =>
          have h1 := depthL_mem' (x := x) (l := x :: l) (by simp)
          have h2 := depthR_pos x
          have : depthNL (partsR none (x :: l)) ≤ depthL (x :: l) + 2 := depthNL_le (parts_depth (by omega) (x :: l) none fun y hy => Nat.le_trans (ih y hy) (by have := depthL_mem' hy; omega))
          omega
      · split
        · rw [depthN_mk, rawL_map]
          have : depthNL (l.map rawR) ≤ depthL l + 2 := depthNL_le fun n hn => by
            obtain ⟨x, hx, rfl⟩ := List.mem_map.1 hn
            have := ih x hx
            have := depthL_mem' hx
            omega
          omega
        · split
          · cases l with
            | nil => unfold rawOne; rw [depthN_mk]; simp [depthNL]
            | cons x l =>
              unfold rawOne
              have := ih x (by simp)
              have := depthL_mem' (x := x) (l := x :: l) (by simp)
              omega
          · rw [depthN_mk]; simp [depthNL]
theorem sizeNL_le {N : Nat} : ∀ {l : List Nd}, (∀ x ∈ l, sizeN x ≤ N) → sizeNL l ≤ N * l.length
  | [], _ => by simp [sizeNL]
  | x :: l, h => by
    rw [sizeNL_cons, List.length_cons, Nat.mul_succ]
    have h1 := h x (by simp)
    have h2 := sizeNL_le (l := l) fun y hy => h y (by simp [hy])
    omega
theorem andN_size {s : List UInt8} (h : s.length ≤ 16) : sizeN (andN s) ≤ 15 := by
  unfold andN
  rw [sizeN_mk]
  have : sizeNL ((tris s).map fun c => Nd.mk 3 c []) ≤ 1 * ((tris s).map fun c => Nd.mk 3 c []).length := sizeNL_le fun x hx => by
    obtain ⟨c, -, rfl⟩ := List.mem_map.1 hx
    rw [sizeN_mk]
    simp [sizeNL]
  rw [List.length_map, tris_len] at this
  omega
theorem ofStr_size {l : List (List UInt8)} (h : LitL l) : sizeN (ofStr l) ≤ 121 := by
  unfold ofStr
  rw [sizeN_mk]
  have : sizeNL (l.map andN) ≤ 15 * (l.map andN).length := sizeNL_le fun x hx => by
    obtain ⟨s, hs, rfl⟩ := List.mem_map.1 hx
    exact andN_size (h.2.2 s hs)
  rw [List.length_map] at this
  have := h.2.1
  omega
def openS (cur : Option (List (List UInt8))) : Nat := match cur with | none => 0 | some _ => 1
theorem sizeL_cons (x : Rx) (l : List Rx) : sizeL (x :: l) = sizeR x + sizeL l := by rw [sizeL]
theorem sizeR_mk (k : Int) (set : List (UInt8 × UInt8)) (a b : Int) (l : List Rx) : sizeR (.mk k set a b l) = 1 + sizeL l := by rw [sizeR]
theorem sizeR_pos (r : Rx) : 0 < sizeR r := by cases r; rw [sizeR_mk]; omega
theorem flush_size {cur : Option (List (List UInt8))} (h : ∀ c, cur = some c → LitL c) : sizeNL (flushS cur) ≤ 121 * openS cur := by
  cases cur with
  | none => simp [flushS, sizeNL]
  | some c =>
    have := ofStr_size (h c rfl)
    unfold flushS openS
    rw [sizeNL_cons]
    simp only [sizeNL]
    omega
theorem parts_size : ∀ (l : List Rx) (cur : Option (List (List UInt8))), (∀ x ∈ l, sizeN (rawR x) ≤ 121 * sizeR x) → (∀ c, cur = some c → LitL c) → sizeNL (partsR cur l) ≤ 121 * (openS cur + sizeL l)
  | [], cur, _, hc => by
    rw [partsR]
    have := flush_size hc
    simp only [sizeL]
    omega
  | x :: l, cur, hl, hc => by
    have hl' : ∀ y ∈ l, sizeN (rawR y) ≤ 121 * sizeR y := fun y hy => hl y (by simp [hy])
    have hpos := sizeR_pos x
    rw [sizeL_cons]
    cases hx : litR true x with
    | none =>
      rw [parts_none hx, sizeNL_app, sizeNL_cons]
      have h1 := flush_size hc
      have h2 := hl x (by simp)
      have h3 := parts_size l none hl' fun c e => by cases e
      rw [show openS none = 0 from rfl] at h3
      omega
    | some y =>
      have hy := litR_good x y hx
      cases cur with
      | none =>
        rw [parts_new hx]
        have h3 := parts_size l (some y) hl' fun c e => by cases e; exact hy
        rw [show openS (some y) = 1 from rfl] at h3
        rw [show openS none = 0 from rfl]
        omega
      | some c =>
        rw [show openS (some c) = 1 from rfl]
        cases hp : prodS c y with
        | some p =>
          rw [parts_more hx hp]
          have h3 := parts_size l (some p) hl' fun c e => by cases e; exact (prodS_some hp).1
          rw [show openS (some p) = 1 from rfl] at h3
          omega
        | none =>
          rw [parts_cut hx hp, sizeNL_cons]
          have h1 := ofStr_size (hc c rfl)
          have h3 := parts_size l (some y) hl' fun c e => by cases e; exact hy
          rw [show openS (some y) = 1 from rfl] at h3
          omega
theorem raw_size (r : Rx) : sizeN (rawR r) ≤ 121 * sizeR r := by
  induction r using Rx.ind with
  | h k set a b l ih =>
    rw [sizeR_mk]
    cases hx : litR true (.mk k set a b l) with
    | some L => rw [raw_lit hx]; have := ofStr_size (litR_good _ L hx); omega
    | none =>
      rw [raw_none hx]
      split
      · rw [sizeN_mk]
        have := parts_size l none ih fun c e => by cases e
        rw [show openS none = 0 from rfl] at this
        omega
      · split
        · rw [sizeN_mk, rawL_map]
          have : ∀ m : List Rx, (∀ x ∈ m, sizeN (rawR x) ≤ 121 * sizeR x) → sizeNL (m.map rawR) ≤ 121 * sizeL m := by
            intro m
            induction m with
            | nil => simp [sizeNL]
            | cons x m im =>
              intro h
              rw [List.map_cons, sizeNL_cons, sizeL_cons]
              have h1 := h x (by simp)
              have h2 := im fun y hy => h y (by simp [hy])
              omega
          have := this l ih
          omega
        · split
          · cases l with
            | nil => unfold rawOne; rw [sizeN_mk]; simp only [sizeNL]; omega
            | cons x l =>
              unfold rawOne
              have := ih x (by simp)
              rw [sizeL_cons]
              omega
          · rw [sizeN_mk]; simp only [sizeNL]; omega

/-! ### folding an expression leaves its condition -/
theorem fld_oth (c : UInt8) : fld (othB c) = fld c := by
  unfold othB
  split
  · rename_i h
    have : (UInt8.ofNat (c.toNat - 32)).toNat = c.toNat - 32 := by simp; omega
    apply UInt8.toNat_inj.1
    have h1 := fld_up (UInt8.ofNat (c.toNat - 32)) (by omega)
    rw [fld_low c (by omega)]
    omega
  · split
    · rename_i h1 h
      have : (UInt8.ofNat (c.toNat + 32)).toNat = c.toNat + 32 := by simp; omega
      apply UInt8.toNat_inj.1
      have h1 := fld_up c h
      rw [fld_low (UInt8.ofNat (c.toNat + 32)) (by omega)]
      omega
    · rfl
theorem bytes_fold (set : List (UInt8 × UInt8)) : bytesS (foldSet set) true = bytesS set true := by
  have e : byteL (foldSet set) true 256 = byteL set true 256 := by
    refine srt_ext (byteL_srt _ _ _) (byteL_srt _ _ _) fun y => ?_
    rw [byteL_mem _ _ y 256 (Nat.le_refl _), byteL_mem _ _ y 256 (Nat.le_refl _)]
    constructor
    · rintro ⟨c, h1, h2, rfl⟩
      rw [has_foldSet, Bool.or_eq_true] at h2
      rcases h2 with h2 | h2
      · exact ⟨c, h1, h2, rfl⟩
      · exact ⟨othB c, (othB c).toNat_lt, h2, by simp [fb, fld_oth]⟩
    · rintro ⟨c, h1, h2, rfl⟩
      exact ⟨c, h1, by rw [has_foldSet, h2]; rfl, rfl⟩
  unfold bytesS
  rw [e]
theorem foldL_map : ∀ l : List Rx, foldL l = l.map foldR
  | [] => by rw [foldL]; rfl
  | x :: l => by rw [foldL, foldL_map l]; rfl
theorem litCat_fold : ∀ (l : List Rx) (acc : List (List UInt8)), (∀ x ∈ l, litR true (foldR x) = litR true x) → litCat true acc (l.map foldR) = litCat true acc l
  | [], _, _ => rfl
  | x :: l, acc, h => by
    rw [List.map_cons, litCat, litCat, h x (by simp)]
    congr 1
    funext y
    congr 1
    funext p
    exact litCat_fold l p fun z hz => h z (by simp [hz])
theorem litAlt_fold : ∀ (l : List Rx) (acc : List (List UInt8)), (∀ x ∈ l, litR true (foldR x) = litR true x) → litAlt true acc (l.map foldR) = litAlt true acc l
  | [], _, _ => rfl
  | x :: l, acc, h => by
    rw [List.map_cons, litAlt, litAlt, h x (by simp)]
    congr 1
    funext y
    congr 1
    funext p
    exact litAlt_fold l p fun z hz => h z (by simp [hz])
theorem lit_fold (r : Rx) : litR true (foldR r) = litR true r := by
  induction r using Rx.ind with
  | h k set a b l ih =>
    rw [foldR, litR, litR, foldL_map, litCat_fold l _ ih, litAlt_fold l _ ih]
    by_cases h1 : k = 1
    · rw [if_pos h1, if_pos h1, if_pos h1, bytes_fold]
    · rw [if_neg h1, if_neg h1]
      have e : litOne true (l.map foldR) = litOne true l := by
        cases l with
        | nil => rfl
        | cons x l => rw [List.map_cons, litOne, litOne, ih x (by simp)]
      rw [e]
theorem parts_fold : ∀ (l : List Rx) (cur : Option (List (List UInt8))), (∀ x ∈ l, rawR (foldR x) = rawR x) → partsR cur (l.map foldR) = partsR cur l
  | [], cur, _ => rfl
  | x :: l, cur, h => by
    have hl := fun c => parts_fold l c fun z hz => h z (by simp [hz])
    have hf := lit_fold x
    rw [List.map_cons]
    cases hx : litR true x with
    | none => rw [parts_none hx, parts_none (hf.trans hx), h x (by simp), hl]
    | some y =>
      cases cur with
      | none => rw [parts_new hx, parts_new (hf.trans hx), hl]
      | some c =>
        cases hp : prodS c y with
        | some p => rw [parts_more hx hp, parts_more (hf.trans hx) hp, hl]
        | none => rw [parts_cut hx hp, parts_cut (hf.trans hx) hp, hl]
theorem raw_fold (r : Rx) : rawR (foldR r) = rawR r := by
  induction r using Rx.ind with
  | h k set a b l ih =>
    have hf := lit_fold (.mk k set a b l)
    cases hx : litR true (.mk k set a b l) with
    | some L => rw [raw_lit hx, raw_lit (hf.trans hx)]
    | none =>
      have hx2 := hf.trans hx
      rw [foldR] at hx2 ⊢
      rw [raw_none hx, raw_none hx2, foldL_map, parts_fold l none ih, rawL_map, rawL_map, List.map_map]
      have e1 : l.map (rawR ∘ foldR) = l.map rawR := List.map_congr_left fun x hx => ih x hx
      have e2 : rawOne (l.map foldR) = rawOne l := by
        cases l with
        | nil => rfl
        | cons x l => rw [List.map_cons, rawOne, rawOne, ih x (by simp)]
      rw [e1, e2]

/-! ### the condition -/
theorem need_right (r : Rx) : rightN 1 (needS r) = true := by
  unfold needS
  split
  · rename_i h
    have h1 := (right_node h).2.2
    have h2 := raw_depth r
    have h3 := simp_depth (rawR r)
    exact nm_right (simp_nm (raw_wf r)) 1 (by omega)
  · exact nm_right .all 1 (by unfold depthN depthNL; omega)
theorem need_own (r : Rx) : simplifyS (needS r) = needS r := by
  have h1 := need_right r
  rw [show simplifyS (needS r) = simpN (needS r) from by rw [simplifyS, if_pos h1]]
  unfold needS
  split
  · exact simp_simp (raw_wf r)
  · exact simp_leaf (by omega)
theorem need_fold {r : Rx} (h : rightR r = 0) : needS (foldR r) = needS r := by
  unfold needS
  rw [if_pos h, if_pos (right_fold r h), raw_fold]
/-- No text in which an expression matches is missed by its condition. -/
theorem need_sound {r : Rx} (h : rightR r = 0) (s : List UInt8) (i j : Nat) (hi : i ≤ s.length) (hm : mtR r s i j) : evalS (needS r) (ofS s) = true := by
  unfold evalS
  rw [need_right r]
  unfold needS
  rw [if_pos h, simp_holds _ (raw_wf r), raw_holds (fun c hc => ?_) r i j hi hm]
  · rfl
  · unfold tris at hc
    obtain ⟨k, hk, rfl⟩ := List.mem_map.1 hc
    rw [List.mem_range] at hk
    exact (mem_of s _).2 ⟨k, by omega, rfl⟩
theorem need_size {r : Rx} (h : rightR r = 0) : sizeN (needS r) ≤ 4840 := by
  have h1 := (right_node h).2.1
  have h2 := raw_size r
  have h3 := simp_size (rawR r)
  unfold needS
  rw [if_pos h]
  omega
/-- A literal is matched as a whole, and what is so is one. -/
theorem whole_lit {r : Rx} {p : List (List UInt8)} (h : litR false r = some p) (s : List UInt8) : s ∈ p ↔ mtR r s 0 s.length := by
  have e : cut s 0 s.length = s := by unfold cut; simp
  constructor
  · intro hm
    exact lit_tells s r p h 0 s.length (by omega) (Nat.le_refl _) (by rw [e]; exact hm)
  · intro hr
    have := lit_says false s r p h 0 s.length (by omega) hr
    rw [e, fb_false] at this
    simpa using this
end Go.Proofs.YtlnbjdlooghpeaaGreatDoor
