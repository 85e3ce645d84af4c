/- Layer 10: conditions on trigrams, on plain data. -/
import Init.Data.List.Lemmas
namespace Go.Proofs.YtlnbjdlooghpeaaGreatDoor

/-- A condition. -/
inductive Nd where
  | mk (kind gram : Int) (subs : List Nd)
def Nd.kind : Nd → Int
  | .mk k _ _ => k
def Nd.gram : Nd → Int
  | .mk _ g _ => g
def Nd.subs : Nd → List Nd
  | .mk _ _ l => l
theorem Nd.ind {P : Nd → Prop} (h : ∀ k g l, (∀ x ∈ l, P x) → P (.mk k g l)) : ∀ n, P n
  | .mk k g l => h k g l fun x _hx => Nd.ind h x
termination_by n => sizeOf n
decreasing_by
  have := List.sizeOf_lt_of_mem _hx
  simp
  omega

mutual
def sizeN : Nd → Nat
  | .mk _ _ l => 1 + sizeNL l
def sizeNL : List Nd → Nat
  | [] => 0
  | x :: l => sizeN x + sizeNL l
end
mutual
def depthN : Nd → Nat
  | .mk _ _ l => depthNL l + 1
def depthNL : List Nd → Nat
  | [] => 0
  | x :: l => max (depthN x) (depthNL l)
end
mutual
def sameN : Nd → Nd → Bool
  | .mk k g l, .mk k' g' l' => decide (k = k') && decide (g = g') && sameNL l l'
def sameNL : List Nd → List Nd → Bool
  | [], [] => true
  | x :: l, y :: m => sameN x y && sameNL l m
  | _, _ => false
end
theorem sameNL_iff_of {l : List Nd} (h : ∀ x ∈ l, ∀ y, sameN x y = true ↔ x = y) : ∀ m, sameNL l m = true ↔ l = m := by
  induction l with
  | nil => intro m; cases m <;> simp [sameNL]
  | cons x l ih =>
    intro m
    cases m with
    | nil => simp [sameNL]
    | cons y m =>
      unfold sameNL
      rw [Bool.and_eq_true, h x (by simp) y, ih (fun z hz => h z (by simp [hz])) m]
      simp
theorem sameN_iff : ∀ x y : Nd, sameN x y = true ↔ x = y := by
  intro x
  induction x using Nd.ind with
  | h k g l ih =>
    intro y
    cases y with
    | mk k' g' l' =>
      unfold sameN
      rw [Bool.and_eq_true, Bool.and_eq_true, decide_eq_true_eq, decide_eq_true_eq, sameNL_iff_of ih l']
      simp [and_assoc]
instance : DecidableEq Nd := fun x y => if h : sameN x y = true then isTrue ((sameN_iff x y).1 h) else isFalse fun e => h ((sameN_iff x y).2 e)
theorem sameN_dec (x y : Nd) : sameN x y = decide (x = y) := by rw [Bool.eq_iff_iff, sameN_iff, decide_eq_true_eq]
theorem sizeNL_cons (x : Nd) (l : List Nd) : sizeNL (x :: l) = sizeN x + sizeNL l := by rw [sizeNL]
theorem sizeN_pos (n : Nd) : 0 < sizeN n := by cases n; unfold sizeN; omega
theorem sizeNL_mem {x : Nd} : ∀ {l : List Nd}, x ∈ l → sizeN x ≤ sizeNL l
  | y :: l, h => by
    unfold sizeNL
    rcases List.mem_cons.1 h with rfl | h
    · omega
    · have := sizeNL_mem h; omega
theorem sizeNL_app (l m : List Nd) : sizeNL (l ++ m) = sizeNL l + sizeNL m := by
  induction l with
  | nil => simp [sizeNL]
  | cons x l ih => rw [List.cons_append, sizeNL_cons, sizeNL_cons, ih]; omega
theorem sizeNL_len (l : List Nd) : l.length ≤ sizeNL l := by
  induction l with
  | nil => simp
  | cons x l ih => unfold sizeNL; have := sizeN_pos x; simp; omega
theorem sizeNL_split {l : List Nd} {k : Nat} {x : Nd} (h : l[k]? = some x) : sizeNL (l.take (k + 1)) = sizeNL (l.take k) + sizeN x := by
  have hk := (List.getElem?_eq_some_iff.1 h).1
  rw [List.take_succ_eq_append_getElem hk, (List.getElem?_eq_some_iff.1 h).2, sizeNL_app]
  simp [sizeNL]
theorem sizeNL_take (l : List Nd) (k : Nat) : sizeNL (l.take k) ≤ sizeNL l := by
  have : sizeNL l = sizeNL (l.take k) + sizeNL (l.drop k) := by rw [← sizeNL_app, List.take_append_drop]
  omega
theorem depthNL_mem {x : Nd} : ∀ {l : List Nd}, x ∈ l → depthN x ≤ depthNL l
  | y :: l, h => by
    unfold depthNL
    rcases List.mem_cons.1 h with rfl | h
    · omega
    · have := depthNL_mem h; omega
theorem depthNL_le {N : Nat} : ∀ {l : List Nd}, (∀ x ∈ l, depthN x ≤ N) → depthNL l ≤ N
  | [], _ => by simp [depthNL]
  | y :: l, h => by
    unfold depthNL
    have h1 := h y (by simp)
    have h2 := depthNL_le (l := l) fun x hx => h x (by simp [hx])
    omega
theorem depthN_pos (n : Nd) : 0 < depthN n := by cases n; unfold depthN; omega

/-! ### valid conditions, and whether they hold -/
mutual
/-- Whether a node at a level, and all below it, is valid. -/
def rightN (lv : Nat) : Nd → Bool
  | .mk k g l => if 40 < lv ∨ k < 1 ∨ 5 < k then false else if k = 3 then decide (0 ≤ g) && decide (g < 16777216) && decide (l.length = 0) else if g ≠ 0 then false else if k = 1 ∨ k = 2 then decide (l.length = 0) else rightNL (lv + 1) l && decide (2 ≤ l.length)
def rightNL (lv : Nat) : List Nd → Bool
  | [] => true
  | x :: l => rightN lv x && rightNL lv l
end
mutual
def holdsN (codes : List Int) : Nd → Bool
  | .mk k g l => if k = 3 then decide (g ∈ codes) else if k = 5 then anyN codes l else allN' codes l && (decide (k = 1) || decide (k = 4))
def anyN (codes : List Int) : List Nd → Bool
  | [] => false
  | x :: l => holdsN codes x || anyN codes l
def allN' (codes : List Int) : List Nd → Bool
  | [] => true
  | x :: l => holdsN codes x && allN' codes l
end
theorem anyN_eq (codes : List Int) : ∀ l, anyN codes l = l.any (holdsN codes)
  | [] => rfl
  | x :: l => by unfold anyN; rw [List.any_cons, anyN_eq codes l]
theorem allN_eq (codes : List Int) : ∀ l, allN' codes l = l.all (holdsN codes)
  | [] => rfl
  | x :: l => by unfold allN'; rw [List.all_cons, allN_eq codes l]
theorem rightNL_eq (lv : Nat) : ∀ l, rightNL lv l = l.all (rightN lv)
  | [] => rfl
  | x :: l => by unfold rightNL; rw [List.all_cons, rightNL_eq lv l]

/-- Well-formed: operators may have any number of subs. -/
inductive WfN : Nd → Prop
  | gram (g : Int) : 0 ≤ g → g < 16777216 → WfN (.mk 3 g [])
  | all : WfN (.mk 1 0 [])
  | none : WfN (.mk 2 0 [])
  | op (k : Int) (l : List Nd) : k = 4 ∨ k = 5 → (∀ x ∈ l, WfN x) → WfN (.mk k 0 l)
/-- Normal: its own simplest form. -/
inductive NmN : Nd → Prop
  | gram (g : Int) : 0 ≤ g → g < 16777216 → NmN (.mk 3 g [])
  | all : NmN (.mk 1 0 [])
  | none : NmN (.mk 2 0 [])
  | op (k : Int) (l : List Nd) : k = 4 ∨ k = 5 → 2 ≤ l.length → l.Nodup → (∀ x ∈ l, NmN x) → (∀ x ∈ l, x.kind ≠ k ∧ x.kind ≠ 1 ∧ x.kind ≠ 2) → NmN (.mk k 0 l)
theorem NmN.wf {n : Nd} (h : NmN n) : WfN n := by
  induction h with
  | gram g a b => exact .gram g a b
  | all => exact .all
  | none => exact .none
  | op k l hk _ _ _ _ ih => exact .op k l hk ih
theorem right_wf (n : Nd) : ∀ lv, rightN lv n = true → WfN n ∧ depthN n + lv ≤ 41 := by
  induction n using Nd.ind with
  | h k g l ih =>
    intro lv h
    unfold rightN at h
    by_cases h0 : 40 < lv ∨ k < 1 ∨ 5 < k
    · rw [if_pos h0] at h; cases h
    rw [if_neg h0] at h
    by_cases h3 : k = 3
    · rw [if_pos h3] at h
      simp only [Bool.and_eq_true, decide_eq_true_eq] at h
      obtain rfl := List.eq_nil_of_length_eq_zero h.2
      subst h3
      exact ⟨.gram g h.1.1 h.1.2, by unfold depthN depthNL; omega⟩
    rw [if_neg h3] at h
    by_cases hg : g ≠ 0
    · rw [if_pos hg] at h; cases h
    rw [if_neg hg] at h
    obtain rfl : g = 0 := by omega
    by_cases h12 : k = 1 ∨ k = 2
    · rw [if_pos h12, decide_eq_true_eq] at h
      obtain rfl := List.eq_nil_of_length_eq_zero h
      refine ⟨?_, by unfold depthN depthNL; omega⟩
      rcases h12 with rfl | rfl
      · exact .all
      · exact .none
    rw [if_neg h12, Bool.and_eq_true, rightNL_eq, List.all_eq_true, decide_eq_true_eq] at h
    refine ⟨.op k l (by omega) fun x hx => (ih x hx _ (h.1 x hx)).1, ?_⟩
    have hd : depthNL l ≤ 40 - lv := depthNL_le fun x hx => by have := (ih x hx _ (h.1 x hx)).2; omega
    unfold depthN
    omega
theorem nm_right {n : Nd} (h : NmN n) : ∀ lv, depthN n + lv ≤ 41 → rightN lv n = true := by
  induction h with
  | gram g a b =>
    intro lv hl
    unfold depthN depthNL at hl
    unfold rightN
    rw [if_neg (by omega), if_pos rfl]
    simp [a, b]
  | all =>
    intro lv hl
    unfold depthN depthNL at hl
    unfold rightN
    rw [if_neg (by omega)]
    simp
  | none =>
    intro lv hl
    unfold depthN depthNL at hl
    unfold rightN
    rw [if_neg (by omega)]
    simp
  | op k l hk hl hnd hs hks ih =>
    intro lv hd
    unfold depthN at hd
    unfold rightN
    rw [if_neg (by omega), if_neg (by omega), if_neg (by omega), if_neg (by omega), Bool.and_eq_true, rightNL_eq, List.all_eq_true, decide_eq_true_eq]
    exact ⟨fun x hx => ih x hx _ (by have := depthNL_mem hx; omega), hl⟩

/-! ### the simplest form -/
def onceN (l : List Nd) (x : Nd) : List Nd := if x ∈ l then l else l ++ [x]
def skipK (k : Int) : Int := if k = 5 then 2 else 1
def endK (k : Int) : Int := if k = 5 then 1 else 2
def addN (k : Int) (acc : List Nd) (x : Nd) : List Nd := if x.kind = k then x.subs.foldl onceN acc else if x.kind = skipK k then acc else onceN acc x
def closeN (k : Int) (r : List Nd) : Nd :=
  if r.any (fun x => decide (x.kind = endK k)) then .mk (endK k) 0 [] else if r.length = 0 then .mk (skipK k) 0 [] else if r.length = 1 then r.headD (.mk 1 0 []) else .mk k 0 r
mutual
def simpN : Nd → Nd
  | .mk k g l => if k = 4 ∨ k = 5 then closeN k (simpL k [] l) else .mk k g l
def simpL (k : Int) (acc : List Nd) : List Nd → List Nd
  | [] => acc
  | n :: l => simpL k (addN k acc (simpN n)) l
end
theorem simpL_eq (k : Int) : ∀ (l acc : List Nd), simpL k acc l = l.foldl (fun acc n => addN k acc (simpN n)) acc
  | [], _ => rfl
  | n :: l, acc => by unfold simpL; rw [List.foldl_cons, simpL_eq k l]
theorem simp_leaf {k g : Int} {l : List Nd} (h : ¬ (k = 4 ∨ k = 5)) : simpN (.mk k g l) = .mk k g l := by unfold simpN; rw [if_neg h]
theorem simp_op {k g : Int} {l : List Nd} (h : k = 4 ∨ k = 5) : simpN (.mk k g l) = closeN k (simpL k [] l) := by rw [simpN, if_pos h]

theorem once_mem (l : List Nd) (x y : Nd) : y ∈ onceN l x ↔ y ∈ l ∨ y = x := by
  unfold onceN
  split
  · rename_i h
    exact ⟨Or.inl, fun h2 => h2.elim id fun e => by rw [e]; exact h⟩
  · simp
theorem once_nodup {l : List Nd} (h : l.Nodup) (x : Nd) : (onceN l x).Nodup := by
  unfold onceN
  split
  · exact h
  · rename_i hx
    rw [List.nodup_append]
    exact ⟨h, by simp, fun a ha b hb e => by simp at hb; subst hb; subst e; exact hx ha⟩
theorem onces_mem : ∀ (xs l : List Nd) (y : Nd), y ∈ xs.foldl onceN l ↔ y ∈ l ∨ y ∈ xs
  | [], l, y => by simp
  | x :: xs, l, y => by
    rw [List.foldl_cons, onces_mem xs, once_mem]
    simp [or_assoc]
theorem onces_nodup : ∀ (xs : List Nd) {l : List Nd}, l.Nodup → (xs.foldl onceN l).Nodup
  | [], _, h => h
  | x :: xs, _, h => onces_nodup xs (once_nodup h x)
theorem once_size (l : List Nd) (x : Nd) : sizeNL (onceN l x) ≤ sizeNL l + sizeN x := by
  unfold onceN
  split
  · omega
  · rw [sizeNL_app]; simp [sizeNL]
theorem onces_size : ∀ (xs l : List Nd), sizeNL (xs.foldl onceN l) ≤ sizeNL l + sizeNL xs
  | [], l => by simp [sizeNL]
  | x :: xs, l => by
    rw [List.foldl_cons]
    have h1 := onces_size xs (onceN l x)
    have h2 := once_size l x
    rw [sizeNL_cons]
    omega

/-- What the list that is gathered keeps. -/
def GoodL (k : Int) (acc : List Nd) : Prop := acc.Nodup ∧ ∀ x ∈ acc, NmN x ∧ x.kind ≠ k ∧ x.kind ≠ skipK k
theorem nm_subs {n : Nd} (h : NmN n) (hk : n.kind = 4 ∨ n.kind = 5) : n.subs.Nodup ∧ ∀ x ∈ n.subs, NmN x ∧ x.kind ≠ n.kind ∧ x.kind ≠ 1 ∧ x.kind ≠ 2 := by
  cases h with
  | gram g a b => simp [Nd.kind] at hk
  | all => simp [Nd.kind] at hk
  | none => simp [Nd.kind] at hk
  | op k l h1 h2 h3 h4 h5 => exact ⟨h3, fun x hx => ⟨h4 x hx, h5 x hx⟩⟩
theorem add_good {k : Int} (hk : k = 4 ∨ k = 5) {acc : List Nd} (h : GoodL k acc) {x : Nd} (hx : NmN x) : GoodL k (addN k acc x) := by
  unfold addN
  split
  · rename_i he
    obtain ⟨h1, h2⟩ := nm_subs hx (by omega)
    refine ⟨onces_nodup _ h.1, fun y hy => ?_⟩
    rcases (onces_mem _ _ y).1 hy with hy | hy
    · exact h.2 y hy
    · obtain ⟨h3, h4, h5, h6⟩ := h2 y hy
      refine ⟨h3, by omega, ?_⟩
      unfold skipK
      split <;> assumption
  · rename_i he
    split
    · exact h
    · rename_i hs
      refine ⟨once_nodup h.1 x, fun y hy => ?_⟩
      rcases (once_mem _ _ y).1 hy with hy | rfl
      · exact h.2 y hy
      · exact ⟨hx, he, hs⟩
theorem simpL_good {k : Int} (hk : k = 4 ∨ k = 5) : ∀ (l acc : List Nd), (∀ n ∈ l, NmN (simpN n)) → GoodL k acc → GoodL k (simpL k acc l)
  | [], _, _, h => h
  | n :: l, acc, hl, h => by
    unfold simpL
    exact simpL_good hk l _ (fun m hm => hl m (by simp [hm])) (add_good hk h (hl n (by simp)))
theorem close_nm {k : Int} (hk : k = 4 ∨ k = 5) {r : List Nd} (h : GoodL k r) : NmN (closeN k r) := by
  unfold closeN
  split
  · unfold endK
    split
    · exact .all
    · exact .none
  · rename_i he
    split
    · unfold skipK
      split
      · exact .none
      · exact .all
    · split
      · rename_i h0 h1
        cases r with
        | nil => simp at h1
        | cons x m => exact (h.2 x (by simp)).1
      · rename_i h0 h1
        refine .op k r hk (by omega) h.1 (fun x hx => (h.2 x hx).1) fun x hx => ⟨(h.2 x hx).2.1, ?_, ?_⟩
        · intro e
          rcases hk with rfl | rfl
          · exact (h.2 x hx).2.2 (by rw [e]; rfl)
          · exact he (List.any_eq_true.2 ⟨x, hx, by rw [e]; rfl⟩)
        · intro e
          rcases hk with rfl | rfl
          · exact he (List.any_eq_true.2 ⟨x, hx, by rw [e]; rfl⟩)
          · exact (h.2 x hx).2.2 (by rw [e]; rfl)
/-- The simplest form is normal. -/
theorem simp_nm {n : Nd} (h : WfN n) : NmN (simpN n) := by
  induction h with
  | gram g a b => rw [simp_leaf (by omega)]; exact .gram g a b
  | all => rw [simp_leaf (by omega)]; exact .all
  | none => rw [simp_leaf (by omega)]; exact .none
  | op k l hk _ ih =>
    rw [simp_op hk]
    exact close_nm hk (simpL_good hk l [] ih ⟨List.nodup_nil, fun x hx => by cases hx⟩)
theorem simpL_norm {k : Int} : ∀ (l acc : List Nd), (acc ++ l).Nodup → (∀ x ∈ l, simpN x = x ∧ x.kind ≠ k ∧ x.kind ≠ skipK k) → simpL k acc l = acc ++ l
  | [], acc, _, _ => by simp [simpL]
  | n :: l, acc, hnd, hl => by
    obtain ⟨h1, h2, h3⟩ := hl n (by simp)
    have hn : n ∉ acc := fun hm => by
      rw [List.nodup_append] at hnd
      exact hnd.2.2 n hm n (by simp) rfl
    unfold simpL
    rw [h1]
    have ha : addN k acc n = acc ++ [n] := by
      unfold addN onceN
      rw [if_neg h2, if_neg h3, if_neg hn]
    rw [ha, simpL_norm l (acc ++ [n]) (by simpa using hnd) fun x hx => hl x (by simp [hx])]
    simp
theorem kinds_off {k : Int} {l : List Nd} (h : ∀ x ∈ l, x.kind ≠ k ∧ x.kind ≠ 1 ∧ x.kind ≠ 2) : l.any (fun x => decide (x.kind = endK k)) = false := by
  rw [List.any_eq_false]
  intro x hx
  rw [decide_eq_true_eq]
  unfold endK
  have := h x hx
  split <;> omega
/-- A normal condition is its own simplest form. -/
theorem simp_own {n : Nd} (h : NmN n) : simpN n = n := by
  induction h with
  | gram g a b => rw [simp_leaf (by omega)]
  | all => rw [simp_leaf (by omega)]
  | none => rw [simp_leaf (by omega)]
  | op k l hk hl hnd hs hks ih =>
    rw [simp_op hk, simpL_norm l [] (by simpa using hnd) fun x hx => ⟨ih x hx, (hks x hx).1, by unfold skipK; have := hks x hx; split <;> omega⟩]
    unfold closeN
    rw [List.nil_append, kinds_off hks, if_neg (by simp), if_neg (by omega), if_neg (by omega)]
theorem simp_simp {n : Nd} (h : WfN n) : simpN (simpN n) = simpN n := simp_own (simp_nm h)

/-! ### the same for the same trigrams -/
theorem holds_all (c : List Int) : holdsN c (.mk 1 0 []) = true := by unfold holdsN allN'; simp
theorem holds_none (c : List Int) : holdsN c (.mk 2 0 []) = false := by unfold holdsN allN'; simp
theorem holds_and (c : List Int) (l : List Nd) : holdsN c (.mk 4 0 l) = l.all (holdsN c) := by
  unfold holdsN
  rw [if_neg (by decide), if_neg (by decide), allN_eq]
  simp
theorem holds_or (c : List Int) (l : List Nd) : holdsN c (.mk 5 0 l) = l.any (holdsN c) := by
  unfold holdsN
  rw [if_neg (by decide), if_pos rfl, anyN_eq]
theorem holds_gram (c : List Int) (g : Int) (l : List Nd) : holdsN c (.mk 3 g l) = decide (g ∈ c) := by unfold holdsN; rw [if_pos rfl]
theorem nm_kind1 {n : Nd} (h : NmN n) (hk : n.kind = 1) : n = .mk 1 0 [] := by
  cases h with
  | gram g a b => simp [Nd.kind] at hk
  | all => rfl
  | none => simp [Nd.kind] at hk
  | op k l h1 _ _ _ _ => simp [Nd.kind] at hk; omega
theorem nm_kind2 {n : Nd} (h : NmN n) (hk : n.kind = 2) : n = .mk 2 0 [] := by
  cases h with
  | gram g a b => simp [Nd.kind] at hk
  | all => simp [Nd.kind] at hk
  | none => rfl
  | op k l h1 _ _ _ _ => simp [Nd.kind] at hk; omega
theorem nm_and {n : Nd} (h : NmN n) (hk : n.kind = 4) : n = .mk 4 0 n.subs := by
  cases h with
  | gram g a b => simp [Nd.kind] at hk
  | all => simp [Nd.kind] at hk
  | none => simp [Nd.kind] at hk
  | op k l h1 _ _ _ _ => simp only [Nd.kind] at hk; subst hk; rfl
theorem nm_or {n : Nd} (h : NmN n) (hk : n.kind = 5) : n = .mk 5 0 n.subs := by
  cases h with
  | gram g a b => simp [Nd.kind] at hk
  | all => simp [Nd.kind] at hk
  | none => simp [Nd.kind] at hk
  | op k l h1 _ _ _ _ => simp only [Nd.kind] at hk; subst hk; rfl
theorem onces_all (p : Nd → Bool) (xs l : List Nd) : (xs.foldl onceN l).all p = (l.all p && xs.all p) := by
  rw [Bool.eq_iff_iff, Bool.and_eq_true, List.all_eq_true, List.all_eq_true, List.all_eq_true]
  exact ⟨fun h => ⟨fun x hx => h x ((onces_mem _ _ x).2 (Or.inl hx)), fun x hx => h x ((onces_mem _ _ x).2 (Or.inr hx))⟩, fun ⟨h1, h2⟩ x hx => ((onces_mem _ _ x).1 hx).elim (h1 x) (h2 x)⟩
theorem onces_any (p : Nd → Bool) (xs l : List Nd) : (xs.foldl onceN l).any p = (l.any p || xs.any p) := by
  rw [Bool.eq_iff_iff, Bool.or_eq_true, List.any_eq_true, List.any_eq_true, List.any_eq_true]
  constructor
  · rintro ⟨x, hx, h⟩
    rcases (onces_mem _ _ x).1 hx with hx | hx
    · exact Or.inl ⟨x, hx, h⟩
    · exact Or.inr ⟨x, hx, h⟩
  · rintro (⟨x, hx, h⟩ | ⟨x, hx, h⟩)
    · exact ⟨x, (onces_mem _ _ x).2 (Or.inl hx), h⟩
    · exact ⟨x, (onces_mem _ _ x).2 (Or.inr hx), h⟩
theorem once_fold (l : List Nd) (x : Nd) : onceN l x = [x].foldl onceN l := rfl
theorem add_and (c : List Int) (acc : List Nd) {x : Nd} (hx : NmN x) : (addN 4 acc x).all (holdsN c) = (acc.all (holdsN c) && holdsN c x) := by
  unfold addN
  split
  · rename_i he
    rw [onces_all]
    conv => rhs; rw [nm_and hx he, holds_and]
  · split
    · rename_i _ hs
      rw [nm_kind1 hx (by simpa [skipK] using hs), holds_all]
      simp
    · rw [once_fold, onces_all]; simp
theorem add_or (c : List Int) (acc : List Nd) {x : Nd} (hx : NmN x) : (addN 5 acc x).any (holdsN c) = (acc.any (holdsN c) || holdsN c x) := by
  unfold addN
  split
  · rename_i he
    rw [onces_any]
    conv => rhs; rw [nm_or hx he, holds_or]
  · split
    · rename_i _ hs
      rw [nm_kind2 hx (by simpa [skipK] using hs), holds_none]
      simp
    · rw [once_fold, onces_any]; simp
theorem simpL_and (c : List Int) : ∀ (l acc : List Nd), (∀ n ∈ l, NmN (simpN n) ∧ holdsN c (simpN n) = holdsN c n) → (simpL 4 acc l).all (holdsN c) = (acc.all (holdsN c) && l.all (holdsN c))
  | [], acc, _ => by simp [simpL]
  | n :: l, acc, h => by
    unfold simpL
    rw [simpL_and c l _ fun m hm => h m (by simp [hm]), add_and c acc (h n (by simp)).1, (h n (by simp)).2, List.all_cons, Bool.and_assoc]
theorem simpL_or (c : List Int) : ∀ (l acc : List Nd), (∀ n ∈ l, NmN (simpN n) ∧ holdsN c (simpN n) = holdsN c n) → (simpL 5 acc l).any (holdsN c) = (acc.any (holdsN c) || l.any (holdsN c))
  | [], acc, _ => by simp [simpL]
  | n :: l, acc, h => by
    unfold simpL
    rw [simpL_or c l _ fun m hm => h m (by simp [hm]), add_or c acc (h n (by simp)).1, (h n (by simp)).2, List.any_cons, Bool.or_assoc]
theorem close_and (c : List Int) {r : List Nd} (h : ∀ x ∈ r, NmN x) : holdsN c (closeN 4 r) = r.all (holdsN c) := by
  unfold closeN
  split
  · rename_i he
    obtain ⟨x, hx, hk⟩ := List.any_eq_true.1 he
    have e := nm_kind2 (h x hx) (by simpa [endK] using hk)
    rw [show endK 4 = 2 from rfl, holds_none]
    symm
    rw [List.all_eq_false]
    exact ⟨x, hx, by rw [e, holds_none]; simp⟩
  · split
    · rename_i h0
      rw [List.eq_nil_of_length_eq_zero h0, show skipK 4 = 1 from rfl, holds_all]
      rfl
    · split
      · rename_i h1
        match r, h1 with
        | [x], _ => simp
      · rw [holds_and]
theorem close_or (c : List Int) {r : List Nd} (h : ∀ x ∈ r, NmN x) : holdsN c (closeN 5 r) = r.any (holdsN c) := by
  unfold closeN
  split
  · rename_i he
    obtain ⟨x, hx, hk⟩ := List.any_eq_true.1 he
    have e := nm_kind1 (h x hx) (by simpa [endK] using hk)
    rw [show endK 5 = 1 from rfl, holds_all]
    symm
    rw [List.any_eq_true]
    exact ⟨x, hx, by rw [e, holds_all]⟩
  · split
    · rename_i h0
      rw [List.eq_nil_of_length_eq_zero h0, show skipK 5 = 2 from rfl, holds_none]
      rfl
    · split
      · rename_i h1
        match r, h1 with
        | [x], _ => simp
      · rw [holds_or]
theorem simp_holds (c : List Int) {n : Nd} (h : WfN n) : holdsN c (simpN n) = holdsN c n := by
  induction h with
  | gram g a b => rw [simp_leaf (by omega)]
  | all => rw [simp_leaf (by omega)]
  | none => rw [simp_leaf (by omega)]
  | op k l hk hl ih =>
    rw [simp_op hk]
    have hg := (simpL_good hk l [] (fun n hn => simp_nm (hl n hn)) ⟨List.nodup_nil, fun x hx => by cases hx⟩).2
    rcases hk with rfl | rfl
    · rw [close_and c (fun x hx => (hg x hx).1), simpL_and c l [] (fun n hn => ⟨simp_nm (hl n hn), ih n hn⟩), holds_and]
      simp
    · rw [close_or c (fun x hx => (hg x hx).1), simpL_or c l [] (fun n hn => ⟨simp_nm (hl n hn), ih n hn⟩), holds_or]
      simp

/-! ### its size and its levels -/
theorem subs_size : ∀ x : Nd, sizeNL x.subs < sizeN x
  | .mk _ _ l => by show sizeNL l < sizeN (.mk _ _ l); rw [sizeN]; omega
theorem add_size (k : Int) (acc : List Nd) (x : Nd) : sizeNL (addN k acc x) ≤ sizeNL acc + sizeN x := by
  unfold addN
  split
  · have h1 := onces_size x.subs acc
    have h2 := subs_size x
    omega
  · split
    · omega
    · exact once_size acc x
theorem simpL_size (k : Int) : ∀ (l acc : List Nd), (∀ n ∈ l, sizeN (simpN n) ≤ sizeN n) → sizeNL (simpL k acc l) ≤ sizeNL acc + sizeNL l
  | [], acc, _ => by simp [simpL, sizeNL]
  | n :: l, acc, h => by
    unfold simpL
    have h1 := simpL_size k l (addN k acc (simpN n)) fun m hm => h m (by simp [hm])
    have h2 := add_size k acc (simpN n)
    have h3 := h n (by simp)
    rw [show sizeNL (n :: l) = sizeN n + sizeNL l from by rw [sizeNL]]
    omega
theorem close_size (k : Int) (r : List Nd) : sizeN (closeN k r) ≤ 1 + sizeNL r := by
  unfold closeN
  split
  · unfold sizeN sizeNL; omega
  · split
    · unfold sizeN; simp [sizeNL]
    · split
      · rename_i h1
        match r, h1 with
        | [x], _ => simp [sizeNL]
      · unfold sizeN; omega
theorem simp_size (n : Nd) : sizeN (simpN n) ≤ sizeN n := by
  induction n using Nd.ind with
  | h k g l ih =>
    by_cases hk : k = 4 ∨ k = 5
    · rw [simp_op hk]
      have h1 := close_size k (simpL k [] l)
      have h2 := simpL_size k l [] ih
      rw [show sizeNL [] = 0 from by rw [sizeNL]] at h2
      rw [show sizeN (.mk k g l) = 1 + sizeNL l from by rw [sizeN]]
      omega
    · rw [simp_leaf hk]; omega
theorem subs_depth : ∀ x : Nd, depthNL x.subs < depthN x
  | .mk _ _ l => by show depthNL l < depthN (.mk _ _ l); rw [depthN]; omega
theorem add_depth {N : Nat} {k : Int} {acc : List Nd} {x : Nd} (ha : ∀ y ∈ acc, depthN y ≤ N) (hx : depthN x ≤ N) : ∀ y ∈ addN k acc x, depthN y ≤ N := by
  intro y hy
  unfold addN at hy
  split at hy
  · rcases (onces_mem _ _ y).1 hy with hy | hy
    · exact ha y hy
    · have h1 := depthNL_mem hy
      have h2 := subs_depth x
      omega
  · split at hy
    · exact ha y hy
    · rcases (once_mem _ _ y).1 hy with hy | rfl
      · exact ha y hy
      · exact hx
theorem simpL_depth {N : Nat} (k : Int) : ∀ (l acc : List Nd), (∀ n ∈ l, depthN (simpN n) ≤ N) → (∀ y ∈ acc, depthN y ≤ N) → ∀ y ∈ simpL k acc l, depthN y ≤ N
  | [], acc, _, ha => by simpa [simpL] using ha
  | n :: l, acc, h, ha => by
    unfold simpL
    exact simpL_depth k l _ (fun m hm => h m (by simp [hm])) (add_depth ha (h n (by simp)))
theorem close_depth {N : Nat} {k : Int} {r : List Nd} (h : ∀ y ∈ r, depthN y ≤ N) : depthN (closeN k r) ≤ N + 1 := by
  unfold closeN
  split
  · unfold depthN depthNL; omega
  · split
    · unfold depthN depthNL; omega
    · split
      · rename_i h1
        match r, h1 with
        | [x], _ => have := h x (by simp); simp; omega
      · unfold depthN
        have := depthNL_le h
        omega
theorem simp_depth (n : Nd) : depthN (simpN n) ≤ depthN n := by
  induction n using Nd.ind with
  | h k g l ih =>
    by_cases hk : k = 4 ∨ k = 5
    · rw [simp_op hk, show depthN (.mk k g l) = depthNL l + 1 from by rw [depthN]]
      exact close_depth (simpL_depth k l [] (fun n hn => Nat.le_trans (ih n hn) (depthNL_mem hn)) fun y hy => by cases hy)
    · rw [simp_leaf hk]; omega

/-! ### what the package's functions give -/
def evalS (n : Nd) (codes : List Int) : Bool := rightN 1 n && holdsN codes n
def simplifyS (n : Nd) : Nd := if rightN 1 n = true then simpN n else .mk 2 0 []
theorem simplify_right (n : Nd) : rightN 1 (simplifyS n) = true := by
  unfold simplifyS
  split
  · rename_i h
    obtain ⟨h1, h2⟩ := right_wf n 1 h
    exact nm_right (simp_nm h1) 1 (by have := simp_depth n; omega)
  · exact nm_right .none 1 (by unfold depthN depthNL; omega)
theorem simplify_eval (n : Nd) (codes : List Int) : evalS (simplifyS n) codes = evalS n codes := by
  have h1 := simplify_right n
  unfold evalS
  rw [h1]
  unfold simplifyS
  split
  · rename_i h
    rw [h, simp_holds codes (right_wf n 1 h).1]
  · rename_i h
    rw [holds_none, Bool.eq_false_iff.2 h]
    rfl
theorem simplify_again (n : Nd) : simplifyS (simplifyS n) = simplifyS n := by
  have h1 := simplify_right n
  rw [show simplifyS (simplifyS n) = simpN (simplifyS n) from by rw [simplifyS, if_pos h1]]
  unfold simplifyS
  split
  · rename_i h
    exact simp_simp (right_wf n 1 h).1
  · exact simp_leaf (by omega)
theorem simplify_size (n : Nd) : sizeN (simplifyS n) ≤ sizeN n := by
  unfold simplifyS
  split
  · exact simp_size n
  · have h1 := sizeN_pos n
    have h2 : sizeN (.mk 2 0 []) = 1 := by simp [sizeN, sizeNL]
    omega
end Go.Proofs.YtlnbjdlooghpeaaGreatDoor
