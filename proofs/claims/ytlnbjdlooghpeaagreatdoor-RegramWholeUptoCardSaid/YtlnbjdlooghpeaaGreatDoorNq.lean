/- Layer 10: keys of conditions, which are the same for the same conditions only; what is gathered with them; no program. -/
import Derived.Test.YtlnbjdlooghpeaaGreatDoorNr
namespace Go.Proofs.YtlnbjdlooghpeaaGreatDoor

mutual
/-- The key of a condition. -/
def keyN : Nd → List UInt8
  | .mk k g l => UInt8.ofNat k.toNat :: UInt8.ofNat (g.toNat / 65536) :: UInt8.ofNat (g.toNat / 256) :: UInt8.ofNat g.toNat :: (keyNL l ++ [0])
def keyNL : List Nd → List UInt8
  | [] => []
  | x :: l => keyN x ++ keyNL l
end
theorem keyN_mk (k g : Int) (l : List Nd) : keyN (.mk k g l) = UInt8.ofNat k.toNat :: UInt8.ofNat (g.toNat / 65536) :: UInt8.ofNat (g.toNat / 256) :: UInt8.ofNat g.toNat :: (keyNL l ++ [0]) := by rw [keyN]
theorem keyNL_cons (x : Nd) (l : List Nd) : keyNL (x :: l) = keyN x ++ keyNL l := by rw [keyNL]
theorem keyNL_app (l m : List Nd) : keyNL (l ++ m) = keyNL l ++ keyNL m := by
  induction l with
  | nil => simp [keyNL]
  | cons x l ih => rw [List.cons_append, keyNL_cons, keyNL_cons, ih, List.append_assoc]
theorem keyNL_len {l : List Nd} (h : ∀ x ∈ l, (keyN x).length ≤ 5 * sizeN x) : (keyNL l).length ≤ 5 * sizeNL l := by
  induction l with
  | nil => simp [keyNL]
  | cons x l ih =>
    rw [keyNL_cons, sizeNL_cons, List.length_append]
    have h1 := h x (by simp)
    have h2 := ih fun y hy => h y (by simp [hy])
    omega
theorem keyN_len (n : Nd) : (keyN n).length ≤ 5 * sizeN n := by
  induction n using Nd.ind with
  | h k g l ih =>
    rw [keyN_mk, sizeN_mk]
    have := keyNL_len ih
    simp
    omega
theorem u8_inj {a b : Nat} (h : UInt8.ofNat a = UInt8.ofNat b) : a % 256 = b % 256 := by
  have := congrArg UInt8.toNat h
  simpa using this
/-- The kind and the number of a well-formed condition. -/
theorem wf_range {n : Nd} (h : WfN n) : 1 ≤ n.kind ∧ n.kind ≤ 5 ∧ 0 ≤ n.gram ∧ n.gram < 16777216 := by
  cases h with
  | gram g a b => exact ⟨by simp [Nd.kind], by simp [Nd.kind], a, b⟩
  | all => exact ⟨by decide, by decide, by decide, by decide⟩
  | none => exact ⟨by decide, by decide, by decide, by decide⟩
  | op k l hk _ => exact ⟨by simp only [Nd.kind]; omega, by simp only [Nd.kind]; omega, by simp [Nd.gram], by simp [Nd.gram]⟩
theorem wf_subs {n : Nd} (h : WfN n) : ∀ x ∈ n.subs, WfN x := by
  cases h with
  | gram g a b => intro x hx; cases hx
  | all => intro x hx; cases hx
  | none => intro x hx; cases hx
  | op k l _ hl => exact hl
theorem head_inj {a b : Nat} (ha : 1 ≤ a ∧ a ≤ 5) (hb : 1 ≤ b ∧ b ≤ 5) (h : UInt8.ofNat a = UInt8.ofNat b) : a = b := by
  have := u8_inj h
  omega
theorem keyL_inj : ∀ (l m : List Nd) (s t : List UInt8), (∀ x ∈ l, WfN x) → (∀ x ∈ m, WfN x) → (∀ x ∈ l, ∀ b, WfN b → ∀ s t, keyN x ++ s = keyN b ++ t → x = b ∧ s = t) → keyNL l ++ 0 :: s = keyNL m ++ 0 :: t → l = m ∧ s = t
  | [], [], s, t, _, _, _, h => by simp [keyNL] at h; exact ⟨rfl, h⟩
  | [], y :: m, s, t, _, hm, _, h => by
    obtain ⟨k, g, ys⟩ := y
    have := wf_range (hm (.mk k g ys) (by simp))
    simp only [Nd.kind] at this
    rw [keyNL, keyNL_cons, keyN_mk] at h
    simp only [List.nil_append, List.cons_append, List.cons.injEq] at h
    have := u8_inj (show UInt8.ofNat 0 = UInt8.ofNat k.toNat from h.1)
    omega
  | x :: l, [], s, t, hl, _, _, h => by
    obtain ⟨k, g, ys⟩ := x
    have := wf_range (hl (.mk k g ys) (by simp))
    simp only [Nd.kind] at this
    rw [keyNL_cons, keyN_mk, keyNL] at h
    simp only [List.nil_append, List.cons_append, List.cons.injEq] at h
    have := u8_inj (show UInt8.ofNat k.toNat = UInt8.ofNat 0 from h.1)
    omega
  | x :: l, y :: m, s, t, hl, hm, ih, h => by
    rw [keyNL_cons, keyNL_cons, List.append_assoc, List.append_assoc] at h
    obtain ⟨rfl, h2⟩ := ih x (by simp) y (hm y (by simp)) _ _ h
    obtain ⟨rfl, h3⟩ := keyL_inj l m s t (fun z hz => hl z (by simp [hz])) (fun z hz => hm z (by simp [hz])) (fun z hz => ih z (by simp [hz])) h2
    exact ⟨rfl, h3⟩
theorem key_inj' (a : Nd) : WfN a → ∀ b, WfN b → ∀ s t, keyN a ++ s = keyN b ++ t → a = b ∧ s = t := by
  induction a using Nd.ind with
  | h k g l ih =>
    intro ha b hb s t h
    obtain ⟨k', g', l'⟩ := b
    have h1 := wf_range ha
    have h2 := wf_range hb
    have hl := wf_subs ha
    have hl' := wf_subs hb
    simp only [Nd.kind, Nd.gram, Nd.subs] at h1 h2 hl hl'
    rw [keyN_mk, keyN_mk] at h
    simp only [List.cons_append, List.cons.injEq, List.append_assoc, List.nil_append] at h
    obtain ⟨e1, e2, e3, e4, e5⟩ := h
    have e1 := u8_inj e1
    have e2 := u8_inj e2
    have e3 := u8_inj e3
    have e4 := u8_inj e4
    obtain ⟨rfl, hst⟩ := keyL_inj l l' s t hl hl' (fun x hx => ih x hx (hl x hx)) e5
    have hk : k = k' := by omega
    have hg : g = g' := by omega
    subst hk hg
    exact ⟨rfl, hst⟩
theorem key_inj {a b : Nd} (ha : WfN a) (hb : WfN b) (h : keyN a = keyN b) : a = b :=
  (key_inj' a ha b hb [] [] (by rw [h])).1

/-! ### what the program gathers -/
def takeP (k : Int) (p : Bool × List Nd) (x : Nd) : Bool × List Nd := if x.kind = endK k then (true, p.2) else if x.kind ≠ skipK k ∧ x ∉ p.2 then (p.1, p.2 ++ [x]) else p
def addP (k : Int) (p : Bool × List Nd) (x : Nd) : Bool × List Nd := if x.kind = k then x.subs.foldl (takeP k) p else takeP k p x
def closeP (k : Int) (p : Bool × List Nd) : Nd := if p.1 = true then .mk (endK k) 0 [] else if p.2.length = 0 then .mk (skipK k) 0 [] else if p.2.length = 1 then p.2.headD (.mk 1 0 []) else .mk k 0 p.2
/-- How the two gather the same. -/
def twoP (k : Int) (acc : List Nd) : Bool × List Nd := (acc.any fun x => decide (x.kind = endK k), acc.filter fun x => !decide (x.kind = endK k))
theorem skip_end (k : Int) : skipK k ≠ endK k := by unfold skipK endK; split <;> decide
theorem take_skip {k : Int} {p : Bool × List Nd} {x : Nd} (h : x.kind = skipK k) : takeP k p x = p := by
  unfold takeP
  rw [if_neg (by rw [h]; exact skip_end k), if_neg (fun h' => h'.1 h)]
theorem take_once {k : Int} {acc : List Nd} {x : Nd} (h : x.kind ≠ skipK k) : takeP k (twoP k acc) x = twoP k (onceN acc x) := by
  unfold takeP
  by_cases he : x.kind = endK k
  · rw [if_pos he]
    unfold onceN twoP
    split
    · rename_i hx
      have : (acc.any fun x => decide (x.kind = endK k)) = true := List.any_eq_true.2 ⟨x, hx, by simp [he]⟩
      rw [this]
    · simp [he]
  · rw [if_neg he]
    have hm : x ∈ (twoP k acc).2 ↔ x ∈ acc := by unfold twoP; simp [he]
    unfold onceN
    by_cases hx : x ∈ acc
    · rw [if_pos hx, if_neg (fun h' => h'.2 (hm.2 hx))]
    · rw [if_neg hx, if_pos ⟨h, fun h' => hx (hm.1 h')⟩]
      unfold twoP
      simp [he]
theorem takes_once {k : Int} : ∀ (xs acc : List Nd), (∀ x ∈ xs, x.kind ≠ skipK k) → xs.foldl (takeP k) (twoP k acc) = twoP k (xs.foldl onceN acc)
  | [], _, _ => rfl
  | x :: xs, acc, h => by
    rw [List.foldl_cons, List.foldl_cons, take_once (h x (by simp)), takes_once xs _ fun y hy => h y (by simp [hy])]
theorem addP_is {k : Int} (hk : k = 4 ∨ k = 5) (acc : List Nd) {x : Nd} (hx : NmN x) : addP k (twoP k acc) x = twoP k (addN k acc x) := by
  unfold addP addN
  split
  · rename_i he
    obtain ⟨-, h2⟩ := nm_subs hx (by omega)
    refine takes_once _ _ fun y hy => ?_
    obtain ⟨-, -, h5, h6⟩ := h2 y hy
    unfold skipK
    split <;> assumption
  · split
    · rename_i hs
      exact take_skip hs
    · rename_i hs
      exact take_once hs
theorem closeP_is (k : Int) (acc : List Nd) : closeP k (twoP k acc) = closeN k acc := by
  unfold closeP closeN
  show (if (acc.any fun x => decide (x.kind = endK k)) = true then _ else _) = _
  split
  · rfl
  · rename_i h
    have e : (twoP k acc).2 = acc := by
      unfold twoP
      refine List.filter_eq_self.2 fun x hx => ?_
      have := List.any_eq_false.1 (Bool.eq_false_iff.2 h) x hx
      simpa using this
    rw [e]
/-- The simplest form of an operator, as the program gathers it. -/
def gatP (k : Int) (l : List Nd) : Bool × List Nd := l.foldl (fun p n => addP k p (simpN n)) (false, [])
theorem gat_is {k : Int} (hk : k = 4 ∨ k = 5) : ∀ (l acc : List Nd), (∀ n ∈ l, WfN n) → l.foldl (fun p n => addP k p (simpN n)) (twoP k acc) = twoP k (simpL k acc l)
  | [], acc, _ => by rw [simpL]; rfl
  | n :: l, acc, h => by
    rw [List.foldl_cons, addP_is hk acc (simp_nm (h n (by simp))), simpL, gat_is hk l _ fun m hm => h m (by simp [hm])]
theorem simp_is {k g : Int} {l : List Nd} (hk : k = 4 ∨ k = 5) (hl : ∀ n ∈ l, WfN n) : simpN (.mk k g l) = closeP k (gatP k l) := by
  rw [simp_op hk, ← closeP_is]
  unfold gatP
  rw [← gat_is hk l [] hl]
  rfl
/-- Before round i. -/
def gatAt (k : Int) (l : List Nd) (i : Nat) : Bool × List Nd := gatP k (l.take i)
theorem gatAt_zero (k : Int) (l : List Nd) : gatAt k l 0 = (false, []) := by unfold gatAt gatP; simp
theorem gatAt_next {k : Int} {l : List Nd} {i : Nat} {x : Nd} (h : l[i]? = some x) : gatAt k l (i + 1) = addP k (gatAt k l i) (simpN x) := by
  unfold gatAt gatP
  have hi := (List.getElem?_eq_some_iff.1 h).1
  rw [List.take_succ_eq_append_getElem hi, (List.getElem?_eq_some_iff.1 h).2, List.foldl_append]
  rfl
theorem gatAt_all (k : Int) (l : List Nd) : gatAt k l l.length = gatP k l := by unfold gatAt; rw [List.take_length]
def takesAt (k : Int) (p : Bool × List Nd) (xs : List Nd) (j : Nat) : Bool × List Nd := (xs.take j).foldl (takeP k) p
theorem takesAt_zero (k : Int) (p : Bool × List Nd) (xs : List Nd) : takesAt k p xs 0 = p := by unfold takesAt; simp
theorem takesAt_next {k : Int} {p : Bool × List Nd} {xs : List Nd} {j : Nat} {x : Nd} (h : xs[j]? = some x) : takesAt k p xs (j + 1) = takeP k (takesAt k p xs j) x := by
  unfold takesAt
  have hi := (List.getElem?_eq_some_iff.1 h).1
  rw [List.take_succ_eq_append_getElem hi, (List.getElem?_eq_some_iff.1 h).2, List.foldl_append]
  rfl
theorem takesAt_all (k : Int) (p : Bool × List Nd) (xs : List Nd) : takesAt k p xs xs.length = xs.foldl (takeP k) p := by unfold takesAt; rw [List.take_length]
theorem take_size (k : Int) (p : Bool × List Nd) (x : Nd) : sizeNL (takeP k p x).2 ≤ sizeNL p.2 + sizeN x := by
  unfold takeP
  split
  · simp
  · split
    · simp only; rw [sizeNL_app]; simp [sizeNL]
    · omega
theorem takes_size (k : Int) : ∀ (xs : List Nd) (p : Bool × List Nd), sizeNL (xs.foldl (takeP k) p).2 ≤ sizeNL p.2 + sizeNL xs
  | [], p => by simp [sizeNL]
  | x :: xs, p => by
    rw [List.foldl_cons, sizeNL_cons]
    have h1 := takes_size k xs (takeP k p x)
    have h2 := take_size k p x
    omega
theorem addP_size (k : Int) (p : Bool × List Nd) (x : Nd) : sizeNL (addP k p x).2 ≤ sizeNL p.2 + sizeN x := by
  unfold addP
  split
  · have h1 := takes_size k x.subs p
    have h2 := subs_size x
    omega
  · exact take_size k p x
theorem gatP_size (k : Int) : ∀ (l : List Nd) (p : Bool × List Nd), sizeNL (l.foldl (fun p n => addP k p (simpN n)) p).2 ≤ sizeNL p.2 + sizeNL l
  | [], p => by simp [sizeNL]
  | n :: l, p => by
    rw [List.foldl_cons, sizeNL_cons]
    have h1 := gatP_size k l (addP k p (simpN n))
    have h2 := addP_size k p (simpN n)
    have h3 := simp_size n
    omega
theorem gatAt_size (k : Int) (l : List Nd) (i : Nat) : sizeNL (gatAt k l i).2 ≤ sizeNL l := by
  have h1 := gatP_size k (l.take i) (false, [])
  have h2 := sizeNL_take l i
  unfold gatAt gatP
  simp only [sizeNL, Nat.zero_add] at h1
  omega
theorem takesAt_size (k : Int) (p : Bool × List Nd) (xs : List Nd) (j : Nat) : sizeNL (takesAt k p xs j).2 ≤ sizeNL p.2 + sizeNL xs := by
  have h1 := takes_size k (xs.take j) p
  have h2 := sizeNL_take xs j
  unfold takesAt
  omega
/-- Only normal conditions are gathered. -/
def AllNm (p : Bool × List Nd) : Prop := ∀ x ∈ p.2, NmN x
theorem take_nm {k : Int} {p : Bool × List Nd} {x : Nd} (h : AllNm p) (hx : NmN x) : AllNm (takeP k p x) := by
  unfold takeP
  split
  · exact h
  · split
    · intro y hy
      rcases List.mem_append.1 hy with hy | hy
      · exact h y hy
      · rw [List.mem_singleton.1 hy]; exact hx
    · exact h
theorem takes_nm {k : Int} : ∀ (xs : List Nd) {p : Bool × List Nd}, AllNm p → (∀ x ∈ xs, NmN x) → AllNm (xs.foldl (takeP k) p)
  | [], _, h, _ => h
  | x :: xs, _, h, hx => takes_nm xs (take_nm h (hx x (by simp))) fun y hy => hx y (by simp [hy])
theorem nm_all_subs {n : Nd} (h : NmN n) : ∀ x ∈ n.subs, NmN x := by
  cases h with
  | gram g a b => intro x hx; cases hx
  | all => intro x hx; cases hx
  | none => intro x hx; cases hx
  | op k l _ _ _ h4 _ => exact h4
theorem addP_nm {k : Int} {p : Bool × List Nd} {x : Nd} (h : AllNm p) (hx : NmN x) : AllNm (addP k p x) := by
  unfold addP
  split
  · exact takes_nm _ h (nm_all_subs hx)
  · exact take_nm h hx
theorem gat_nm {k : Int} : ∀ (l : List Nd) {p : Bool × List Nd}, AllNm p → (∀ n ∈ l, WfN n) → AllNm (l.foldl (fun p n => addP k p (simpN n)) p)
  | [], _, h, _ => h
  | n :: l, _, h, hl => gat_nm l (addP_nm h (simp_nm (hl n (by simp)))) fun m hm => hl m (by simp [hm])
theorem gatAt_nm {k : Int} {l : List Nd} (hl : ∀ n ∈ l, WfN n) (i : Nat) : AllNm (gatAt k l i) :=
  gat_nm _ (fun x hx => by cases hx) fun n hn => hl n (List.mem_of_mem_take hn)
theorem takesAt_nm {k : Int} {p : Bool × List Nd} {xs : List Nd} (h : AllNm p) (hx : ∀ x ∈ xs, NmN x) (j : Nat) : AllNm (takesAt k p xs j) :=
  takes_nm _ h fun y hy => hx y (List.mem_of_mem_take hy)
end Go.Proofs.YtlnbjdlooghpeaaGreatDoor
