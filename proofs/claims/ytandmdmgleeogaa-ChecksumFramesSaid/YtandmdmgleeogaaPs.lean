/- Bytes changed in the middle of others, one after the other; what Open says of a frame so changed; no program. -/
import Derived.Test.YtandmdmgleeogaaFrames
namespace Go.Proofs.Ytandmdmgleeogaa

/-- x, its first i bytes combined with q's. -/
def mixP (x q : List UInt8) (i : Nat) : List UInt8 := (xors x q).take i ++ x.drop i
theorem mix_zero (x q : List UInt8) : mixP x q 0 = x := by simp [mixP]
theorem xors_len' (x q : List UInt8) (h : x.length = q.length) : (xors x q).length = x.length := by unfold xors; rw [List.length_zipWith]; omega
theorem mix_all (x q : List UInt8) (h : x.length = q.length) : mixP x q q.length = xors x q := by
  unfold mixP
  rw [List.take_of_length_le (by rw [xors_len' x q h]; omega), List.drop_of_length_le (by omega), List.append_nil]
theorem mix_len (x q : List UInt8) (i : Nat) (h : x.length = q.length) (hi : i ≤ q.length) : (mixP x q i).length = x.length := by
  unfold mixP
  rw [List.length_append, List.length_take, List.length_drop, xors_len' x q h]
  omega
theorem mix_at (x q : List UInt8) (i : Nat) (h : x.length = q.length) (hi : i < q.length) : (mixP x q i)[i]? = x[i]? := by
  unfold mixP
  have hl : ((xors x q).take i).length = i := by rw [List.length_take, xors_len' x q h]; omega
  rw [List.getElem?_append_right (by omega), hl, Nat.sub_self, List.getElem?_drop, Nat.add_zero]
theorem mix_set (x q : List UInt8) (i : Nat) (a b : UInt8) (h : x.length = q.length) (ha : x[i]? = some a) (hb : q[i]? = some b) : (mixP x q i).set i (a ^^^ b) = mixP x q (i + 1) := by
  have hi := (List.getElem?_eq_some_iff.1 hb).1
  have hxi := (List.getElem?_eq_some_iff.1 ha).1
  have hl : ((xors x q).take i).length = i := by rw [List.length_take, xors_len' x q h]; omega
  have hz : (xors x q)[i]? = some (a ^^^ b) := by
    unfold xors
    rw [List.getElem?_zipWith, ha, hb]
  have hzi := (List.getElem?_eq_some_iff.1 hz).1
  unfold mixP
  rw [List.set_append_right _ _ (by omega), hl, Nat.sub_self, List.take_succ_eq_append_getElem hzi, (List.getElem?_eq_some_iff.1 hz).2, List.drop_eq_getElem_cons hxi, List.append_assoc]
  rfl
theorem mid_at (U M V : List UInt8) (i : Nat) (hi : i < M.length) : (U ++ (M ++ V))[U.length + i]? = M[i]? := by
  rw [List.getElem?_append_right (by omega), show U.length + i - U.length = i by omega, List.getElem?_append_left hi]
theorem mid_set (U M V : List UInt8) (i : Nat) (z : UInt8) (hi : i < M.length) : (U ++ (M ++ V)).set (U.length + i) z = U ++ (M.set i z ++ V) := by
  rw [List.set_append_right _ _ (by omega), show U.length + i - U.length = i by omega, List.set_append_left _ _ hi]

/-- No byte of the first i is other than 0. -/
def stillP (q : List UInt8) (i : Nat) : Bool := (q.take i).all (· == 0)
theorem still_next (q : List UInt8) (i : Nat) (b : UInt8) (h : q[i]? = some b) : stillP q (i + 1) = (stillP q i && (b == 0)) := by
  have hi := (List.getElem?_eq_some_iff.1 h).1
  unfold stillP
  rw [List.take_succ_eq_append_getElem hi, (List.getElem?_eq_some_iff.1 h).2, List.all_append]
  simp
theorem xors_ne (x q : List UInt8) (h : x.length = q.length) (hs : stillP q q.length = false) : x ≠ xors x q := by
  intro e
  have hz : ∀ z ∈ q, z = 0 := by
    intro z hz
    obtain ⟨i, hi, rfl⟩ := List.getElem_of_mem hz
    have hx : x[i]? = some (x[i]'(by omega)) := List.getElem?_eq_getElem _
    have hq : q[i]? = some q[i] := List.getElem?_eq_getElem _
    have h1 : (xors x q)[i]? = some (x[i]'(by omega) ^^^ q[i]) := by unfold xors; rw [List.getElem?_zipWith, hx, hq]
    rw [← e, hx] at h1
    injection h1 with h1
    have h2 : x[i]'(by omega) ^^^ (x[i]'(by omega) ^^^ q[i]) = 0 := by rw [← h1]; exact UInt8.xor_self
    rwa [← UInt8.xor_assoc, UInt8.xor_self, UInt8.zero_xor] at h2
  have : stillP q q.length = true := by
    unfold stillP
    rw [List.take_of_length_le (Nat.le_refl _), List.all_eq_true]
    intro z h
    rw [hz z h]
    rfl
  rw [this] at hs
  cases hs

/-- The content changed. -/
theorem content_changed (p l a q : List UInt8) (k : Nat) (hk : k + q.length ≤ l.length) (h4 : q.length ≤ 4) (hl : l.length ≤ big) :
    ∃ U x V, p ++ (sealP l ++ a) = U ++ (x ++ V) ∧ x.length = q.length ∧ U.length = p.length + (enc l.length).length + k ∧ (stillP q q.length = false → openP (U ++ (xors x q ++ V)) (p.length : Int) (l.length : Int) = ([], 0, 6)) := by
  have e1 : l = l.take k ++ ((l.drop k).take q.length ++ (l.drop k).drop q.length) := by rw [List.take_append_drop, List.take_append_drop]
  have hx : ((l.drop k).take q.length).length = q.length := by rw [List.length_take, List.length_drop]; omega
  obtain ⟨u, hu⟩ : ∃ u, l.take k = u := ⟨_, rfl⟩
  obtain ⟨x, hxx⟩ : ∃ x, (l.drop k).take q.length = x := ⟨_, rfl⟩
  obtain ⟨v, hv⟩ : ∃ v, (l.drop k).drop q.length = v := ⟨_, rfl⟩
  have hul : u.length = k := by rw [← hu, List.length_take]; omega
  rw [hxx] at hx
  rw [hu, hxx, hv] at e1
  clear hu hxx hv
  subst e1
  refine ⟨p ++ (enc (u ++ (x ++ v)).length ++ u), x, v ++ (four (sumP (headP (u ++ (x ++ v)))) ++ a), ?_, hx, by simp only [List.length_append]; omega, fun hs => ?_⟩
  · unfold sealP headP
    simp only [List.append_assoc]
  · have hb := open_burst p u x (xors x q) v a ((u ++ (x ++ v)).length : Int) (by rw [xors_len' x q hx]) (by omega) (xors_ne x q hx hs) hl (Int.le_refl _)
    have hlen : (u ++ (xors x q ++ v)).length = (u ++ (x ++ v)).length := by simp only [List.length_append, xors_len' x q hx]
    rw [← hb]
    congr 1
    have e2 : headP (u ++ (xors x q ++ v)) = enc (u ++ (x ++ v)).length ++ (u ++ (xors x q ++ v)) := by
      show enc (u ++ (xors x q ++ v)).length ++ _ = _
      rw [hlen]
    rw [e2]
    simp only [List.append_assoc]

/-- The checksum changed. -/
theorem tail_changed (p l a q : List UInt8) (k : Nat) (hk : k + q.length ≤ 4) (hl : l.length ≤ big) :
    ∃ U x V, p ++ (sealP l ++ a) = U ++ (x ++ V) ∧ x.length = q.length ∧ U.length = p.length + (enc l.length).length + l.length + k ∧ (stillP q q.length = false → openP (U ++ (xors x q ++ V)) (p.length : Int) (l.length : Int) = ([], 0, 6)) := by
  obtain ⟨t, ht⟩ : ∃ t, four (sumP (headP l)) = t := ⟨_, rfl⟩
  have htl : t.length = 4 := by rw [← ht]; rfl
  have e1 : t = t.take k ++ ((t.drop k).take q.length ++ (t.drop k).drop q.length) := by rw [List.take_append_drop, List.take_append_drop]
  have hx : ((t.drop k).take q.length).length = q.length := by rw [List.length_take, List.length_drop]; omega
  obtain ⟨u, hu⟩ : ∃ u, t.take k = u := ⟨_, rfl⟩
  obtain ⟨x, hxx⟩ : ∃ x, (t.drop k).take q.length = x := ⟨_, rfl⟩
  obtain ⟨v, hv⟩ : ∃ v, (t.drop k).drop q.length = v := ⟨_, rfl⟩
  have hul : u.length = k := by rw [← hu, List.length_take]; omega
  rw [hxx] at hx
  rw [hu, hxx, hv] at e1
  clear hu hxx hv
  subst e1
  refine ⟨p ++ (headP l ++ u), x, v ++ a, ?_, hx, by simp only [List.length_append, headP]; omega, fun hs => ?_⟩
  · unfold sealP
    rw [ht]
    simp only [List.append_assoc]
  · have hne : u ++ (xors x q ++ v) ≠ four (sumP (headP l)) := by
      rw [ht]
      intro e
      have e3 := List.append_cancel_left e
      have e4 := List.append_cancel_right e3
      exact xors_ne x q hx hs e4.symm
    have hb := open_tail p l (u ++ (xors x q ++ v)) a (l.length : Int) hl (Int.le_refl _) (by rw [← htl]; simp only [List.length_append, xors_len' x q hx]) hne
    rw [← hb]
    congr 1
    simp only [List.append_assoc]

end Go.Proofs.Ytandmdmgleeogaa
