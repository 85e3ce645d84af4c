/- Layer 9: copies one after the other, as the law counts them, on plain data. -/
import Derived.Test.YtkghbhcjgogaeaaDoorU1
import Derived.Test.YtkghbhcjgogaeaaDoorGw
namespace Go.Proofs.YtkghbhcjgogaeaaDoor
open Go.RowKit

def addU (L : List Nat) (x : Nat) : List Nat := if x ∈ L then L else L ++ [x]
def addAll (L xs : List Nat) : List Nat := xs.foldl addU L
theorem addU_mem (L : List Nat) (x y : Nat) : y ∈ addU L x ↔ y ∈ L ∨ y = x := by
  unfold addU
  split
  · rename_i h
    exact ⟨Or.inl, fun h2 => h2.elim id fun e => by rw [e]; exact h⟩
  · simp
theorem addU_nodup {L : List Nat} (h : L.Nodup) (x : Nat) : (addU L x).Nodup := by
  unfold addU
  split
  · exact h
  · rename_i hx
    rw [List.nodup_append]
    exact ⟨h, by simp, fun a ha b hb e => by simp at hb; subst hb; subst e; exact hx ha⟩
theorem addAll_mem : ∀ (xs L : List Nat) (y : Nat), y ∈ addAll L xs ↔ y ∈ L ∨ y ∈ xs
  | [], L, y => by simp [addAll]
  | x :: xs, L, y => by
    show y ∈ addAll (addU L x) xs ↔ _
    rw [addAll_mem xs (addU L x) y, addU_mem]
    simp [or_assoc]
theorem addAll_nodup : ∀ (xs : List Nat) {L : List Nat}, L.Nodup → (addAll L xs).Nodup
  | [], _, h => h
  | x :: xs, _, h => addAll_nodup xs (addU_nodup h x)
theorem addAll_next {L xs : List Nat} {i x : Nat} (h : xs[i]? = some x) : addAll L (xs.take (i + 1)) = addU (addAll L (xs.take i)) x := by
  unfold addAll
  rw [take_next h, List.foldl_append]
  rfl
/-- The ends from the offsets of L. -/
def nxt (r : Rx) (s : List UInt8) (L : List Nat) : List Nat := L.foldl (fun acc (q : Nat) => addAll acc (endsA r s (q : Int))) []
theorem nxt_mem_from (r : Rx) (s : List UInt8) : ∀ (L acc : List Nat) (y : Nat), y ∈ L.foldl (fun acc (q : Nat) => addAll acc (endsA r s (q : Int))) acc ↔ y ∈ acc ∨ ∃ q ∈ L, y ∈ endsA r s (q : Int)
  | [], acc, y => by simp
  | x :: L, acc, y => by
    rw [List.foldl_cons, nxt_mem_from r s L, addAll_mem]
    simp [or_assoc]
theorem nxt_mem (r : Rx) (s : List UInt8) (L : List Nat) (y : Nat) : y ∈ nxt r s L ↔ ∃ q ∈ L, y ∈ endsA r s (q : Int) := by
  unfold nxt
  rw [nxt_mem_from]
  simp
theorem nxt_nodup_from (r : Rx) (s : List UInt8) : ∀ (L acc : List Nat), acc.Nodup → (L.foldl (fun acc (q : Nat) => addAll acc (endsA r s (q : Int))) acc).Nodup
  | [], _, h => h
  | _ :: L, _, h => nxt_nodup_from r s L _ (addAll_nodup _ h)
theorem nxt_nodup (r : Rx) (s : List UInt8) (L : List Nat) : (nxt r s L).Nodup := nxt_nodup_from r s L [] List.nodup_nil
theorem nxt_next {r : Rx} {s : List UInt8} {L : List Nat} {i q : Nat} (h : L[i]? = some q) : nxt r s (L.take (i + 1)) = addAll (nxt r s (L.take i)) (endsA r s (q : Int)) := by
  unfold nxt
  rw [take_next h, List.foldl_append]
  rfl
/-- The ends of n copies. -/
def LL (r : Rx) (s : List UInt8) (at_ : Int) : Nat → List Nat
  | 0 => if at_ < 0 ∨ (s.length : Int) < at_ then [] else [at_.toNat]
  | n + 1 => nxt r s (LL r s at_ n)
/-- What the law has gathered before round n. -/
def AL (r : Rx) (s : List UInt8) (at_ least : Int) : Nat → List Nat
  | 0 => []
  | n + 1 => if least ≤ (n : Int) then addAll (AL r s at_ least n) (LL r s at_ n) else AL r s at_ least n
theorem AL_nodup (r : Rx) (s : List UInt8) (at_ least : Int) : ∀ n, (AL r s at_ least n).Nodup
  | 0 => List.nodup_nil
  | n + 1 => by
    unfold AL
    split
    · exact addAll_nodup _ (AL_nodup r s at_ least n)
    · exact AL_nodup r s at_ least n
theorem AL_mem (r : Rx) (s : List UInt8) (at_ least : Int) (y : Nat) : ∀ n, y ∈ AL r s at_ least n ↔ ∃ m : Nat, m < n ∧ least ≤ (m : Int) ∧ y ∈ LL r s at_ m
  | 0 => by simp [AL]
  | n + 1 => by
    unfold AL
    split
    · rename_i h
      rw [addAll_mem, AL_mem r s at_ least y n]
      constructor
      · rintro (⟨m, h1, h2⟩ | h2)
        · exact ⟨m, by omega, h2⟩
        · exact ⟨n, by omega, h, h2⟩
      · rintro ⟨m, h1, h2, h3⟩
        by_cases hm : m = n
        · subst hm; exact Or.inr h3
        · exact Or.inl ⟨m, by omega, h2, h3⟩
    · rename_i h
      rw [AL_mem r s at_ least y n]
      constructor
      · rintro ⟨m, h1, h2⟩
        exact ⟨m, by omega, h2⟩
      · rintro ⟨m, h1, h2, h3⟩
        refine ⟨m, ?_, h2, h3⟩
        by_cases hm : m = n
        · subst hm; exact absurd h2 h
        · omega
theorem LL_nodup (r : Rx) (s : List UInt8) (at_ : Int) (n : Nat) : (LL r s at_ n).Nodup := by
  cases n with
  | zero => unfold LL; split <;> simp
  | succ n => unfold LL; exact nxt_nodup _ _ _
theorem LL_mem {r : Rx} (h0 : rightR r = 0) (s : List UInt8) (at_ : Int) : ∀ (n y : Nat), y ∈ LL r s at_ n ↔ (0 ≤ at_ ∧ at_ ≤ (s.length : Int)) ∧ Iter (mtR r s) n at_.toNat y
  | 0, y => by
    unfold LL Iter
    split
    · rename_i h
      constructor
      · intro h; cases h
      · rintro ⟨h1, -⟩; omega
    · rename_i h
      rw [List.mem_singleton]
      exact ⟨fun e => ⟨by omega, e.symm⟩, fun e => e.2.symm⟩
  | n + 1, y => by
    unfold LL
    rw [nxt_mem, iter_last]
    constructor
    · rintro ⟨q, h1, h2⟩
      obtain ⟨k1, k2⟩ := (LL_mem h0 s at_ n q).1 h1
      obtain ⟨-, -, k3⟩ := (endsA_mem h0 s (q : Int) y).1 h2
      exact ⟨k1, q, k2, by simpa using k3⟩
    · rintro ⟨k1, q, k2, k3⟩
      have hq := iter_le (mt_le r s) n _ q (by omega) k2
      exact ⟨q, (LL_mem h0 s at_ n q).2 ⟨k1, k2⟩, (endsA_mem h0 s (q : Int) y).2 ⟨by omega, by omega, by simpa using k3⟩⟩
theorem LL_le {r : Rx} (h0 : rightR r = 0) (s : List UInt8) (at_ : Int) (n y : Nat) (h : y ∈ LL r s at_ n) : y ≤ s.length := by
  obtain ⟨k1, k2⟩ := (LL_mem h0 s at_ n y).1 h
  exact (iter_le (mt_le r s) n _ y (by omega) k2).2
theorem iter_add {R : Nat → Nat → Prop} : ∀ (m n i j : Nat), Iter R (m + n) i j ↔ ∃ q, Iter R m i q ∧ Iter R n q j
  | 0, n, i, j => by
    rw [Nat.zero_add]
    exact ⟨fun h => ⟨i, rfl, h⟩, fun ⟨q, e, h⟩ => by cases e; exact h⟩
  | m + 1, n, i, j => by
    rw [show m + 1 + n = (m + n) + 1 by omega]
    constructor
    · rintro ⟨x, h1, h2⟩
      obtain ⟨q, h3, h4⟩ := (iter_add m n x j).1 h2
      exact ⟨q, ⟨x, h1, h3⟩, h4⟩
    · rintro ⟨q, ⟨x, h1, h3⟩, h4⟩
      exact ⟨x, h1, (iter_add m n x j).2 ⟨q, h3, h4⟩⟩
theorem right_rep {a b : Int} {x : Rx} (h : rightR (timR a b x) = 0) : rightR x = 0 ∧ 0 ≤ a ∧ a ≤ 8 ∧ (b = -1 ∨ (1 ≤ b ∧ b ≤ 8 ∧ a ≤ b)) := by
  refine ⟨right_subs h x (by simp), ?_⟩
  have hn := (right_node h).1
  unfold timR nodeR at hn
  split at hn
  · omega
  · split at hn
    · omega
    · rename_i h2
      have hb : boundsR a b = true := by
        cases hb : boundsR a b with
        | true => rfl
        | false => exact absurd ⟨rfl, hb⟩ h2
      unfold boundsR at hb
      exact of_decide_eq_true hb
theorem mt_rep (a b : Int) (x : Rx) (s : List UInt8) (i j : Nat) : mtR (timR a b x) s i j ↔ ∃ n : Nat, a ≤ n ∧ (b < 0 ∨ (n : Int) ≤ b) ∧ Iter (mtR x s) n i j := by
  unfold timR
  conv => lhs; unfold mtR
  rw [if_neg (by decide), if_neg (by decide), if_pos rfl]
  have e : mtOne [x] s = mtR x s := by funext p q; unfold mtOne; rfl
  rw [e]
/-- Up to which number of copies the law counts. -/
def uptoN (a b : Int) (n : Nat) : Nat := if b < 0 then a.toNat + n + 1 else b.toNat
theorem gather {a b : Int} {x : Rx} (h : rightR (timR a b x) = 0) (s : List UInt8) (at_ : Int) (y : Nat) : y ∈ AL x s at_ a (uptoN a b s.length + 1) ↔ y ∈ endsA (timR a b x) s at_ := by
  obtain ⟨h0, h1, h2, h3⟩ := right_rep h
  rw [AL_mem, endsA_mem h, mt_rep]
  constructor
  · rintro ⟨m, k1, k2, k3⟩
    obtain ⟨k4, k5⟩ := (LL_mem h0 s at_ m y).1 k3
    refine ⟨k4.1, k4.2, m, k2, ?_, k5⟩
    unfold uptoN at k1
    split at k1 <;> omega
  · rintro ⟨k1, k2, n, k3, k4, k5⟩
    by_cases hb : b < 0
    · have hn : n = a.toNat + (n - a.toNat) := by omega
      rw [hn] at k5
      obtain ⟨q, k6, k7⟩ := (iter_add _ _ _ _).1 k5
      have hq := iter_le (mt_le x s) _ _ q (by omega) k6
      obtain ⟨m, k8, k9⟩ := iter_short (mt_le x s) _ q y hq.2 k7
      have hy := iter_le (mt_le x s) _ _ y hq.2 k9
      refine ⟨a.toNat + m, ?_, by omega, (LL_mem h0 s at_ _ y).2 ⟨⟨k1, k2⟩, (iter_add _ _ _ _).2 ⟨q, k6, k9⟩⟩⟩
      unfold uptoN
      rw [if_pos hb]
      omega
    · refine ⟨n, ?_, k3, (LL_mem h0 s at_ n y).2 ⟨⟨k1, k2⟩, k5⟩⟩
      unfold uptoN
      rw [if_neg hb]
      omega
theorem nodup_len : ∀ (l m : List Nat), l.Nodup → (∀ x ∈ l, x ∈ m) → l.length ≤ m.length
  | [], m, _, _ => by simp
  | x :: l, m, h, hs => by
    rw [List.nodup_cons] at h
    have hx := hs x (by simp)
    have := nodup_len l (m.erase x) h.2 fun y hy => by
      refine (List.mem_erase_of_ne (fun e => ?_)).2 (hs y (by simp [hy]))
      subst e
      exact h.1 hy
    rw [List.length_erase_of_mem hx] at this
    have : 0 < m.length := List.length_pos_of_mem hx
    simp only [List.length_cons]
    omega
theorem nodup_le (l : List Nat) (N : Nat) (h : l.Nodup) (hs : ∀ x ∈ l, x ≤ N) : l.length ≤ N + 1 := by
  have := nodup_len l (List.range (N + 1)) h fun x hx => by rw [List.mem_range]; have := hs x hx; omega
  simpa using this
theorem gather_len {a b : Int} {x : Rx} (h : rightR (timR a b x) = 0) (s : List UInt8) (at_ : Int) : (endsA (timR a b x) s at_).length = (AL x s at_ a (uptoN a b s.length + 1)).length := by
  have hn : (endsA (timR a b x) s at_).Nodup := (endsA_sorted _ s at_).imp (fun h => by omega)
  refine Nat.le_antisymm (nodup_len _ _ hn fun y hy => (gather h s at_ y).2 hy) (nodup_len _ _ (AL_nodup _ _ _ _ _) fun y hy => (gather h s at_ y).1 hy)
end Go.Proofs.YtkghbhcjgogaeaaDoor
