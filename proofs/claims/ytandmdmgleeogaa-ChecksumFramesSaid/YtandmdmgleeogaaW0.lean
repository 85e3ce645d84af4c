/- Memory of this seat: slices that read as lists, slices that are grown, bytes as strings. -/
import Derived.Test.YtandmdmgleeogaaProg
import Derived.Test.YtandmdmgleeogaaBs
import Derived.Test.YtandmdmgleeogaaPl
import Derived.Lib.UnsafeStr
import Derived.Lib.AppendStr
import Derived.Lib.Hide
import Derived.Maps.AppendAt
import Derived.Deep.AppendLies
import Derived.ArgAppend
import Derived.Laws.BytesArg
import Derived.Deep.Draws
import Derived.Deep.Slices
namespace Go.Proofs.Ytandmdmgleeogaa
open Go.RowKit
open Go.Lib (byteCells)
open Go.ChangeShapes (block_add)
open Go.Deep (add_add)

/-- The slice at A of n elements, of a cell each, is the list xs, and lies in blocks below B. -/
def Reads (w : World) (B : Nat) (A : Option Addr) (n : Nat) (xs : List Value) : Prop :=
  xs.length = n ∧ ∀ k u, xs[k]? = some u → ∃ ad, A = some ad ∧ ad.block < B ∧ w.cell? (ad.add k) = some u

section
variable {w w' : World} {B B' n : Nat} {A : Option Addr} {xs : List Value}
theorem Reads.nil : Reads w B A 0 [] := ⟨rfl, fun k u h => by simp at h⟩
theorem Reads.at_ {k : Nat} (h : Reads w B A n xs) (hk : k < n) : ∃ ad u, A = some ad ∧ ad.block < B ∧ xs[k]? = some u ∧ w.cell? (ad.add k) = some u := by
  have hx : xs[k]? = some (xs[k]'(by rw [h.1]; exact hk)) := List.getElem?_eq_getElem _
  obtain ⟨ad, h1, h2, h3⟩ := h.2 k _ hx
  exact ⟨ad, _, h1, h2, hx, h3⟩
theorem Reads.map {P : Addr → Prop} (h : Reads w B A n xs) (hP : ∀ p, p.block < B → P p) (hk : ∀ p, P p → w'.cell? p = w.cell? p) (hB : B ≤ B') : Reads w' B' A n xs := by
  refine ⟨h.1, fun k u hu => ?_⟩
  obtain ⟨ad, h1, h2, h3⟩ := h.2 k u hu
  refine ⟨ad, h1, Nat.lt_of_lt_of_le h2 hB, ?_⟩
  rw [hk _ (hP _ (by rw [block_add]; exact h2))]
  exact h3
theorem Reads.keep (h : Reads w B A n xs) (hk : ∀ p : Addr, p.block < B → w'.cell? p = w.cell? p) : Reads w' B A n xs := h.map (fun _ hp => hp) hk (Nat.le_refl B)
theorem Reads.more (h : Reads w B A n xs) (hB : B ≤ B') : Reads w B' A n xs := h.map (fun _ hp => hp) (fun _ _ => rfl) hB
theorem Reads.below (h : Reads w B A n xs) (hb : Below B w w') : Reads w' B A n xs := h.keep fun _ hp => hb.cell hp
/-- b[k:], at an address that stays where the capacity ends. -/
theorem Reads.cut (h : Reads w B A n xs) {k cap : Nat} (hk : k ≤ n) (hc : n ≤ cap) : Reads w B (if cap = k then A else A.map (·.add k)) (n - k) (xs.drop k) := by
  refine ⟨by rw [List.length_drop, h.1], fun j u hu => ?_⟩
  rw [List.getElem?_drop] at hu
  have hj : k + j < n := by rw [← h.1]; exact (List.getElem?_eq_some_iff.1 hu).1
  obtain ⟨ad, rfl, h2, h3⟩ := h.2 (k + j) u hu
  rw [if_neg (by omega : ¬ cap = k)]
  exact ⟨ad.add k, rfl, by rw [block_add]; exact h2, by rw [add_add]; exact h3⟩
/-- b[:k] -/
theorem Reads.take (h : Reads w B A n xs) {k : Nat} (hk : k ≤ n) : Reads w B A k (xs.take k) := by
  refine ⟨by rw [List.length_take, h.1, Nat.min_eq_left hk], fun j u hu => h.2 j u ?_⟩
  rw [List.getElem?_take] at hu
  by_cases hj : j < k
  · rw [if_pos hj] at hu; exact hu
  · rw [if_neg hj] at hu; cases hu
theorem Reads.of_own {base : Nat} {e : TypeId} {c : Nat} (h : w.ownsRow base e 1 (.slice A n c) n xs) : Reads w w.heap.size A n xs := by
  refine ⟨by rw [h.1, Nat.mul_one], fun k u hu => ?_⟩
  have hk : k < n := by rw [← Nat.mul_one n, ← h.1]; exact (List.getElem?_eq_some_iff.1 hu).1
  obtain ⟨g, cap, hv, _, hlt⟩ := h.form (by omega)
  simp only [Value.slice.injEq] at hv
  obtain ⟨rfl, _⟩ := hv
  exact ⟨_, rfl, hlt, h.cells (g := g) rfl k u hu⟩
end

theorem bytes_size (l : List UInt8) : (byteCells l).length = l.length := by simp [byteCells]
theorem bytes_get (l : List UInt8) (k : Nat) (u : Value) (h : (byteCells l)[k]? = some u) : ∃ b, l[k]? = some b ∧ u = .int .u8 (b.toNat : Int) := by
  unfold byteCells at h
  rw [List.getElem?_map] at h
  cases hl : l[k]? with
  | none => rw [hl] at h; simp at h
  | some a => rw [hl] at h; simp at h; exact ⟨a, rfl, h.symm⟩

/-- A byte of a slice. -/
theorem Reads.byte {w : World} {B n : Nat} {A : Option Addr} {l : List UInt8} (h : Reads w B A n (byteCells l)) {k : Nat} (hk : k < n) :
    ∃ ad b, A = some ad ∧ l[k]? = some b ∧ w.cell? (ad.add k) = some (.int .u8 (b.toNat : Int)) := by
  obtain ⟨ad, u, hA, _, hu, hc⟩ := h.at_ hk
  obtain ⟨b, hb, rfl⟩ := bytes_get l k u hu
  exact ⟨ad, b, hA, hb, hc⟩

/-- string(b) -/
theorem conv_run {P : Program} {w : World} {B n c : Nat} {A : Option Addr} {l : List UInt8} (h : Reads w B A n (byteCells l)) (src dst e : TypeId) (hs : P.underlying src = some (.slice e)) (he : P.underlying e = some (.int .u8)) (hd : P.underlying dst = some .string) (hA : A = none → n = 0) :
    (convert src dst (.slice A n c)).run P w = .ok (.string ⟨l.toArray⟩) w := by
  rw [run_convert_bytes_string w src dst e _ n c hs he hd]
  have hlen : l.length = n := by rw [← bytes_size]; exact h.1
  cases A with
  | none =>
    have : n = 0 := hA rfl
    subst this
    obtain rfl : l = [] := List.eq_nil_of_length_eq_zero hlen
    simp [Conv.bytesToString]
    rfl
  | some a =>
    have hl : (loadCells a n).run P w = .ok ((l.map fun b : UInt8 => (b.toNat : Int)).map (Value.int .u8)).toArray w := by
      have := run_loadCells_list (P := P) w a ((l.map fun b : UInt8 => (b.toNat : Int)).map (Value.int .u8)) (fun j v hj => by
        have hjn : j < n := by
          rcases Nat.lt_or_ge j n with h | h
          · exact h
          · rw [List.getElem?_eq_none (by simp; omega)] at hj; cases hj
        obtain ⟨ad, b, hA, hb, hc⟩ := h.byte hjn
        cases hA
        rw [hc, ← hj]
        simp [hb])
      simpa [hlen] using this
    rw [run_bytesToString w a n c _ hl, foldl_push_bytes]
    congr 2
    apply ba_ext
    have e1 : List.map ((fun n : Int => UInt8.ofNat n.toNat) ∘ fun b : UInt8 => (b.toNat : Int)) l = l := by
      conv => rhs; rw [← List.map_id l]
      exact List.map_congr_left fun x _ => by simp
    simp [ByteArray.empty, ByteArray.emptyWithCapacity]
    rw [e1]
    rfl

end Go.Proofs.Ytandmdmgleeogaa
