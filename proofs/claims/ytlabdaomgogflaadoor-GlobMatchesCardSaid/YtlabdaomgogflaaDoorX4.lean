/- The reference: a set of a pattern. -/
import Derived.Test.YtlabdaomgogflaaDoorX3
import Derived.Test.YtlabdaomgogflaaDoorWE
import Derived.Test.YtlabdaomgogflaaDoorPj
import Derived.Deep.AppendLies
import Derived.Deep.RegionLaw
import Derived.BigRegion
namespace Go.Proofs.YtlabdaomgogflaaDoor
open Go.RowKit

theorem info64 : (Tryd.prog.info? 64).map (fun i => (i.zero, i.size, i.bytes)) = some (some (.agg #[.int .u8 0, .int .u8 0]), 2, 2) := by kernel_rfl

/-- Block b holds the four cells of an element, and may be written. -/
def Q4 (w : World) (b : Nat) (k c n v : Value) : Prop :=
  b < w.heap.size ∧ (w.cell? ⟨b, 0, none⟩ = some k ∧ w.cell? ⟨b, 1, none⟩ = some c ∧ w.cell? ⟨b, 2, none⟩ = some n ∧ w.cell? ⟨b, 3, none⟩ = some v) ∧
  (w.frozen? ⟨b, 0, none⟩ = false ∧ w.frozen? ⟨b, 1, none⟩ = false ∧ w.frozen? ⟨b, 2, none⟩ = false ∧ w.frozen? ⟨b, 3, none⟩ = false)
theorem Q4.mk' {w : World} {b : Nat} {k c n v : Value} (h : b < w.heap.size) (c0 : w.cell? ⟨b, 0, none⟩ = some k) (c1 : w.cell? ⟨b, 1, none⟩ = some c) (c2 : w.cell? ⟨b, 2, none⟩ = some n) (c3 : w.cell? ⟨b, 3, none⟩ = some v)
    (f0 : w.frozen? ⟨b, 0, none⟩ = false) (f1 : w.frozen? ⟨b, 1, none⟩ = false) (f2 : w.frozen? ⟨b, 2, none⟩ = false) (f3 : w.frozen? ⟨b, 3, none⟩ = false) : Q4 w b k c n v := ⟨h, ⟨c0, c1, c2, c3⟩, f0, f1, f2, f3⟩
theorem Q4.alloc (w : World) (k c n v : Value) : Q4 (w.alloc (.cells #[k, c, n, v] 47)) w.heap.size k c n v := by
  refine ⟨by simp, ⟨?_, ?_, ?_, ?_⟩, ?_, ?_, ?_, ?_⟩
  · rw [World.cell?_alloc_mark]; rfl
  · rw [World.cell?_alloc_mark]; rfl
  · rw [World.cell?_alloc_mark]; rfl
  · rw [World.cell?_alloc_mark]; rfl
  · rw [World.frozen?_alloc_mark]; simp
  · rw [World.frozen?_alloc_mark]; simp
  · rw [World.frozen?_alloc_mark]; simp
  · rw [World.frozen?_alloc_mark]; simp
theorem Q4.below {w w' : World} {b : Nat} {k c n v : Value} (h : Q4 w b k c n v) (hb : Below w.heap.size w w') : Q4 w' b k c n v := by
  obtain ⟨h0, ⟨c0, c1, c2, c3⟩, f0, f1, f2, f3⟩ := h
  exact ⟨by have := hb.size; omega, ⟨(hb.cell (p := ⟨b, 0, none⟩) h0).trans c0, (hb.cell (p := ⟨b, 1, none⟩) h0).trans c1, (hb.cell (p := ⟨b, 2, none⟩) h0).trans c2, (hb.cell (p := ⟨b, 3, none⟩) h0).trans c3⟩,
    (hb.frozen (p := ⟨b, 0, none⟩) h0).trans f0, (hb.frozen (p := ⟨b, 1, none⟩) h0).trans f1, (hb.frozen (p := ⟨b, 2, none⟩) h0).trans f2, (hb.frozen (p := ⟨b, 3, none⟩) h0).trans f3⟩
theorem Q4.grown {w w' : World} {b : Nat} {k c n v : Value} {ob : Option Nat} (h : Q4 w b k c n v) (hg : w.grownBy w' ob) (hne : some b ≠ ob) : Q4 w' b k c n v := by
  obtain ⟨h0, ⟨c0, c1, c2, c3⟩, f0, f1, f2, f3⟩ := h
  exact ⟨by have := hg.size; omega, ⟨(hg.cell_far ⟨b, 0, none⟩ h0 hne).trans c0, (hg.cell_far ⟨b, 1, none⟩ h0 hne).trans c1, (hg.cell_far ⟨b, 2, none⟩ h0 hne).trans c2, (hg.cell_far ⟨b, 3, none⟩ h0 hne).trans c3⟩,
    (hg.frozen_far ⟨b, 0, none⟩ h0 hne).trans f0, (hg.frozen_far ⟨b, 1, none⟩ h0 hne).trans f1, (hg.frozen_far ⟨b, 2, none⟩ h0 hne).trans f2, (hg.frozen_far ⟨b, 3, none⟩ h0 hne).trans f3⟩
theorem off_ne {b i j : Nat} (h : i ≠ j) : (⟨b, i, none⟩ : Addr) ≠ ⟨b, j, none⟩ := fun e => h (congrArg Addr.off e)
theorem Q4.set2 {w : World} {b : Nat} {k c n v : Value} (h : Q4 w b k c n v) (x : Value) : Q4 (w.setCell ⟨b, 2, none⟩ x) b k c x v := by
  obtain ⟨h0, ⟨c0, c1, c2, c3⟩, f0, f1, f2, f3⟩ := h
  refine ⟨by simpa [World.setCell] using h0, ⟨?_, ?_, World.cell?_setCell_same _ _ _ c2, ?_⟩, by simpa using f0, by simpa using f1, by simpa using f2, by simpa using f3⟩
  · rw [World.cell?_setCell_other _ _ _ _ (off_ne (by omega))]; exact c0
  · rw [World.cell?_setCell_other _ _ _ _ (off_ne (by omega))]; exact c1
  · rw [World.cell?_setCell_other _ _ _ _ (off_ne (by omega))]; exact c3
theorem Q4.set3 {w : World} {b : Nat} {k c n v : Value} (h : Q4 w b k c n v) (x : Value) : Q4 (w.setCell ⟨b, 3, none⟩ x) b k c n x := by
  obtain ⟨h0, ⟨c0, c1, c2, c3⟩, f0, f1, f2, f3⟩ := h
  refine ⟨by simpa [World.setCell] using h0, ⟨?_, ?_, ?_, World.cell?_setCell_same _ _ _ c3⟩, by simpa using f0, by simpa using f1, by simpa using f2, by simpa using f3⟩
  · rw [World.cell?_setCell_other _ _ _ _ (off_ne (by omega))]; exact c0
  · rw [World.cell?_setCell_other _ _ _ _ (off_ne (by omega))]; exact c1
  · rw [World.cell?_setCell_other _ _ _ _ (off_ne (by omega))]; exact c2
theorem Q4.far {w : World} {b : Nat} {k c n v : Value} (h : Q4 w b k c n v) (b' o : Nat) (hb : b' ≠ b) (x : Value) : Q4 (w.setCell ⟨b', o, none⟩ x) b k c n v := by
  obtain ⟨h0, ⟨c0, c1, c2, c3⟩, f0, f1, f2, f3⟩ := h
  have ne : ∀ j, (⟨b', o, none⟩ : Addr) ≠ ⟨b, j, none⟩ := fun j e => hb (congrArg Addr.block e)
  refine ⟨by simpa [World.setCell] using h0, ⟨?_, ?_, ?_, ?_⟩, by simpa using f0, by simpa using f1, by simpa using f2, by simpa using f3⟩
  · rw [World.cell?_setCell_other _ _ _ _ (ne 0)]; exact c0
  · rw [World.cell?_setCell_other _ _ _ _ (ne 1)]; exact c1
  · rw [World.cell?_setCell_other _ _ _ _ (ne 2)]; exact c2
  · rw [World.cell?_setCell_other _ _ _ _ (ne 3)]; exact c3

/-- The bytes from i up to k. -/
def seg (s : ByteArray) (i k : Nat) : List UInt8 := (s.data.toList.drop i).take (k - i)
theorem seg_nil (s : ByteArray) (k : Nat) : seg s k k = [] := by unfold seg; rw [Nat.sub_self]; rfl
theorem seg_cons (s : ByteArray) (i k : Nat) (h : i < k) (hk : k ≤ s.size) : seg s i k = s[i]'(by omega) :: seg s (i + 1) k := by
  unfold seg
  rw [drop_at s i (by omega), show k - i = k - (i + 1) + 1 by omega, List.take_succ_cons]
theorem firstR_pair (a b c : UInt8) (r : List UInt8) (h : b = 45) : firstR (a :: b :: c :: r) = ((a, c), r) := by
  show (if b = 45 then ((a, c), r) else ((a, a), b :: c :: r)) = _
  rw [if_pos h]
theorem firstR_single (a : UInt8) (l : List UInt8) (h : ∀ b c r, l = b :: c :: r → b ≠ 45) : firstR (a :: l) = ((a, a), l) := by
  match l, h with
  | [], _ => rfl
  | [b], _ => rfl
  | b :: c :: r, h =>
    show (if b = 45 then ((a, c), r) else ((a, a), b :: c :: r)) = _
    rw [if_neg (h b c r rfl)]
theorem seg_two (s : ByteArray) (i k : Nat) (h : i + 2 < k) (hk : k ≤ s.size) (hd : s[i + 1]'(by omega) = 45) : ranges (seg s i k) = (s[i]'(by omega), s[i + 2]'(by omega)) :: ranges (seg s (i + 3) k) := by
  rw [ranges_cons _ (by rw [seg_cons s i k (by omega) hk]; simp), seg_cons s i k (by omega) hk, seg_cons s (i + 1) k (by omega) hk, seg_cons s (i + 2) k (by omega) hk, firstR_pair _ _ _ _ hd]
theorem seg_one (s : ByteArray) (i k : Nat) (h : i < k) (hk : k ≤ s.size) (hd : ∀ h2 : i + 2 < k, s[i + 1]'(by omega) ≠ 45) : ranges (seg s i k) = (s[i]'(by omega), s[i]'(by omega)) :: ranges (seg s (i + 1) k) := by
  rw [ranges_cons _ (by rw [seg_cons s i k h hk]; simp), seg_cons s i k h hk, firstR_single]
  intro b c r he
  have hlen : 2 ≤ (seg s (i + 1) k).length := by rw [he]; simp
  have hl : (seg s (i + 1) k).length = k - (i + 1) := by
    unfold seg
    rw [List.length_take, List.length_drop, size_list]
    omega
  have h2 : i + 2 < k := by omega
  rw [seg_cons s (i + 1) k (by omega) hk] at he
  have := (List.cons.inj he).1
  rw [← this]
  exact hd h2

/-- What the reference's loop for the end finds. -/
theorem end_none (s : ByteArray) (a : Nat) (ha : a < s.size) (h91 : s[a] = 91) (h : ∀ j (hj : j < s.size), a + 1 ≤ j → s[j] ≠ 93) : firstEl (s.data.toList.drop a) = 0 := by
  rw [drop_at s a ha, h91, fe91]
  have : Lib.indexByte (91 :: s.data.toList.drop (a + 1)) 93 = -1 := by
    apply ib_none
    intro y hy
    rcases List.mem_cons.1 hy with rfl | hy
    · decide
    · obtain ⟨j, hj, rfl⟩ := List.mem_iff_getElem.1 hy
      rw [List.getElem_drop]
      rw [List.length_drop, size_list] at hj
      exact h (a + 1 + j) (by omega) (by omega)
  rw [this, if_pos (by decide)]
theorem indexByte_at : ∀ (l : List UInt8) (c : UInt8) (i : Nat), l[i]? = some c → (∀ j y, j < i → l[j]? = some y → y ≠ c) → Lib.indexByte l c = i
  | [], _, _, h, _ => by simp at h
  | b :: l, c, 0, h, _ => by
    simp at h
    subst h
    unfold Lib.indexByte
    rw [if_pos (by simp)]
    rfl
  | b :: l, c, i + 1, h, hn => by
    have hb : b ≠ c := hn 0 b (by omega) rfl
    have ih := indexByte_at l c i (by simpa using h) (fun j y hj hy => hn (j + 1) y (by omega) (by simpa using hy))
    unfold Lib.indexByte
    rw [if_neg (by simpa using hb), ih, if_neg (by rw [beq_iff_eq]; omega)]
    omega
theorem end_some (s : ByteArray) (a k : Nat) (ha : a < s.size) (h91 : s[a] = 91) (hk : k < s.size) (hak : a + 1 ≤ k) (h93 : s[k] = 93) (h : ∀ j (hj : j < s.size), a + 1 ≤ j → j < k → s[j] ≠ 93) : firstEl (s.data.toList.drop a) = if setOk (seg s (a + 1) k) then k - a + 1 else 0 := by
  have hl : s.data.toList.drop a = 91 :: s.data.toList.drop (a + 1) := by rw [drop_at s a ha, h91]
  have hi : Lib.indexByte (s.data.toList.drop a) 93 = ((k - a : Nat) : Int) := by
    apply indexByte_at
    · rw [List.getElem?_drop, show a + (k - a) = k by omega, list_at s k hk, h93]
    · intro j y hj hy
      rw [List.getElem?_drop] at hy
      have hlt : a + j < s.size := by omega
      rw [list_at s _ hlt] at hy
      cases hy
      by_cases h0 : j = 0
      · subst h0
        rw [show s[a + 0] = s[a] from rfl, h91]
        decide
      · exact h (a + j) hlt (by omega) (by omega)
  rw [hl] at hi ⊢
  rw [fe91, hi, if_neg (by omega), Int.toNat_natCast]
  have e : ((91 :: s.data.toList.drop (a + 1)).take (k - a)).drop 1 = seg s (a + 1) k := by
    unfold seg
    rw [show k - a = k - (a + 1) + 1 by omega, List.take_succ_cons]
    rfl
  rw [e]
theorem el_in (s : ByteArray) (a k : Nat) (ha : a < s.size) (h91 : s[a] = 91) (hk : k < s.size) (hak : a + 1 ≤ k) (n : Nat) (hn : n = k - a + 1) : inOf ((s.data.toList.drop a).take n) = seg s (a + 1) k ∧ ((s.data.toList.drop a).take n).headD 0 = 91 := by
  have hl : s.data.toList.drop a = 91 :: s.data.toList.drop (a + 1) := by rw [drop_at s a ha, h91]
  subst hn
  refine ⟨?_, ?_⟩
  · unfold inOf seg
    have hlen : ((s.data.toList.drop a).take (k - a + 1)).length = k - a + 1 := by
      rw [List.length_take, List.length_drop, size_list]; omega
    rw [hlen, List.take_take, show min (k - a + 1 - 1) (k - a + 1) = k - a by omega, hl, show k - a = k - (a + 1) + 1 by omega, List.take_succ_cons]
    rfl
  · rw [hl, List.take_succ_cons]; rfl

end Go.Proofs.YtlabdaomgogflaaDoor
