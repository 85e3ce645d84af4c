/- What a stranger's call keeps of a range of blocks; the two closures that are called at each occurrence. -/
import Derived.Test.YtdneoeiggebijaaE1
import Derived.Test.YtdneoeiggebijaaT3
import Derived.Test.YtdneoeiggebijaaU1
namespace Go.Proofs.Ytdneoeiggebijaa
open Go.RowKit
open Go.ChangeShapes (block_add)

/-- From w to w' the blocks from Y on below X are as they were. -/
def Ag (Y X : Nat) (w w' : World) : Prop := w.heap.size ≤ w'.heap.size ∧ ∀ b, Y ≤ b → b < X → w'.heap[b]? = w.heap[b]?
theorem Ag.refl (Y X : Nat) (w : World) : Ag Y X w w := ⟨Nat.le_refl _, fun _ _ _ => rfl⟩
theorem Ag.trans {Y X : Nat} {a b c : World} (h : Ag Y X a b) (k : Ag Y X b c) : Ag Y X a c := ⟨Nat.le_trans h.1 k.1, fun g h1 h2 => (k.2 g h1 h2).trans (h.2 g h1 h2)⟩
theorem Ag.of_below {Y X Z : Nat} {w w' : World} (h : Below Z w w') (hz : X ≤ Z) : Ag Y X w w' := ⟨h.size, fun b _ h2 => h.block b (by omega)⟩
theorem Ag.cell {Y X : Nat} {w w' : World} (h : Ag Y X w w') {p : Addr} (h1 : Y ≤ p.block) (h2 : p.block < X) : w'.cell? p = w.cell? p := World.cell?_of_block (h.2 _ h1 h2)
/-- A slice whose cells lie from block Y on, below X. -/
def SlX (w : World) (Y X : Nat) (A : Option Addr) (n c : Nat) (xs : List Value) : Prop := Sl w A n c xs ∧ ∀ ad, A = some ad → Y ≤ ad.block ∧ ad.block < X
theorem SlX.ag {w w' : World} {Y X : Nat} {A : Option Addr} {n c : Nat} {xs : List Value} (h : SlX w Y X A n c xs) (ha : Ag Y X w w') : SlX w' Y X A n c xs := by
  obtain ⟨⟨h1, h2, h3, h4⟩, h5⟩ := h
  refine ⟨⟨h1, h2, h3, h4.1, fun k u hu => ?_⟩, h5⟩
  obtain ⟨ad, e, hb, hc⟩ := h4.2 k u hu
  obtain ⟨a1, a2⟩ := h5 ad e
  exact ⟨ad, e, Nat.lt_of_lt_of_le hb ha.1, (ha.cell (p := ad.add k) (by rw [block_add]; exact a1) (by rw [block_add]; exact a2)).trans hc⟩

/-- Find's closure: its box in block B, its row from block X on. -/
def StF (w : World) (B X : Nat) (W : World) (l : List Int) : Prop :=
  B < X ∧ X ≤ W.heap.size ∧ (∃ v, W.heap[B]? = some (.cells #[v] 24 (0, 0)) ∧ Own W X 3 v (numCells l)) ∧ Below B w W

set_option maxRecDepth 20000 in
set_option maxHeartbeats 1600000 in
theorem visit27 (w : World) (B X : Nat) (W : World) (l : List Int) (k : Nat) (h : StF w B X W l) (hl : l.length ≤ 100001) :
    Calls Try.prog 27 #[.int .i64 (k : Int), .pointer (some ⟨B, 0, none⟩)] W fun e W' => e = .returned (.tuple #[]) ∧ StF w B X W' (l ++ [(k : Int)]) ∧ Ag (B + 1) X W W' := by
  obtain ⟨i0, hi, hz0, hz1, hz2⟩ := info_parts infoI
  obtain ⟨hBX, hX, ⟨v, hv, ho⟩, hb⟩ := h
  have hlen : (numCells l).length ≤ 100001 := by rw [num_len]; exact hl
  have hc := cell_of_one hv
  have E := hide (show numCells l ++ [.int .i64 (k : Int)] = numCells (l ++ [(k : Int)]) by rw [num_app]; rfl)
  have Hv := hide hv
  have Ho := hide ho
  have Hb := hide hb
  clear hv ho hb hl
  go_enter Try.func27, Try.ntmps27
  go_wp2_with (first
    | (at_builtin; refine wp_push rfl (.tmp 3) (.tmp 5) 24 rfl 3 i0 (.int .i64 0) 8 Try.underlying24 hi hz0 hz1 hz2 rfl X v (numCells l) rfl W _ rfl Ho.out.src hX _ rfl rfl (by omega) (by unfold maxLen; omega) ?_; intro v' W1 ho1 hb1; have hv1 := (hb1.block B hBX).trans Hv.out; have hc1 := cell_of_one hv1; have hf1 := free_of_one hv1; have Hv1 := hide hv1; have B1 := hide hb1; have O1 := hide ho1; rw [E.out] at ho1; obtain ⟨A', m', c', rfl, -, -⟩ := ho1.slI; clear hv1 hb1 ho1)
    | fail)
  go_end0
  have hs1 := B1.out.size
  have O2 := O1.out.set_other hBX 0 (.slice A' m' c')
  rw [E.out] at O2
  exact ⟨rfl, ⟨hBX, by simp [World.setCell]; omega, ⟨_, one_setCell Hv1.out, O2⟩, (Hb.out.trans (B1.out.mono (by omega))).setCell (Nat.le_refl _) _⟩, by simp [World.setCell]; omega, fun b h1 h2 => (Below.heap_setCell W1 ⟨B, 0, none⟩ _ b (by show b ≠ B; omega)).trans (B1.out.block b h2)⟩

/-- Count's closure: its string in block B, the count and the end of the last occurrence behind it. -/
def StC (w : World) (B m : Nat) (X : Nat) (W : World) (l : List Int) : Prop :=
  B + 2 < X ∧ X ≤ W.heap.size ∧ (∃ t : ByteArray, t.size = m ∧ W.heap[B]? = some (.cells #[.string t] 9 (0, 0))) ∧ W.heap[B + 1]? = some (.cells #[.int .i64 (((grS m l).1 : Nat) : Int)] 3 (0, 0)) ∧ W.heap[B + 2]? = some (.cells #[.int .i64 (grS m l).2] 3 (0, 0)) ∧ (0 ≤ (grS m l).2 ∧ (grS m l).2 ≤ 200000) ∧ Below B w W

set_option maxRecDepth 20000 in
set_option maxHeartbeats 1600000 in
theorem visit29 (w : World) (B m X : Nat) (W : World) (l : List Int) (k : Nat) (h : StC w B m X W l) (hl : l.length ≤ 100001) (hm : m ≤ 100000) (hk : k ≤ 100000) :
    Calls Try.prog 29 #[.int .i64 (k : Int), .pointer (some ⟨B + 2, 0, none⟩), .pointer (some ⟨B + 1, 0, none⟩), .pointer (some ⟨B, 0, none⟩)] W fun e W' => e = .returned (.tuple #[]) ∧ StC w B m X W' (l ++ [(k : Int)]) ∧ Ag (B + 3) X W W' := by
  obtain ⟨hBX, hX, ⟨t, ht, hv0⟩, hv1, hv2, hfr, hb⟩ := h
  have hg1 := grS_le m l
  have hsn := grS_snoc m l (k : Int)
  obtain ⟨n, hn⟩ : ∃ n, (grS m l).1 = n := ⟨_, rfl⟩
  obtain ⟨f, hf⟩ : ∃ f, (grS m l).2 = f := ⟨_, rfl⟩
  unfold gr at hsn
  rw [hn] at hv1 hg1 hsn
  rw [hf] at hv2 hfr hsn
  have c0 := cell_of_one hv0
  have c1 := cell_of_one hv1
  have c2 := cell_of_one hv2
  have f1 := free_of_one hv1
  have f2 := free_of_one hv2
  obtain ⟨hf0, hf1⟩ := hfr
  have hmi : (t.size : Int) = (m : Int) := by omega
  have H0 := hide hv0
  have H1 := hide hv1
  have H2 := hide hv2
  have Hb := hide hb
  have Ht := hide ht
  have Hmi := hide hmi
  have hts : t.size ≤ 100000 := by omega
  have hn1 : n ≤ 100001 := by omega
  clear hv0 hv1 hv2 hb hl ht hmi
  by_cases hge : f ≤ (k : Int)
  · rw [if_pos hge] at hsn
    have Hsn := hide hsn
    have hd : decide ((k : Int) ≥ f) = true := decide_eq_true hge
    clear hsn hn hf hm
    go_enter Try.func29, Try.ntmps29
    go_wp2
    go_end0
    have hne : ∀ (a b : Nat), a ≠ b → ∀ (u : Value) (V : World), (V.setCell ⟨b, 0, none⟩ u).heap[a]? = V.heap[a]? := fun a b h u V => Below.heap_setCell V ⟨b, 0, none⟩ u a h
    refine ⟨rfl, ⟨hBX, by simp [World.setCell]; omega, ⟨t, Ht.out, ?_⟩, ?_, ?_, ?_, ((Hb.out).setCell (by show B ≤ B + 1; omega) _).setCell (by show B ≤ B + 2; omega) _⟩, by simp [World.setCell], fun b h1 h2 => ?_⟩
    · rw [hne _ _ (by omega), hne _ _ (by omega)]; exact H0.out
    · rw [Hsn.out, hne _ _ (by omega)]
      show _ = some (Obj.cells #[.int .i64 ((n + 1 : Nat) : Int)] 3 (0, 0))
      rw [show ((n + 1 : Nat) : Int) = (n : Int) + 1 by omega]
      exact one_setCell H1.out
    · rw [Hsn.out]
      have := one_setCell (u := .int .i64 ((k : Int) + (t.size : Int))) ((hne (B + 2) (B + 1) (by omega) (.int .i64 ((n : Int) + 1)) W).trans H2.out)
      rw [← Hmi.out]
      exact this
    · rw [Hsn.out]
      have := Hmi.out
      constructor <;> (show _ ≤ _; simp; omega)
    · rw [hne _ _ (by omega), hne _ _ (by omega)]
  · rw [if_neg hge] at hsn
    have Hsn := hide (show grS m (l ++ [(k : Int)]) = (n, f) by rw [hsn]; exact Prod.ext hn hf)
    have hd : decide ((k : Int) ≥ f) = false := decide_eq_false (by omega)
    clear hsn hn hf hm
    go_enter Try.func29, Try.ntmps29
    go_wp2
    go_end0
    exact ⟨rfl, ⟨hBX, hX, ⟨t, Ht.out, H0.out⟩, by rw [Hsn.out]; exact H1.out, by rw [Hsn.out]; exact H2.out, by rw [Hsn.out]; exact ⟨hf0, hf1⟩, Hb.out⟩, Ag.refl _ _ _⟩

end Go.Proofs.Ytdneoeiggebijaa
