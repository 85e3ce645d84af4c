/- Memory: a slice appended to a row of the call's own; walks: the frame of bytes, the program's and the reference's. -/
import Derived.Test.YtandmdmgleeogaaX2
import Derived.Laws.AppendOwnNone
namespace Go.Proofs.Ytandmdmgleeogaa
open Go.RowKit
open Go.Lib (byteCells)

theorem bytes_one (l : List UInt8) : ∀ u ∈ byteCells l, u.oneCell' = true := by
  intro u hu
  unfold byteCells at hu
  obtain ⟨b, _, rfl⟩ := List.mem_map.1 hu
  rfl

section
variable {P : Program} {ops : Array Oper} {rest : List Oper} {o : Oper} {a : Act} {Q : Exit → Act → World → Prop}
/-- b = append(b, c...) -/
theorem wp_join (hgd : o.guard = none) (s x : Operand) (t : TypeId) (ho : o.op = .call { callee := .builtin .append, args := #[s, x], argTypes := #[t, t] })
    (e : TypeId) (i : TypeInfo) (z : Value) (bytes : Nat) (ht : P.underlying t = some (.slice e)) (hi : P.info? e = some i) (hz : i.zero = some z) (hsize : i.size = 1) (hby : i.bytes = bytes) (hzs : z.cells.size = 1)
    (B : Nat) (v : Value) (xs : List Value) (hs : a.eval s = v) (w : World) (hown : Own w B e v xs) (hB : B ≤ w.heap.size)
    (A : Option Addr) (n c : Nat) (ys : List Value) (hx : a.eval x = .slice A n c) (hsl : Sl w A n c ys) (hone : ∀ u ∈ ys, u.oneCell' = true) (hlen : (xs.length + n) * bytes ≤ 140737488355328) (h63 : xs.length + n ≤ maxLen)
    (h : ∀ v' w', Own w' B e v' (xs ++ ys) → Below B w w' → wpList P ops Q rest (a.put o.dst v') w') : wpList P ops Q (o :: rest) a w := by
  obtain ⟨hnc, hc, hA, hr⟩ := hsl
  have hyl : ys.length = n := hr.1
  have hl1 : (xs ++ ys).length = xs.length + n := by rw [List.length_append, hyl]
  cases A with
  | none =>
    have hc0 := hA rfl
    have hn0 : n = 0 := by omega
    subst hc0 hn0
    obtain rfl : ys = [] := List.eq_nil_of_length_eq_zero hyl
    refine wpList_append_own_none hgd s x t ho B e i 1 ht hi v xs.length xs hs hown hx ?_
    exact h v w (by rw [List.append_nil]; exact hown) (Below.refl _ _)
  | some ad =>
    refine wpList_append_own _ hgd s x t ho B e i z 1 bytes ht hi hz hsize hby hzs (by decide) v xs.length xs hs hown ad n c ys hx (by omega) (fun j u hu => ?_) hone h63 hlen hB ?_
    · obtain ⟨ad', e', _, h3⟩ := hr.2 j u hu
      cases e'
      exact h3
    · intro v' w' hown' hg _
      refine h v' w' (by unfold Own; rw [hl1]; exact hown') ?_
      exact (Below.refl B w).grown hg hB fun k hk => (hown.lt k hk).1
end

theorem lit_sl (w : World) (cs : Array Value) (T : TypeId) (xs : List Value) (n : Nat) (hx : cs.toList = xs) (hn : xs.length = n) (hm : n ≤ 9223372036854775807) : Sl (w.alloc (.cells cs T)) (some ⟨w.heap.size, 0, none⟩) n n xs := by
  refine ⟨Nat.le_refl _, hm, (fun e => by cases e), hn, fun j u hu => ⟨_, rfl, by simp, ?_⟩⟩
  rw [addr0, World.cell?_alloc_mark, ← hu, ← hx]
  simp

theorem Own.sl5 {w : World} {B : Nat} {v : Value} {l : List UInt8} (h : Own w B 5 v (byteCells l)) : ∃ A m c, v = .slice A m c ∧ m = l.length ∧ Sl w A m c (byteCells l) := by
  obtain ⟨A, c, rfl, hs⟩ := h.sl
  exact ⟨A, _, c, rfl, bytes_size l, hs⟩

theorem seal_eq (l : List UInt8) : sealP l = headP l ++ four (sumP (headP l)) := rfl

set_option maxRecDepth 20000 in
theorem four27 (s : Nat) (hs : s < 4294967296) (w : World) :
    Calls Try.prog 27 #[.int .u32 (s : Int)] w fun e w' => ∃ A, e = .returned (.slice A 4 4) ∧ Sl w' A 4 4 (byteCells (four s)) ∧ (∀ ad, A = some ad → w.heap.size ≤ ad.block) ∧ Below w.heap.size w w' := by
  obtain ⟨b0, b1, b2, b3, hq, h0, h1, h2, h3⟩ := four_cells s hs
  have Hq := hide hq
  have h0' : ((s : Int) / 16777216 % 256) = (b0.toNat : Int) := by have := UInt8.toNat_lt b0; omega
  clear hq h0
  go_enter Try.func27, Try.ntmps27
  go_wp2
  go_ret
  refine ⟨_, rfl, lit_sl w _ 5 _ 4 ?_ ?_ (by decide), fun ad e => (by cases e; exact Nat.le_refl _), (Below.refl _ w).alloc (Nat.le_refl _) _⟩
  · rw [Hq.out]; rfl
  · rw [bytes_size]; rfl

set_option maxRecDepth 20000 in
set_option maxHeartbeats 800000 in
theorem seal16 (A : Option Addr) (n c : Nat) (l : List UInt8) (w : World) (h : Sl w A n c (byteCells l)) (hn : n ≤ 100000000) :
    Calls Try.prog 16 #[.slice A n c] w (Grew w w.heap.size (sealP l)) := by
  obtain ⟨i0, hi, hz0, hz1, hz2⟩ := info_parts info5
  have H9 := enc_len9 n (by omega)
  have hlen := h.len
  have Hlen := hide hlen
  have H := hide h
  clear hlen h
  go_enter Try.func16, Try.ntmps16
  go_wp2_with fail
  refine (put25 none 0 0 [] n _ (Sl.nil _) (by omega) (by decide)).mono ?_
  intro e w1 hg
  obtain ⟨A1, c1, rfl, hs1, ho1, hb1⟩ := hg.sl
  rw [List.nil_append, Int.toNat_natCast] at hs1 ho1
  have H1 := hide (H.out.below hb1)
  have Ho1 := hide ho1
  have B1 := hide hb1
  have hsz1 := hb1.size
  clear hg hs1 ho1 hb1
  go_wp2_with (at_builtin; refine wp_join rfl (.tmp 7) (.tmp 8) 23 rfl 5 i0 (.int .u8 0) 1 Try.underlying23 hi hz0 hz1 hz2 rfl w.heap.size _ (byteCells (enc n)) rfl _ Ho1.out hsz1 A n c (byteCells l) rfl H1.out (bytes_one _) (by rw [bytes_size]; omega) (by rw [bytes_size]; unfold maxLen; omega) ?_)
  intro v2 w2 ho2 hb2
  have hh : byteCells (enc n) ++ byteCells l = byteCells (headP l) := by rw [← Go.Lib.byteCells_append, ← Hlen.out]; rfl
  rw [hh] at ho2
  have hhl : (headP l).length ≤ 100000009 := by unfold headP; rw [List.length_append, Hlen.out]; omega
  obtain ⟨A2, m2, c2, rfl, hm2, hs2⟩ := ho2.sl5
  have Ho2 := hide ho2
  have hmb : m2 ≤ 100000009 := by omega
  have H2 := hide hs2
  have B2 := hide (B1.out.trans hb2)
  have hsz2 := B2.out.size
  clear hm2 ho2 hs2 hb2 hh B1 Ho1 H1
  go_wp2_with fail
  refine (sumb26 A2 m2 c2 (headP l) _ H2.out).mono ?_
  rintro e w3 ⟨b0, b1, b2, b3, rfl, Hq, hb3⟩
  have Ho3 := hide (Ho2.out.below hb3)
  have B3 := hide (B2.out.trans (hb3.mono hsz2))
  have hsz3 := B3.out.size
  have S3 := hide (lit_sl w3 #[.int .u8 (b0.toNat : Int), .int .u8 (b1.toNat : Int), .int .u8 (b2.toNat : Int), .int .u8 (b3.toNat : Int)] 47 (byteCells [b0, b1, b2, b3]) 4 rfl rfl (by decide))
  have Ho3' := hide (Ho3.out.below (bnew (Below.refl _ w3) (.cells #[.int .u8 (b0.toNat : Int), .int .u8 (b1.toNat : Int), .int .u8 (b2.toNat : Int), .int .u8 (b3.toNat : Int)] 47)))
  have hsz3' : w.heap.size ≤ (w3.alloc (.cells #[.int .u8 (b0.toNat : Int), .int .u8 (b1.toNat : Int), .int .u8 (b2.toNat : Int), .int .u8 (b3.toNat : Int)] 47)).heap.size := by simp; omega
  have hml : (byteCells (headP l)).length ≤ 100000009 := by rw [bytes_size]; exact hhl
  clear hb3 B2 Ho2 H2
  go_wp2_with (at_builtin; refine wp_join rfl (.tmp 12) (.tmp 13) 23 rfl 5 i0 (.int .u8 0) 1 Try.underlying23 hi hz0 hz1 hz2 rfl w.heap.size _ (byteCells (headP l)) rfl _ Ho3'.out hsz3' _ 4 4 (byteCells [b0, b1, b2, b3]) rfl S3.out (bytes_one _) (by omega) (by unfold maxLen; omega) ?_)
  intro v4 w4 ho4 hb4
  rw [← Hq.out, ← Go.Lib.byteCells_append, ← seal_eq] at ho4
  have Ho4 := hide ho4
  have B4 := hide ((B3.out.alloc hsz3 _).trans hb4)
  clear ho4 hb4 B3 Ho3 Ho3' S3
  go_wp2
  go_ret
  exact ⟨_, rfl, Ho4.out, B4.out⟩

end Go.Proofs.Ytandmdmgleeogaa
