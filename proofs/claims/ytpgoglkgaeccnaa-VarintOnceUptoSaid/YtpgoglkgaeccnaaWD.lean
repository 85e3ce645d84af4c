/- Walk: the chapter's examples. -/
import Derived.Test.YtpgoglkgaeccnaaWC
namespace Go.Proofs.Ytpgoglkgaeccnaa
open Go.RowKit
open Go.Lib (byteCells strCells)

theorem lit_reads (w : World) (cs : Array Value) (T : TypeId) (xs : List Value) (n : Nat) (hx : cs.toList = xs) (hn : xs.length = n) (hm : n ≤ 9223372036854775807) : Sl (w.alloc (.cells cs T)) (some ⟨w.heap.size, 0, none⟩) n n xs := by
  refine ⟨Nat.le_refl _, hm, (fun e => by cases e), hn, fun j u hu => ⟨_, rfl, by simp, ?_⟩⟩
  rw [addr0, World.cell?_alloc_mark, ← hu, ← hx]
  simp

theorem enc0 : enc 0 = [0] := enc_low 0 (by decide)
theorem enc127 : enc 127 = [127] := enc_low 127 (by decide)
theorem enc128 : enc 128 = [128, 1] := by rw [enc_high 128 (by decide), enc_low (128 / 128) (by decide)]; rfl
theorem enc300 : enc 300 = [172, 2] := by rw [enc_high 300 (by decide), enc_low (300 / 128) (by decide)]; rfl
theorem enc2 : enc 2 = [2] := enc_low 2 (by decide)
theorem enc3 : enc 3 = [3] := enc_low 3 (by decide)
theorem putL3 : putL [] [3, 5, 300] = ([3, 3, 2, 167, 2], 0) := by
  have e1 : enc 295 = [167, 2] := by rw [enc_high 295 (by decide), enc_low (295 / 128) (by decide)]; rfl
  rw [putL_yes _ _ (by decide)]
  show ([] ++ (enc 3 ++ (enc 3 ++ (enc 2 ++ (enc 295 ++ [])))), 0) = _
  rw [enc3, enc2, e1]
  rfl

theorem put12c (i : Int) (l : List UInt8) (n : Nat) (s : ByteArray) (hl : enc i.toNat = l) (hn : l.length = n) (hs : ⟨l.toArray⟩ = s) (hi : i ≤ 9223372036854775807) (w : World) :
    Calls Try.prog 12 #[.slice none 0 0, .int .i64 i] w fun e w' => ∃ A c, e = .returned (.slice A n c) ∧ (convert 22 9 (.slice A n c)).run Try.prog w' = .ok (.string s) w' ∧ Below w.heap.size w w' := by
  refine (put12 none 0 0 [] i w (Sl.nil w) hi (by decide)).mono ?_
  intro e w' h
  obtain ⟨A, c, rfl, hsl, _, hb⟩ := h.sl
  rw [List.nil_append, hl] at hsl ⊢
  subst hn hs
  exact ⟨A, c, rfl, hsl.conv, hb⟩
theorem puts14c (s : ByteArray) (l : List UInt8) (n : Nat) (t : ByteArray) (hl : enc s.size ++ s.data.toList = l) (hn : l.length = n) (ht : ⟨l.toArray⟩ = t) (hs : s.size ≤ 1000000000) (w : World) :
    Calls Try.prog 14 #[.slice none 0 0, .string s] w fun e w' => ∃ A c, e = .returned (.slice A n c) ∧ (convert 22 9 (.slice A n c)).run Try.prog w' = .ok (.string t) w' ∧ Below w.heap.size w w' := by
  refine (puts14 none 0 0 [] s w (Sl.nil w) hs (by decide)).mono ?_
  intro e w' h
  obtain ⟨A, c, rfl, hsl, _, hb⟩ := h.sl
  rw [List.nil_append, hl] at hsl ⊢
  subst hn ht
  exact ⟨A, c, rfl, hsl.conv, hb⟩
theorem putl23c (w : World) (A' : Option Addr) (n' c' : Nat) (xs : List Int) (l : List UInt8) (n : Nat) (h : Sl w A' n' c' (numCells xs)) (hn' : n' ≤ 10000000) (hw : ∀ z ∈ xs, z ≤ 9223372036854775807) (hr : putL [] xs = (l, 0)) (hn : l.length = n) :
    Calls Try.prog 23 #[.slice none 0 0, .slice A' n' c'] w fun e w' => ∃ A c, e = .returned (.tuple #[.slice A n c, .int .i64 0]) ∧ Sl w' A n c (byteCells l) ∧ Below w.heap.size w w' := by
  refine (putl23 none A' 0 0 n' c' [] xs w (Sl.nil w) h (by decide) hn' hw).mono ?_
  rintro e w' ⟨v, rfl, hown, hb⟩
  rw [hr] at hown ⊢
  obtain ⟨A, c, rfl, hs⟩ := hown.sl
  rw [bytes_size] at hs ⊢
  subst hn
  exact ⟨A, c, rfl, hs, hb⟩
theorem getl20c (A : Option Addr) (n c : Nat) (l : List UInt8) (w : World) (h : Sl w A n c (byteCells l)) (hn : n ≤ 1000000000) (i most : Int) (er : Nat) (hg : getL l i most = ([], 0, er)) :
    Calls Try.prog 20 #[.slice A n c, .int .i64 i, .int .i64 most] w fun e w' => ∃ v, e = .returned (.tuple #[v, .int .i64 0, .int .i64 (er : Int)]) ∧ Below w.heap.size w w' := by
  refine (getl20 A n c l w h hn i most).mono ?_
  rw [hg]
  rintro e w' ⟨v, rfl, _, hb⟩
  exact ⟨v, rfl, hb⟩

/-- Get of a literal that it refuses. -/
theorem get16c (w0 : World) (cs : Array Value) (l : List UInt8) (n : Nat) (i : Int) (er : Nat) (hx : cs.toList = byteCells l) (hn : l.length = n) (hm : n ≤ 9223372036854775807) (hg : getP l i = (0, 0, er)) :
    Calls Try.prog 16 #[.slice (some ⟨w0.heap.size, 0, none⟩) n n, .int .i64 i] (w0.alloc (.cells cs 5)) fun e w' => e = .returned (.tuple #[.int .i64 0, .int .i64 0, .int .i64 (er : Int)]) ∧ Below w0.heap.size w0 w' := by
  have s := lit_reads w0 cs 5 (byteCells l) n hx (by rw [bytes_size]; exact hn) hm
  refine (get16' _ _ n n l _ s.reads (Nat.le_refl _) hm i 0 0 er hg).mono ?_
  rintro e w' ⟨rfl, rfl⟩
  exact ⟨rfl, (Below.refl _ w0).alloc (Nat.le_refl _) _⟩

set_option maxRecDepth 20000 in
set_option maxHeartbeats 3200000 in
theorem alive10 (w : World) : Calls Try.prog 10 #[] w fun e w' => e = .returned (.bool true) ∧ Below w.heap.size w w' := by
  go_enter Try.func10, Try.ntmps10
  go_wp2_with fail
  refine (put12c 0 [0] 1 ⟨#[0]⟩ enc0 rfl rfl (by decide) _).mono ?_
  rintro e w1 ⟨A1, c1, rfl, hc1, hb1⟩
  have B1 := hide hb1
  clear hb1
  go_wp2_with fail
  refine (put12c 127 [127] 1 ⟨#[127]⟩ enc127 rfl rfl (by decide) _).mono ?_
  rintro e w2 ⟨A2, c2, rfl, hc2, hb2⟩
  have B2 := hide (bgo B1.out hb2)
  clear hb2 hc1 B1
  go_wp2_with fail
  refine (put12c 128 [128, 1] 2 ⟨#[128, 1]⟩ enc128 rfl rfl (by decide) _).mono ?_
  rintro e w3 ⟨A3, c3, rfl, hc3, hb3⟩
  have B3 := hide (bgo B2.out hb3)
  clear hb3 hc2 B2
  go_wp2_with fail
  refine (put12c 300 [172, 2] 2 ⟨#[172, 2]⟩ enc300 rfl rfl (by decide) _).mono ?_
  rintro e w4 ⟨A4, c4, rfl, hc4, hb4⟩
  have B4 := hide (bgo B3.out hb4)
  clear hb4 hc3 B3
  go_wp2_with fail
  refine (putl23c _ _ 3 3 [3, 5, 300] [3, 3, 2, 167, 2] 5 (lit_reads w4 #[.int .i64 3, .int .i64 5, .int .i64 300] 3 (numCells [3, 5, 300]) 3 rfl rfl (by decide)) (by decide) (by decide) putL3 rfl).mono ?_
  rintro e w5 ⟨A5, c5, rfl, hs5, hb5⟩
  have B5 := hide (bgo B4.out ((Below.refl _ w4).alloc (Nat.le_refl _) _ |>.trans (hb5.mono (by simp))))
  have S5 := hide hs5
  clear hb5 hc4 B4 hs5
  go_wp2_with fail
  refine (puts14c ⟨#[97, 98]⟩ [2, 97, 98] 3 ⟨#[2, 97, 98]⟩ (by show enc 2 ++ [97, 98] = _; rw [enc2]; rfl) rfl rfl (by decide) _).mono ?_
  rintro e w6 ⟨A6, c6, rfl, hc6, hb6⟩
  have hc5 := (S5.out.below hb6).conv
  have B6 := hide (bgo B5.out hb6)
  clear hb6 B5 S5
  go_wp2_with fail
  refine (get16c w6 #[.int .u8 128, .int .u8 0] [128, 0] 2 0 3 rfl rfl (by decide) (by decide)).mono ?_
  rintro e w7 ⟨rfl, hb7⟩
  have B7 := hide (bgo B6.out hb7)
  clear hc5 hc6 hb7 B6
  go_wp2_with fail
  refine (get16c w7 #[.int .u8 128] [128] 1 0 5 rfl rfl (by decide) (by decide)).mono ?_
  rintro e w8 ⟨rfl, hb8⟩
  have B8 := hide (bgo B7.out hb8)
  clear hb8 B7
  go_wp2_with fail
  refine (get16c w8 #[.int .u8 1] [1] 1 2 2 rfl rfl (by decide) (by decide)).mono ?_
  rintro e w9 ⟨rfl, hb9⟩
  have B9 := hide (bgo B8.out hb9)
  clear hb9 B8
  go_wp2_with fail
  refine (getl20c _ 3 3 [2, 4, 0] _ (lit_reads w9 #[.int .u8 2, .int .u8 4, .int .u8 0] 5 (byteCells [2, 4, 0]) 3 rfl rfl (by decide)) (by decide) 0 5 3 (by decide)).mono ?_
  rintro e w10 ⟨v, rfl, hb10⟩
  have B10 := hide (bgo B9.out ((Below.refl _ w9).alloc (Nat.le_refl _) _ |>.trans (hb10.mono (by simp))))
  clear hb10 B9
  go_wp2
  go_ret
  exact ⟨rfl, B10.out⟩

end Go.Proofs.Ytpgoglkgaeccnaa
