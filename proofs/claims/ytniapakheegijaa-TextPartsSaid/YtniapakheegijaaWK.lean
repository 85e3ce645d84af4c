/- The walks of the laws on places and excerpts. -/
import Derived.Test.YtniapakheegijaaWJ
import Derived.Deep.RegionHeld3
namespace Go.Proofs.Ytniapakheegijaa
open Go.RowKit

theorem at_both (s : ByteArray) (off : Int) (hs : s.size ≤ 100000) : ∃ (x y : Int) (ok : Bool),
    (∀ w, Calls Try.prog 22 #[.string s, .int .i64 off] w fun e w' => e = .returned (.tuple #[.agg #[.int .i64 x, .int .i64 y], .bool ok]) ∧ Below w.heap.size w w') ∧
    (∀ w, Calls Try.prog 23 #[.string s, .int .i64 off] w fun e w' => e = .returned (.tuple #[.agg #[.int .i64 x, .int .i64 y], .bool ok]) ∧ Below w.heap.size w w') := by
  by_cases h : off < 0 ∨ (s.size : Int) ≤ off
  · exact ⟨0, 0, false, fun w => at22_no s off w h, fun w => at23_no s off w h⟩
  · obtain ⟨o, rfl⟩ : ∃ o : Nat, off = o := ⟨off.toNat, by omega⟩
    exact ⟨_, _, true, fun w => at22 s o w hs (by omega), fun w => at23 s o w hs (by omega)⟩

theorem off_both (s : ByteArray) (ln col : Int) (hs : s.size ≤ 100000) : ∃ (n : Int) (ok : Bool),
    (∀ w, Calls Try.prog 24 #[.string s, .agg #[.int .i64 ln, .int .i64 col]] w fun e w' => e = .returned (.tuple #[.int .i64 n, .bool ok]) ∧ Below w.heap.size w w') ∧
    (∀ w, Calls Try.prog 25 #[.string s, .agg #[.int .i64 ln, .int .i64 col]] w fun e w' => e = .returned (.tuple #[.int .i64 n, .bool ok]) ∧ Below w.heap.size w w') := by
  rcases off_cases s ln col with h | ⟨i, a, rfl, ha, h1, h2⟩
  · exact ⟨0, false, fun w => off24_no s ln col w hs h, fun w => off25_no s ln col w hs h⟩
  · exact ⟨_, true, fun w => off24 s i a col w hs ha h1 h2, fun w => off25 s i a col w hs ha h1 h2⟩

/-- Block b holds the two cells x and y. -/
def Two (w : World) (b : Nat) (x y : Value) : Prop := b < w.heap.size ∧ w.cell? ⟨b, 0, none⟩ = some x ∧ w.cell? ⟨b, 1, none⟩ = some y
theorem Two.keep {w w' : World} {b : Nat} {x y : Value} (h : Two w b x y) (hb : Below w.heap.size w w') : Two w' b x y :=
  ⟨by have := hb.size; have := h.1; omega, (hb.cell (p := ⟨b, 0, none⟩) h.1).trans h.2.1, (hb.cell (p := ⟨b, 1, none⟩) h.1).trans h.2.2⟩
theorem two_alloc (w : World) (x y : Value) (T : TypeId) : Two (w.alloc (.cells #[x, y] T)) w.heap.size x y :=
  ⟨by simp, by rw [World.cell?_alloc_mark]; rfl, by rw [World.cell?_alloc_mark]; rfl⟩
theorem Two.new {w : World} {b : Nat} {x y : Value} (h : Two w b x y) (o : Obj) : Two (w.alloc o) b x y := h.keep (bnew (Below.refl _ _) o)

set_option maxHeartbeats 800000 in
theorem law5 (s : ByteArray) (off ln col : Int) (w : World) (hreach : s.size ≤ 9223372036854775807) : Calls Try.prog 5 #[.string s, .int .i64 off, .agg #[.int .i64 ln, .int .i64 col]] w fun e w' => e = .returned (.bool true) ∧ Below w.heap.size w w' := by
  by_cases hbig : 2100 < s.size
  · go_enter Try.func5, Try.ntmps5
    go_wp2_with (go_at_call 11; refine (alive11 _).mono ?_; rintro e w1 ⟨rfl, hb1⟩)
    go_ret
    exact ⟨rfl, bgo (bnew (Below.refl _ _) _) hb1⟩
  · obtain ⟨x, y, ok, hA, hB⟩ := at_both s off (by omega)
    obtain ⟨n, ok2, hC, hD⟩ := off_both s ln col (by omega)
    have HA := hide hA
    have HB := hide hB
    have HC := hide hC
    have HD := hide hD
    clear hA hB hC hD
    go_enter Try.func5, Try.ntmps5
    go_wp2_with fail
    refine (alive11 _).mono ?_
    rintro e w1 ⟨rfl, hb1⟩
    have hp1 := (two_alloc w (.int .i64 ln) (.int .i64 col) 32).keep hb1
    go_wp2_with fail
    refine (HA.out _).mono ?_
    rintro e w2 ⟨rfl, hb2⟩
    have hp2 := hp1.keep hb2
    go_wp2_with fail
    refine (HB.out _).mono ?_
    rintro e w3 ⟨rfl, hb3⟩
    have hp3 := (hp2.new _).keep hb3
    have hx3 := (two_alloc w2 (.int .i64 x) (.int .i64 y) 32).keep hb3
    have hz3 := hb3.size
    have hp3c := (hp3.new (.cells #[.int .i64 x, .int .i64 y] 32)).2
    obtain ⟨pc0, pc1⟩ := hp3c
    go_wp2_with fail
    refine (HC.out _).mono ?_
    rintro e w4 ⟨rfl, hb4⟩
    clear pc0 pc1
    have hp4 := (hp3.new _).keep hb4
    have hx4 := (hx3.new _).keep hb4
    have hy4 := (two_alloc w3 (.int .i64 x) (.int .i64 y) 32).keep hb4
    obtain ⟨pc0, pc1⟩ := hp4.2
    go_wp2_with fail
    refine (HD.out _).mono ?_
    rintro e w5 ⟨rfl, hb5⟩
    clear pc0 pc1
    obtain ⟨_, x0, x1⟩ := hx4.keep hb5
    obtain ⟨_, y0, y1⟩ := hy4.keep hb5
    go_wp2
    go_ret
    exact ⟨rfl, bgo (bgo (bnew (bgo (bnew (bgo (bgo (bnew (Below.refl _ _) _) hb1) hb2) _) hb3) _) hb4) hb5⟩

theorem exc_both (s : ByteArray) (p q ar : Int) (hs : s.size ≤ 2100) (har : ar ≤ 9223372036854775807) : ∃ r : ByteArray,
    (∀ w, Calls Try.prog 29 #[.string s, .agg #[.int .i64 p, .int .i64 q], .int .i64 ar] w fun e w' => e = .returned (.string r) ∧ Below w.heap.size w w') ∧
    (∀ w, Calls Try.prog 30 #[.string s, .agg #[.int .i64 p, .int .i64 q], .int .i64 ar] w fun e w' => e = .returned (.string r) ∧ Below w.heap.size w w') := by
  by_cases h : NoExc s p q ar
  · exact ⟨⟨#[]⟩, fun w => exc29_no s p q ar w hs h, fun w => exc30_no s p q ar w h⟩
  · unfold NoExc at h
    obtain ⟨a, rfl⟩ : ∃ a : Nat, p = a := ⟨p.toNat, by omega⟩
    obtain ⟨b, rfl⟩ : ∃ b : Nat, q = b := ⟨q.toNat, by omega⟩
    have h0 : 0 < s.size := by omega
    have hab : a ≤ b := by omega
    have hb : b ≤ s.size := by omega
    have hle := lineNo_le_of s (min a (s.size - 1)) (min (max a (b - 1)) (s.size - 1)) (by omega) (by omega)
    have hlt := lineNo_lt s (min (max a (b - 1)) (s.size - 1)) h0 (by omega)
    exact ⟨_, fun w => exc29 s a b _ _ ar w hs h0 hab hb (by omega) har _ rfl rfl rfl hle hlt, fun w => exc30 s a b _ _ ar w hs h0 hab hb (by omega) _ rfl rfl rfl hle hlt⟩

set_option maxHeartbeats 1600000 in
theorem law7 (s : ByteArray) (p q ar : Int) (w : World) (hreach : s.size ≤ 9223372036854775807) (har : ar ≤ 9223372036854775807) : Calls Try.prog 7 #[.string s, .agg #[.int .i64 p, .int .i64 q], .int .i64 ar] w fun e w' => e = .returned (.bool true) ∧ Below w.heap.size w w' := by
  by_cases hbig : 2100 < s.size
  · have hd : decide ((2100 : Int) < (s.size : Int)) = true := by simp; omega
    go_enter Try.func7, Try.ntmps7
    go_wp2_with (go_at_call 11; refine (alive11 _).mono ?_; rintro e w1 ⟨rfl, hb1⟩)
    go_quiet (fail)
    go_wp2
    go_ret
    exact ⟨rfl, (bgo (bnew (Below.refl _ _) _) hb1).trans (Drawn.below ⟨_, rfl⟩ _)⟩
  · have hd : decide ((2100 : Int) < (s.size : Int)) = false := by simp; omega
    obtain ⟨r, hA, hB⟩ := exc_both s p q ar (by omega) har
    have HA := hide hA
    have HB := hide hB
    clear hA hB
    go_enter Try.func7, Try.ntmps7
    go_wp2_with fail
    refine (alive11 _).mono ?_
    rintro e w1 ⟨rfl, hb1⟩
    have hp1 := (two_alloc w (.int .i64 p) (.int .i64 q) 42).keep hb1
    obtain ⟨hlt1, pc0, pc1⟩ := hp1
    go_wp2_with fail
    go_region_held3 (fun w' => w'.cell? ⟨w.heap.size, 0, none⟩ = some (.int .i64 p) ∧ w'.cell? ⟨w.heap.size, 1, none⟩ = some (.int .i64 q) ∧ w.heap.size < w'.heap.size)
      (first
        | go_keep
        | (go_split_ands
           refine ⟨?_, ?_, ?_⟩
           · first
               | (rw [hb2.cell (p := ⟨w.heap.size, 0, none⟩) (by assumption)]; assumption)
               | (rw [hb3.cell (p := ⟨w.heap.size, 0, none⟩) (by assumption)]; assumption)
           · first
               | (rw [hb2.cell (p := ⟨w.heap.size, 1, none⟩) (by assumption)]; assumption)
               | (rw [hb3.cell (p := ⟨w.heap.size, 1, none⟩) (by assumption)]; assumption)
           · first
               | (exact Nat.lt_of_lt_of_le (by assumption) hb2.size)
               | (exact Nat.lt_of_lt_of_le (by assumption) hb3.size)))
      (first
        | (go_at_call 29; refine (HA.out _).mono ?_; rintro e w2 ⟨rfl, hb2⟩)
        | (go_at_call 30; refine (HB.out _).mono ?_; rintro e w3 ⟨rfl, hb3⟩))
    go_wp2
    go_ret
    exact ⟨rfl, bgo (bgo (bdr (bgo (bnew (Below.refl _ _) _) hb1) 1) hb2) hb3⟩

end Go.Proofs.Ytniapakheegijaa
