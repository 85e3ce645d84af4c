/- The walk of the examples. -/
import Derived.Test.YtniapakheegijaaWG
namespace Go.Proofs.Ytniapakheegijaa
open Go.RowKit

theorem bgo {a b c : World} (h : Below a.heap.size a b) (k : Below b.heap.size b c) : Below a.heap.size a c := h.trans (k.mono h.size)
theorem bnew {a b : World} (h : Below a.heap.size a b) (o : Obj) : Below a.heap.size a (b.alloc o) := h.alloc h.size o
theorem bdr {a b : World} (h : Below a.heap.size a b) (m : Nat) : Below a.heap.size a (b.drewN m) := h.trans (Drawn.below ⟨m, rfl⟩ _)

set_option maxHeartbeats 1600000 in
theorem alive11 (w : World) : Calls Try.prog 11 #[] w fun e w' => e = .returned (.bool true) ∧ Below w.heap.size w w' := by
  go_enter Try.func11, Try.ntmps11
  go_wp2_with fail
  refine (a17 _).mono ?_
  rintro e w1 ⟨⟨ao1, cap1, rfl, hr1⟩, hb1⟩
  go_wp2_with fail
  refine (a22 _).mono ?_
  rintro e w2 ⟨rfl, hb2⟩
  go_wp2_with fail
  refine (a24 _).mono ?_
  rintro e w3 ⟨rfl, hb3⟩
  go_wp2_with fail
  refine (a24_no _).mono ?_
  rintro e w4 ⟨rfl, hb4⟩
  go_wp2_with fail
  refine (same16 _ _ 3 [⟨#[97, 98]⟩, ⟨#[]⟩, ⟨#[99]⟩] _ (by decide) ?r1 (rd_lit w4 #[.string ⟨#[97, 98]⟩, .string ⟨#[]⟩, .string ⟨#[99]⟩] 9 3 1 rfl)).mono ?_
  case r1 =>
    have h1 : Below w1.heap.size w1 w3 := (hb2.alloc hb2.size _).trans (hb3.mono (by have := hb2.size; simp; omega))
    exact hr1.rd.below ((h1.trans (hb4.mono h1.size)).alloc (by have := h1.size; have := hb4.size; omega) _)
  rintro e w5 ⟨rfl, m5, rfl⟩
  go_wp2_with fail
  refine (a20 _).mono ?_
  rintro e w6 ⟨⟨ao6, cap6, rfl, hr6⟩, hb6⟩
  go_wp2_with fail
  refine (same19 _ _ 3 [0, 3, 4] _ (by decide) ?r2 (rd_lit w6 #[.int .i64 0, .int .i64 3, .int .i64 4] 3 3 1 rfl)).mono ?_
  case r2 => exact hr6.rd.below ((Below.refl _ _).alloc (Nat.le_refl _) _)
  rintro e w7 ⟨rfl, m7, rfl⟩
  obtain ⟨q0, q1, _, _, hlt3⟩ := two_new _ _ _ _ _ hb3
  have hb36 : Below w3.heap.size w3 w6 := ((hb4.alloc hb4.size _).trans (Drawn.below ⟨m5, rfl⟩ _)).trans (hb6.mono (by have := hb4.size; simp; omega))
  replace q0 := (hb36.cell (p := ⟨w2.heap.size, 0, none⟩) hlt3).trans q0
  replace q1 := (hb36.cell (p := ⟨w2.heap.size, 1, none⟩) hlt3).trans q1
  have hlt6 : w2.heap.size < w6.heap.size := by have := hb36.size; omega
  have Hb36 := hide hb36
  clear hb36 hlt3
  go_wp2_with fail
  refine (a27 _).mono ?_
  rintro e w8 ⟨⟨ao8, cap8, rfl, hr8⟩, hb8⟩
  go_wp2_with fail
  refine (same26 _ _ 2 [(0, 3), (5, 6)] _ (by decide) ?r3 (rd_lit w8 #[.int .i64 0, .int .i64 3, .int .i64 5, .int .i64 6] 42 2 2 rfl)).mono ?_
  case r3 => exact hr8.rd.below ((Below.refl _ _).alloc (Nat.le_refl _) _)
  rintro e w9 ⟨rfl, m9, rfl⟩
  go_wp2_with fail
  refine (a14 _).mono ?_
  rintro e w10 ⟨rfl, hb10⟩
  go_wp2_with fail
  refine (a12 _).mono ?_
  rintro e w11 ⟨rfl, rfl⟩
  go_wp2_with fail
  refine (a29 _).mono ?_
  rintro e w12 ⟨rfl, hb12⟩
  go_wp2_with fail
  refine (a29_end _).mono ?_
  rintro e w13 ⟨rfl, hb13⟩
  go_wp2
  go_ret
  refine ⟨rfl, ?_⟩
  exact bgo (bgo (bgo (bdr (bnew (bgo (bdr (bnew (bgo (bgo (bnew (bgo hb1 hb2) _) hb3) Hb36.out) _) m7) hb8) _) m9) hb10) hb12) hb13

end Go.Proofs.Ytniapakheegijaa
