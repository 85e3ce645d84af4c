/- The examples with which every statement begins. -/
import Derived.Test.YtniapakheegijaaWF
namespace Go.Proofs.Ytniapakheegijaa
open Go.RowKit

theorem rd_lit (w : World) (cs : Array Value) (T : TypeId) (n sz : Nat) (h : cs.size = n * sz) : Rd (w.alloc (.cells cs T)) (.slice (some ⟨w.heap.size, 0, none⟩) n n) n sz cs.toList :=
  ⟨by simpa using h, _, n, rfl, Nat.le_refl _, fun _ => ⟨w.heap.size, rfl, by simp, fun j _ => by rw [World.cell?_alloc_mark]; simp⟩⟩

def S1 : ByteArray := ⟨#[97, 98, 10, 10, 99, 10]⟩
def S2 : ByteArray := ⟨#[97, 98, 10, 99]⟩
def S3 : ByteArray := ⟨#[97, 95, 49, 32, 43, 98]⟩
def S4 : ByteArray := ⟨#[97, 10, 98, 10, 99, 10, 100]⟩

theorem a17 (w : World) : Calls Try.prog 17 #[.string ⟨#[97, 98, 10, 10, 99, 10]⟩] w fun e w' => (∃ ao cap, e = .returned (.slice ao 3 cap) ∧ RdS w' ao 3 cap 1 ([⟨#[97, 98]⟩, ⟨#[]⟩, ⟨#[99]⟩].map Value.string)) ∧ Below w.heap.size w w' :=
  lines17' S1 3 (by decide) w (by decide)
theorem a20 (w : World) : Calls Try.prog 20 #[.string ⟨#[97, 98, 10, 10, 99, 10]⟩] w fun e w' => (∃ ao cap, e = .returned (.slice ao 3 cap) ∧ RdS w' ao 3 cap 1 (nums [0, 3, 4])) ∧ Below w.heap.size w w' :=
  starts20' S1 3 (by decide) w (by decide)
theorem a22 (w : World) : Calls Try.prog 22 #[.string ⟨#[97, 98, 10, 99]⟩, .int .i64 2] w fun e w' => e = .returned (.tuple #[.agg #[.int .i64 1, .int .i64 3], .bool true]) ∧ Below w.heap.size w w' :=
  at22 S2 2 w (by decide) (by decide)
theorem a24 (w : World) : Calls Try.prog 24 #[.string ⟨#[97, 98, 10, 99]⟩, .agg #[.int .i64 2, .int .i64 1]] w fun e w' => e = .returned (.tuple #[.int .i64 3, .bool true]) ∧ Below w.heap.size w w' :=
  off24 S2 1 3 1 w (by decide) (by decide) (by decide) (by decide)
theorem a24_no (w : World) : Calls Try.prog 24 #[.string ⟨#[97, 98, 10, 99]⟩, .agg #[.int .i64 2, .int .i64 2]] w fun e w' => e = .returned (.tuple #[.int .i64 0, .bool false]) ∧ Below w.heap.size w w' :=
  off24_no S2 2 2 w (by decide) (Or.inr (Or.inr ⟨1, 3, by decide, by decide, by decide⟩))
theorem a27 (w : World) : Calls Try.prog 27 #[.string ⟨#[97, 95, 49, 32, 43, 98]⟩] w fun e w' => (∃ ao cap, e = .returned (.slice ao 2 cap) ∧ RdS w' ao 2 cap 2 (spans [(0, 3), (5, 6)])) ∧ Below w.heap.size w w' := by
  refine (words27 S3 w (by decide)).mono ?_
  rintro e w1 ⟨⟨v, rfl, hown⟩, hb⟩
  obtain ⟨ao, cap, rfl, h⟩ := (Rd.of_owns (n := 2) hown).s
  exact ⟨⟨ao, cap, rfl, h⟩, hb⟩
theorem a14 (w : World) : Calls Try.prog 14 #[.string ⟨#[97, 66, 95, 90]⟩] w fun e w' => e = .returned (.string ⟨#[97, 98, 95, 122]⟩) ∧ Below w.heap.size w w' :=
  fold14 ⟨#[97, 66, 95, 90]⟩ w (by decide)
theorem a12 (w : World) : Calls Try.prog 12 #[.string ⟨#[97, 98, 10]⟩] w fun e w' => e = .returned (.bool true) ∧ w = w' :=
  valid12 ⟨#[97, 98, 10]⟩ w (by decide)
theorem a29 (w : World) : Calls Try.prog 29 #[.string ⟨#[97, 10, 98, 10, 99, 10, 100]⟩, .agg #[.int .i64 2, .int .i64 3], .int .i64 1] w fun e w' => e = .returned (.string ⟨#[97, 10, 98, 10, 99, 10]⟩) ∧ Below w.heap.size w w' :=
  exc29 S4 2 3 1 1 1 w (by decide) (by decide) (by decide) (by decide) (by decide) (by decide) 4 (by decide) (by decide) (by decide) (by decide) (by decide)
theorem a29_end (w : World) : Calls Try.prog 29 #[.string ⟨#[97, 10, 98, 10, 99, 10, 100]⟩, .agg #[.int .i64 7, .int .i64 7], .int .i64 0] w fun e w' => e = .returned (.string ⟨#[100, 10]⟩) ∧ Below w.heap.size w w' :=
  exc29 S4 7 7 3 3 0 w (by decide) (by decide) (by decide) (by decide) (by decide) (by decide) 4 (by decide) (by decide) (by decide) (by decide) (by decide)

end Go.Proofs.Ytniapakheegijaa
