/- Layer 6: the program's contracts; its examples; the laws on codes, sets, looks. -/
import Derived.Test.YtdegppifgcbaeaaT6
namespace Go.Proofs.Ytdegppifgcbaeaa
open Go.RowKit

/-- What the program's functions do. -/
structure Cs : Prop where
  code : ∀ (s : ByteArray) (w : World), s.size ≤ 9223372036854775807 → Calls Try.prog 10 #[.string s] w fun e w' => e = .returned (.tuple #[.int .i64 (codeS s.data.toList), .bool (decide (s.size = 3))]) ∧ Below w.heap.size w w'
  str : ∀ (c : Int) (w : World), -9223372036854775808 ≤ c ∧ c ≤ 9223372036854775807 → Calls Try.prog 12 #[.int .i64 c] w fun e w' => e = .returned (.tuple #[.string (strA c), .bool (strOk c)]) ∧ Below w.heap.size w w'
  of : ∀ (s : ByteArray) (w : World), s.size ≤ 4000 → Calls Try.prog 15 #[.string s] w (GotI w (ofS s.data.toList))
  grams : ∀ (s : ByteArray) (w : World), s.size ≤ 4000 → Calls Try.prog 18 #[.string s] w (GotG w (gramsS s.data.toList))
  at_ : ∀ (A : Option Addr) (n c : Nat) (gs : List (Int × List Int)) (code : Int) (w : World), GrS w A n c gs → (∀ g ∈ gs, g.2.length ≤ 17592186044416) → Calls Try.prog 20 #[.slice A n c, .int .i64 code] w (GotI w (atS gs code))

theorem grams_len (d : List UInt8) (h : d.length ≤ 1048576) : ∀ g ∈ gramsS d, g.2.length ≤ 17592186044416 := by
  intro g hg
  unfold gramsS at hg
  obtain ⟨c, _, rfl⟩ := List.mem_map.1 hg
  have := offsN_len d c (d.length - 2)
  show (offsN d c (d.length - 2)).length ≤ _
  omega

theorem litI (w : World) (cs : Array Value) (l : List Int) (n : Nat) (h : cs.toList = numCells l) (hn : cs.size = n) (hm : n ≤ 1000) : Sl (w.alloc (.cells cs 3)) (some ⟨w.heap.size, 0, none⟩) n n (numCells l) := by
  subst hn
  have ho := own_lit w cs 3 (by unfold maxLen; omega)
  rw [h] at ho
  obtain ⟨A, m, c, e, hm', hs⟩ := ho.slI
  simp only [Value.slice.injEq] at e
  obtain ⟨rfl, rfl, rfl⟩ := e
  exact hs

theorem ex_of : ofS (⟨#[97, 98, 99, 97, 98]⟩ : ByteArray).data.toList = [6382179, 6447969, 6512994] := by decide
theorem ex_code : codeS (⟨#[97, 66, 99]⟩ : ByteArray).data.toList = 6382179 := by decide
theorem ex_str : strA 6382179 = ⟨#[97, 98, 99]⟩ := by decide
theorem ex_at1 : atS (gramsS (⟨#[120, 65, 66, 67, 97, 98, 99]⟩ : ByteArray).data.toList) 6382179 = [1, 4] := by decide
theorem ex_at2 : atS (gramsS (⟨#[120, 65, 66, 67, 97, 98, 99]⟩ : ByteArray).data.toList) 6447969 = [2] := by decide
theorem ex_at3 : atS (gramsS (⟨#[97, 97, 97, 97]⟩ : ByteArray).data.toList) 6381921 = [0, 1] := by decide

end Go.Proofs.Ytdegppifgcbaeaa
