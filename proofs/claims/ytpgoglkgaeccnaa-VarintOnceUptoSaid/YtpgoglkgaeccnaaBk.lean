/- What the bound on the arguments' bulk gives: the length of the bytes. -/
import Derived.Test.YtpgoglkgaeccnaaRows
import Derived.Test.YtpgoglkgaeccnaaAr
namespace Go.Proofs.Ytpgoglkgaeccnaa
open Go.RowKit Go.ChangeShapes Go.WideShapes

/-- Bytes count one each. -/
theorem bulk_lits {H : Type} (zs : List Int) : Rows.uptoBulkAll (lits (H := H) .u8 zs) = zs.length := by
  induction zs with
  | nil => rfl
  | cons z r ih =>
    show Rows.uptoBulk (DataW.lit (H := H) (.int .u8 z)) + Rows.uptoBulkAll (lits (H := H) .u8 r) = r.length + 1
    rw [ih]
    simp only [Rows.uptoBulk]
    omega

theorem bulk_bytes {H : Type} {enc : TypeId × Value → H} {W : World} {A : Option Addr} {n c : Nat} {d : DataW H} {p : List MemPlace} {rest : List (DataW H)}
    (h : DataW.Trod enc Try.prog W 0 (fun _ => true) true 22 (.slice A n c) d p) (hb : Rows.uptoBulkAll ((d :: rest) ++ []) ≤ 1048576) : n ≤ 1048576 := by
  obtain ⟨fuel, hf⟩ := h
  have hf' : DataW.trod enc Try.prog W 0 (fun _ => true) true fuel 22 [.slice A n c] = some (d, p) := by simpa [Value.cells] using hf
  rcases open_ints Try.underlying22 Try.underlying5 (by kernel_rfl) hf' with ⟨hcs, _⟩ | ⟨a, len, cap, zs, hcs, _, hl, _, hz, hx, _⟩
  · cases hcs
    omega
  · cases hcs
    have hz' : zs.length = c := by simpa using hz
    have hd : d = .slice (lits .u8 (zs.take n)) (lits .u8 (zs.drop n)) := congrArg Prod.fst hx
    have h1 := bulk_lits (H := H) (zs.take n)
    rw [List.length_take] at h1
    subst hd
    rw [List.append_nil] at hb
    simp only [Rows.uptoBulkAll, Rows.uptoBulk] at hb
    omega

end Go.Proofs.Ytpgoglkgaeccnaa
