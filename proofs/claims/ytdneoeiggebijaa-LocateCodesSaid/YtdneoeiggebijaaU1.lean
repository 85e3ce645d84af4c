/- Walks of layer 6's program: text.Fold, codeAt, Code, String. -/
import Derived.Test.YtdneoeiggebijaaL1
namespace Go.Proofs.Ytdneoeiggebijaa
open Go.RowKit

/-- The folded string. -/
def foldS (s : ByteArray) : ByteArray := ⟨(s.data.toList.map fld).toArray⟩
def foldI (c : Int) : Int := if 65 ≤ c ∧ c ≤ 90 then c + 32 else c
theorem fld_int (c : UInt8) : ((fld c).toNat : Int) = foldI (c.toNat : Int) := by
  by_cases h : 65 ≤ c.toNat ∧ c.toNat ≤ 90
  · rw [fld_up c h]
    unfold foldI
    rw [if_pos (by omega)]
  · rw [fld_low c h]
    unfold foldI
    rw [if_neg (by omega)]
theorem foldS_size (s : ByteArray) : (foldS s).size = s.size := by
  show (s.data.toList.map fld).toArray.size = _
  simp
theorem foldS_get (s : ByteArray) (k : Nat) (h : k < (foldS s).size) : ((foldS s)[k]).toNat = fat s.data.toList k := by
  have hk : k < s.size := by rw [← foldS_size]; exact h
  have e : (foldS s)[k] = fld s[k] := by
    show (s.data.toList.map fld).toArray[k]'(by simpa using hk) = _
    simp
    rfl
  rw [e, fat_at s k hk]

def FoldInv (w : World) (s : ByteArray) (k : Nat) (wr : World) : Prop :=
  w.heap.size < wr.heap.size ∧ (∀ j (hj : j < s.size), wr.cell? ⟨w.heap.size, j, none⟩ = some (.int .u8 (if j < k then foldI (s[j].toNat : Int) else (s[j].toNat : Int)))) ∧
  (∀ j, j < s.size → wr.frozen? ⟨w.heap.size, j, none⟩ = false) ∧ Below w.heap.size w wr
theorem FoldInv.keep {w wr : World} {s : ByteArray} {k : Nat} (h : FoldInv w s k wr) (hk : k < s.size) (hf : foldI (s[k].toNat : Int) = (s[k].toNat : Int)) : FoldInv w s (k + 1) wr := by
  obtain ⟨h1, h2, h3, h4⟩ := h
  refine ⟨h1, fun j hj => ?_, h3, h4⟩
  rw [h2 j hj]
  by_cases hjk : j = k
  · subst hjk; simp [hf]
  · by_cases hjl : j < k
    · rw [if_pos hjl, if_pos (by omega)]
    · rw [if_neg hjl, if_neg (by omega)]
theorem FoldInv.put {w wr : World} {s : ByteArray} {k : Nat} (h : FoldInv w s k wr) (hk : k < s.size) {c : Int} (hf : foldI (s[k].toNat : Int) = c) : FoldInv w s (k + 1) (wr.setCell ⟨w.heap.size, k, none⟩ (.int .u8 c)) := by
  obtain ⟨h1, h2, h3, h4⟩ := h
  refine ⟨by simpa [World.setCell] using h1, fun j hj => ?_, fun j hj => ?_, h4.setCell (Nat.le_refl _) _⟩
  · by_cases hjk : j = k
    · subst hjk
      rw [World.cell?_setCell_same _ _ _ (h2 j hj), if_pos (by omega), hf]
    · rw [World.cell?_setCell_other _ _ _ _ (fun e => hjk (congrArg Addr.off e).symm), h2 j hj]
      by_cases hjl : j < k
      · rw [if_pos hjl, if_pos (by omega)]
      · rw [if_neg hjl, if_neg (by omega)]
  · rw [World.frozen?_setCell]; exact h3 j hj
theorem FoldInv.back {w wr : World} {s : ByteArray} {k : Nat} (h : FoldInv w s k wr) (hk : k = s.size) (cap : Nat) :
    (convert 56 9 (.slice (some ⟨w.heap.size, 0, none⟩) s.size cap)).run Try.prog wr = .ok (.string (foldS s)) wr := by
  have := run_convert_bytes_back (P := Try.prog) wr 56 9 5 ⟨w.heap.size, 0, none⟩ cap (s.data.toList.map fld) Try.underlying56 Try.underlying5 Try.underlying9 (fun j hj => by
    simp at hj
    have := h.2.1 j hj
    rw [if_pos (by omega)] at this
    rw [addr0, this, List.getElem_map, fld_int]; rfl)
  rw [List.length_map] at this
  exact this

set_option maxHeartbeats 800000 in
theorem fold40 (s : ByteArray) (w : World) (hs : s.size ≤ 100000) : Calls Try.prog 40 #[.string s] w fun e w' => e = .returned (.string (foldS s)) ∧ Below w.heap.size w w' := by
  have hconv := run_bytes_of_string w 9 56 5 s Try.underlying9 Try.underlying56 Try.underlying5
  have hC : ∀ j (hj : j < s.size), (bytesRow s (grownCap w s.size 0 5))[j]? = some (.int .u8 (s[j].toNat : Int)) := by
    intro j hj
    unfold bytesRow
    rw [Array.getElem?_append_left (by simpa using hj), Array.getElem?_map, Array.getElem?_eq_getElem (by simpa using hj)]
    rfl
  have hsz : s.size ≤ (bytesRow s (grownCap w s.size 0 5)).size := by
    unfold bytesRow
    simp
  generalize bytesRow s (grownCap w s.size 0 5) = C at hconv hC hsz
  generalize grownCap w s.size 0 5 = cap at hconv
  have HC := hide hC
  clear hC
  go_enter Try.func40, Try.ntmps40
  go_wp2
  go_loopw [10] (fun i wr => ∃ k : Nat, k ≤ s.size ∧ i = .int .i64 k ∧ FoldInv w s k wr) (fun i _ => s.size - (intOf i).toNat)
  case atStart =>
    refine ⟨0, Nat.zero_le _, rfl, ?_, fun j hj => ?_, fun j hj => ?_, ?_⟩
    · show w.heap.size < (w.alloc _).heap.size
      simp
    · show (w.alloc _).cell? _ = _
      rw [World.cell?_alloc_mark, HC.out j hj]; simp
    · show (w.alloc _).frozen? _ = _
      rw [World.frozen?_alloc_mark]; simp; omega
    · exact ((Below.refl _ _).alloc (Nat.le_refl _) _).drew
  case round =>
    obtain ⟨k, hk, rfl, hinv⟩ := hrel
    by_cases hlt : k < s.size
    · have hbb : s[k].toNat < 256 := UInt8.toNat_lt _
      have hc := hinv.2.1 k hlt
      rw [if_neg (by omega)] at hc
      have hf := hinv.2.2.1 k hlt
      by_cases hu : 65 ≤ s[k].toNat ∧ s[k].toNat ≤ 90
      · obtain ⟨h2, h3⟩ := hu
        go_wp2
        go_roundw
        case rel => exact ⟨k + 1, by omega, by go_num, hinv.put hlt (by rw [foldI, if_pos (by omega)])⟩
        case measure => simp [intOf]; omega
      · have hq := hinv.keep hlt (by rw [foldI, if_neg (by omega)])
        have Hq := hide hq
        clear hq
        rcases (show s[k].toNat < 65 ∨ (65 ≤ s[k].toNat ∧ 90 < s[k].toNat) from by omega) with h | ⟨h, h'⟩
        all_goals
          go_wp2
          go_roundw
          case rel => exact ⟨k + 1, by omega, by go_num, Hq.out⟩
          case measure => simp [intOf]; omega
    · have hback := hinv.back (by omega) cap
      go_wp2
      go_ret
      exact ⟨rfl, hinv.2.2.2⟩

/-- The code at an offset of a folded string. -/
theorem codeatR (t : ByteArray) (k : Nat) (m : Int) (w : World) (hk : k + 2 < t.size) (hs : t.size ≤ 100000) (hm : (t[k].toNat : Int) * 65536 + (t[k + 1].toNat : Int) * 256 + (t[k + 2].toNat : Int) = m) :
    Calls Try.prog 42 #[.string t, .int .i64 (k : Int)] w fun e w' => e = .returned (.int .i64 m) ∧ Drawn w w' := by
  have k0 : k < t.size := by omega
  have k1 : k + 1 < t.size := by omega
  have k3 : (0 : Int) ≤ (k : Int) + 1 := by omega
  have k4 : (k : Int) + 1 < (t.size : Int) := by omega
  have k5 : (0 : Int) ≤ (k : Int) + 2 := by omega
  have k6 : (k : Int) + 2 < (t.size : Int) := by omega
  have l0 := byte_lt t[k]
  have l1 := byte_lt t[k + 1]
  have l2 := byte_lt t[k + 2]
  have Hm := hide hm
  clear hm
  go_enter Try.func42, Try.ntmps42
  go_wp2
  go_quiet (fail)
  go_wp2
  go_ret
  exact ⟨ret_int (by rw [← Hm.out]; omega), _, rfl⟩
theorem codeat42 (s : ByteArray) (k : Nat) (m : Int) (w : World) (hk : k + 2 < s.size) (hs : s.size ≤ 100000) (hm : tri s.data.toList k = m) :
    Calls Try.prog 42 #[.string (foldS s), .int .i64 (k : Int)] w fun e w' => e = .returned (.int .i64 m) ∧ Drawn w w' := by
  have hsz := foldS_size s
  refine codeatR (foldS s) k m w (by omega) (by omega) ?_
  rw [foldS_get s k (by omega), foldS_get s (k + 1) (by omega), foldS_get s (k + 2) (by omega)]
  exact hm

end Go.Proofs.Ytdneoeiggebijaa

