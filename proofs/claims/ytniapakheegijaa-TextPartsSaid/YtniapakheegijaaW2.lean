/- Walks of Valid of the reference and of the two Folds. -/
import Derived.Test.YtniapakheegijaaW1
namespace Go.Proofs.Ytniapakheegijaa
open Go.RowKit

set_option maxHeartbeats 800000 in
theorem valid13 (s : ByteArray) (w : World) (hs : s.size ≤ 100000) : Calls Try.prog 13 #[.string s] w fun e w' => e = .returned (.bool (validL s.data.toList)) ∧ w = w' := by
  by_cases hb : 2000 < s.size
  · go_enter Try.func13, Try.ntmps13
    go_wp2
    go_ret
    exact ⟨ret_bool (valid_big s hb), rfl⟩
  · go_enter Try.func13, Try.ntmps13
    go_wp2
    go_loop [3] (fun i => ∃ k : Nat, k ≤ s.size ∧ i = .int .i64 k ∧ (s.data.toList.take k).all (fun c => textI (c.toNat : Int)) = true) (fun i => s.size - (intOf i).toNat)
    case atStart => exact ⟨0, Nat.zero_le _, rfl, rfl⟩
    case round =>
      obtain ⟨k, hk, rfl, hall⟩ := hrel
      have Hall := hide hall
      clear hall
      by_cases hlt : k < s.size
      · have hbb : s[k].toNat < 256 := UInt8.toNat_lt _
        have hyes : ∀ h : textI (s[k].toNat : Int) = true, (s.data.toList.take (k + 1)).all (fun c => textI (c.toNat : Int)) = true := fun h => by
          rw [take_all_snoc s k hlt, Hall.out, h]; rfl
        have hno : ∀ h : textI (s[k].toNat : Int) = false, false = validL s.data.toList := fun h => by
          rw [validL, all_false s k hlt _ h]; simp
        have Hyes := hide hyes
        have Hno := hide hno
        clear hyes hno
        rcases (show s[k].toNat < 9 ∨ (9 ≤ s[k].toNat ∧ s[k].toNat ≤ 9) ∨ (10 ≤ s[k].toNat ∧ s[k].toNat ≤ 10) ∨ (10 < s[k].toNat ∧ s[k].toNat < 32) ∨ (32 ≤ s[k].toNat ∧ s[k].toNat ≤ 126) ∨ 126 < s[k].toNat from by omega) with h | ⟨h, h'⟩ | ⟨h, h'⟩ | ⟨h, h'⟩ | ⟨h, h'⟩ | h
        · have b9 : ((s[k].toNat : Int) != 9) = true := by rw [bne_iff_ne]; omega
          have b10 : ((s[k].toNat : Int) != 10) = true := by rw [bne_iff_ne]; omega
          go_wp2
          go_ret
          exact ⟨ret_bool (Hno.out (by simp [textI]; omega)), rfl⟩
        · have b9 : ((s[k].toNat : Int) != 9) = false := by simp; omega
          go_wp2
          go_round
          case rel => exact ⟨k + 1, by omega, by go_num, Hyes.out (by simp [textI]; omega)⟩
          case measure => simp [intOf]; omega
        · have b9 : ((s[k].toNat : Int) != 9) = true := by rw [bne_iff_ne]; omega
          have b10 : ((s[k].toNat : Int) != 10) = false := by simp; omega
          go_wp2
          go_round
          case rel => exact ⟨k + 1, by omega, by go_num, Hyes.out (by simp [textI]; omega)⟩
          case measure => simp [intOf]; omega
        · have b9 : ((s[k].toNat : Int) != 9) = true := by rw [bne_iff_ne]; omega
          have b10 : ((s[k].toNat : Int) != 10) = true := by rw [bne_iff_ne]; omega
          go_wp2
          go_ret
          exact ⟨ret_bool (Hno.out (by simp [textI]; omega)), rfl⟩
        · have b9 : ((s[k].toNat : Int) != 9) = true := by rw [bne_iff_ne]; omega
          have b10 : ((s[k].toNat : Int) != 10) = true := by rw [bne_iff_ne]; omega
          go_wp2
          go_round
          case rel => exact ⟨k + 1, by omega, by go_num, Hyes.out (by simp [textI]; omega)⟩
          case measure => simp [intOf]; omega
        · have b9 : ((s[k].toNat : Int) != 9) = true := by rw [bne_iff_ne]; omega
          have b10 : ((s[k].toNat : Int) != 10) = true := by rw [bne_iff_ne]; omega
          go_wp2
          go_ret
          exact ⟨ret_bool (Hno.out (by simp [textI]; omega)), rfl⟩
      · have hke : k = s.size := by omega
        have Hke := hide hke
        clear hke
        go_wp2
        go_ret
        exact ⟨ret_bool (valid_end s k Hke.out (by omega) Hall.out), rfl⟩

def foldB (c : UInt8) : UInt8 := if 65 ≤ c.toNat ∧ c.toNat ≤ 90 then c + 32 else c
def foldA (s : ByteArray) : ByteArray := ⟨(s.data.toList.map foldB).toArray⟩
theorem foldB_int (c : UInt8) : ((foldB c).toNat : Int) = foldI (c.toNat : Int) := by
  unfold foldB foldI
  split
  · rename_i h
    rw [if_pos (by omega), UInt8.toNat_add]
    simp; omega
  · rw [if_neg (by omega)]

theorem get_list (s : ByteArray) (k : Nat) (h : k < s.size) : s.data.toList[k]'(by simpa using h) = s[k] := rfl

def FoldInv (w : World) (s : ByteArray) (k : Nat) (wr : World) : Prop :=
  w.heap.size < wr.heap.size ∧ (∀ j (hj : j < s.size), wr.cell? ⟨w.heap.size, j, none⟩ = some (.int .u8 (if j < k then foldI (s[j].toNat : Int) else (s[j].toNat : Int)))) ∧
  (∀ j, j < s.size → wr.frozen? ⟨w.heap.size, j, none⟩ = false) ∧ Below w.heap.size w wr

theorem FoldInv.keep {w wr : World} {s : ByteArray} {k : Nat} (h : FoldInv w s k wr) (hk : k < s.size) (hf : foldI (s[k].toNat : Int) = (s[k].toNat : Int)) : FoldInv w s (k + 1) wr := by
  obtain ⟨h1, h2, h3, h4⟩ := h
  refine ⟨h1, fun j hj => ?_, h3, h4⟩
  rw [h2 j hj]
  by_cases hjk : j = k
  · subst hjk; simp [hf]
  · by_cases hjl : j < k
    · rw [if_pos hjl, if_pos (by omega)]
    · rw [if_neg hjl, if_neg (by omega)]

theorem FoldInv.put {w wr : World} {s : ByteArray} {k : Nat} (h : FoldInv w s k wr) (hk : k < s.size) {c : Int} (hf : foldI (s[k].toNat : Int) = c) : FoldInv w s (k + 1) (wr.setCell ⟨w.heap.size, k, none⟩ (.int .u8 c)) := by
  obtain ⟨h1, h2, h3, h4⟩ := h
  refine ⟨by simpa [World.setCell] using h1, fun j hj => ?_, fun j hj => ?_, h4.setCell (Nat.le_refl _) _⟩
  · by_cases hjk : j = k
    · subst hjk
      rw [World.cell?_setCell_same _ _ _ (h2 j hj), if_pos (by omega), hf]
    · rw [World.cell?_setCell_other _ _ _ _ (fun e => hjk (congrArg Addr.off e).symm), h2 j hj]
      by_cases hjl : j < k
      · rw [if_pos hjl, if_pos (by omega)]
      · rw [if_neg hjl, if_neg (by omega)]
  · rw [World.frozen?_setCell]; exact h3 j hj

theorem addr0 (g j : Nat) : (⟨g, 0, none⟩ : Addr).add j = ⟨g, j, none⟩ := by
  unfold Addr.add
  split <;> simp_all

theorem FoldInv.back {w wr : World} {s : ByteArray} {k : Nat} (h : FoldInv w s k wr) (hk : k = s.size) (cap : Nat) :
    (convert 47 9 (.slice (some ⟨w.heap.size, 0, none⟩) s.size cap)).run Try.prog wr = .ok (.string (foldA s)) wr := by
  have := run_convert_bytes_back (P := Try.prog) wr 47 9 5 ⟨w.heap.size, 0, none⟩ cap (s.data.toList.map foldB) Try.underlying47 Try.underlying5 Try.underlying9 (fun j hj => by
    simp at hj
    have := h.2.1 j hj
    rw [if_pos (by omega)] at this
    rw [addr0, this, List.getElem_map, foldB_int]; rfl)
  rw [List.length_map] at this
  exact this

set_option maxHeartbeats 800000 in
theorem fold14 (s : ByteArray) (w : World) (hs : s.size ≤ 100000) : Calls Try.prog 14 #[.string s] w fun e w' => e = .returned (.string (foldA s)) ∧ Below w.heap.size w w' := by
  have hconv := run_bytes_of_string w 9 47 5 s Try.underlying9 Try.underlying47 Try.underlying5
  have hC : ∀ j (hj : j < s.size), (bytesRow s (grownCap w s.size 0 5))[j]? = some (.int .u8 (s[j].toNat : Int)) := by
    intro j hj
    unfold bytesRow
    rw [Array.getElem?_append_left (by simpa using hj), Array.getElem?_map, Array.getElem?_eq_getElem (by simpa using hj)]
    rfl
  have hsz : s.size ≤ (bytesRow s (grownCap w s.size 0 5)).size := by
    unfold bytesRow
    simp
  generalize bytesRow s (grownCap w s.size 0 5) = C at hconv hC hsz
  generalize grownCap w s.size 0 5 = cap at hconv
  have HC := hide hC
  clear hC
  go_enter Try.func14, Try.ntmps14
  go_wp2
  go_loopw [10] (fun i wr => ∃ k : Nat, k ≤ s.size ∧ i = .int .i64 k ∧ FoldInv w s k wr) (fun i _ => s.size - (intOf i).toNat)
  case atStart =>
    refine ⟨0, Nat.zero_le _, rfl, ?_, fun j hj => ?_, fun j hj => ?_, ?_⟩
    · show w.heap.size < (w.alloc _).heap.size
      simp
    · show (w.alloc _).cell? _ = _
      rw [World.cell?_alloc_mark, HC.out j hj]; simp
    · show (w.alloc _).frozen? _ = _
      rw [World.frozen?_alloc_mark]; simp; omega
    · exact ((Below.refl _ _).alloc (Nat.le_refl _) _).drew
  case round =>
    obtain ⟨k, hk, rfl, hinv⟩ := hrel
    by_cases hlt : k < s.size
    · have hbb : s[k].toNat < 256 := UInt8.toNat_lt _
      have hc := hinv.2.1 k hlt
      rw [if_neg (by omega)] at hc
      have hf := hinv.2.2.1 k hlt
      by_cases hu : 65 ≤ s[k].toNat ∧ s[k].toNat ≤ 90
      · obtain ⟨h2, h3⟩ := hu
        go_wp2
        go_roundw
        case rel => exact ⟨k + 1, by omega, by go_num, hinv.put hlt (by rw [foldI, if_pos (by omega)])⟩
        case measure => simp [intOf]; omega
      · have hq := hinv.keep hlt (by rw [foldI, if_neg (by omega)])
        have Hq := hide hq
        clear hq
        rcases (show s[k].toNat < 65 ∨ (65 ≤ s[k].toNat ∧ 90 < s[k].toNat) from by omega) with h | ⟨h, h'⟩
        all_goals
          go_wp2
          go_roundw
          case rel => exact ⟨k + 1, by omega, by go_num, Hq.out⟩
          case measure => simp [intOf]; omega
    · have hback := hinv.back (by omega) cap
      go_wp2
      go_ret
      exact ⟨rfl, hinv.2.2.2⟩

end Go.Proofs.Ytniapakheegijaa
