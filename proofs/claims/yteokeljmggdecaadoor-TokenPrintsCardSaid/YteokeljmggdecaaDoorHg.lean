/- Walks of layer 11: marks and keywords. -/
import Derived.Test.YteokeljmggdecaaDoorHf
namespace Go.Proofs.YteokeljmggdecaaDoor
open Go.RowKit

set_option maxRecDepth 20000 in
set_option maxHeartbeats 1600000 in
theorem pismark (s : ByteArray) (q : Bool) (hq : isMk s.data.toList = q) (w : World) : Calls Tryd.prog 61 #[.string s] w fun e w' => e = .returned (.bool q) ∧ w = w' := by
  have Hq := hide hq
  clear hq
  go_enter Tryd.func61, Tryd.ntmps61
  go_wp2
  all_goals
    go_ret
    refine ⟨ret_bool ?_, rfl⟩
    rw [← Hq.out]
    clear Hq
    simp only [Lib.toList_data] at *
    simp_all [isMk, mkL]

/-! ### rows of strings -/
def strsC (l : List (List UInt8)) : List Value := l.map fun t => .string (bs t)
theorem strs_len (l : List (List UInt8)) : (strsC l).length = l.length := by simp [strsC]
theorem strs_app (l m : List (List UInt8)) : strsC (l ++ m) = strsC l ++ strsC m := by simp [strsC]
theorem strs_cell {w : World} {B n : Nat} {A : Option Addr} {l : List (List UInt8)} (h : Reads w B A n (strsC l)) {k : Nat} (hk : k < n) : ∃ ad z, A = some ad ∧ l[k]? = some z ∧ w.cell? (ad.add k) = some (.string (bs z)) := by
  obtain ⟨ad, u, hA, _, hu, hc⟩ := h.at_ hk
  unfold strsC at hu
  rw [List.getElem?_map] at hu
  cases hl : l[k]? with
  | none => rw [hl] at hu; cases hu
  | some z =>
    rw [hl] at hu
    injection hu with hu
    subst hu
    exact ⟨ad, z, hA, rfl, hc⟩
theorem str_beq (z : List UInt8) (s : ByteArray) : ((bs z).toList == s.toList) = (z == s.data.toList) := by rw [Lib.toList_data, Lib.toList_data, bs_list]
theorem take_has {l : List (List UInt8)} {k : Nat} {z d : List UInt8} (h : (l.take k).contains d = false) (hk : l[k]? = some z) (hz : (z == d) = false) : (l.take (k + 1)).contains d = false := by
  obtain ⟨hlt, e⟩ := List.getElem?_eq_some_iff.1 hk
  rw [List.take_succ_eq_append_getElem hlt, e]
  have hz' : ¬ d = z := fun e => by subst e; simp at hz
  have h' : ¬ d ∈ l.take k := fun hm => by rw [List.contains_iff_mem.2 hm] at h; cases h
  cases hc : (l.take k ++ [z]).contains d with
  | false => rfl
  | true =>
    have := List.contains_iff_mem.1 hc
    rw [List.mem_append] at this
    rcases this with this | this
    · exact absurd this h'
    · exact absurd (by simpa using this) hz'
theorem has_at {l : List (List UInt8)} {k : Nat} {z d : List UInt8} (hk : l[k]? = some z) (hz : (z == d) = true) : l.contains d = true := by
  have : z = d := by simpa using hz
  subst this
  exact List.contains_iff_mem.2 (List.mem_of_getElem? hk)

set_option maxRecDepth 20000 in
set_option maxHeartbeats 1600000 in
theorem rmark (s : ByteArray) (q : Bool) (hq : isMk s.data.toList = q) (w : World) : Calls Tryd.prog 56 #[.string s] w fun e w' => e = .returned (.bool q) ∧ Below w.heap.size w w' := by
  have Hq := hide hq
  clear hq
  have hsl := lit_sl w #[.string ⟨#[123]⟩, .string ⟨#[125]⟩, .string ⟨#[40]⟩, .string ⟨#[41]⟩, .string ⟨#[59]⟩, .string ⟨#[44]⟩, .string ⟨#[58]⟩, .string ⟨#[46]⟩, .string ⟨#[61]⟩, .string ⟨#[61, 61]⟩, .string ⟨#[33, 61]⟩, .string ⟨#[60]⟩, .string ⟨#[62]⟩, .string ⟨#[43]⟩, .string ⟨#[45]⟩, .string ⟨#[42]⟩, .string ⟨#[47]⟩, .string ⟨#[37]⟩, .string ⟨#[33]⟩, .string ⟨#[38, 38]⟩, .string ⟨#[124, 124]⟩] 9 (strsC mkL) 21 rfl rfl (by decide)
  have hb := bnew (Below.refl w.heap.size w) (.cells #[.string ⟨#[123]⟩, .string ⟨#[125]⟩, .string ⟨#[40]⟩, .string ⟨#[41]⟩, .string ⟨#[59]⟩, .string ⟨#[44]⟩, .string ⟨#[58]⟩, .string ⟨#[46]⟩, .string ⟨#[61]⟩, .string ⟨#[61, 61]⟩, .string ⟨#[33, 61]⟩, .string ⟨#[60]⟩, .string ⟨#[62]⟩, .string ⟨#[43]⟩, .string ⟨#[45]⟩, .string ⟨#[42]⟩, .string ⟨#[47]⟩, .string ⟨#[37]⟩, .string ⟨#[33]⟩, .string ⟨#[38, 38]⟩, .string ⟨#[124, 124]⟩] 9)
  go_enter Tryd.func56, Tryd.ntmps56
  go_wp2_with fail
  generalize w.alloc (.cells #[.string ⟨#[123]⟩, .string ⟨#[125]⟩, .string ⟨#[40]⟩, .string ⟨#[41]⟩, .string ⟨#[59]⟩, .string ⟨#[44]⟩, .string ⟨#[58]⟩, .string ⟨#[46]⟩, .string ⟨#[61]⟩, .string ⟨#[61, 61]⟩, .string ⟨#[33, 61]⟩, .string ⟨#[60]⟩, .string ⟨#[62]⟩, .string ⟨#[43]⟩, .string ⟨#[45]⟩, .string ⟨#[42]⟩, .string ⟨#[47]⟩, .string ⟨#[37]⟩, .string ⟨#[33]⟩, .string ⟨#[38, 38]⟩, .string ⟨#[124, 124]⟩] 9) = W at hsl hb ⊢
  generalize (⟨w.heap.size, 0, none⟩ : Addr) = ad0 at hsl ⊢
  have H := hide hsl
  have HB := hide hb
  clear hsl hb
  go_loopw [4] (fun y wr => ∃ k : Nat, k ≤ 21 ∧ y = .int .i64 (k : Int) ∧ (mkL.take k).contains s.data.toList = false ∧ wr = W) (fun y _ => 21 - (intOf y).toNat)
  case atStart => exact ⟨0, Nat.zero_le _, rfl, rfl, rfl⟩
  case round =>
    obtain ⟨k, hk, rfl, hm, rfl⟩ := hrel
    by_cases hlt : k < 21
    · obtain ⟨ad, z, hA, hz, hcell⟩ := strs_cell H.out.reads hlt
      cases hA
      obtain ⟨b, hbz⟩ : ∃ b, (z == s.data.toList) = b := ⟨_, rfl⟩
      have heq : ((bs z).toList == s.toList) = b := (str_beq z s).trans hbz
      cases b with
      | true =>
        have Hy := hide (show true = q by rw [← Hq.out]; exact (has_at hz hbz).symm)
        clear hm hz hbz
        go_wp2
        go_ret
        exact ⟨ret_bool Hy.out, HB.out⟩
      | false =>
        have Hn := hide (take_has hm hz hbz)
        clear hm hz hbz
        go_wp2
        go_roundw
        case rel => exact ⟨k + 1, by omega, by go_num, Hn.out, trivial⟩
        case measure => simp [intOf]; omega
    · have Hy := hide (show false = q by
        rw [← Hq.out]
        rw [List.take_of_length_le (by have : mkL.length = 21 := rfl; omega)] at hm
        exact hm.symm)
      clear hm
      go_wp2
      go_ret
      exact ⟨ret_bool Hy.out, HB.out⟩
set_option maxRecDepth 20000 in
set_option maxHeartbeats 1600000 in
theorem rkeyword (s : ByteArray) (q : Bool) (hq : isKw s.data.toList = q) (w : World) : Calls Tryd.prog 21 #[.string s] w fun e w' => e = .returned (.bool q) ∧ Below w.heap.size w w' := by
  have Hq := hide hq
  clear hq
  have hsl := lit_sl w #[.string ⟨#[105, 109, 112, 111, 114, 116]⟩, .string ⟨#[99, 108, 97, 115, 115]⟩, .string ⟨#[105, 110, 116, 101, 114, 102, 97, 99, 101]⟩, .string ⟨#[101, 120, 116, 101, 110, 100, 115]⟩, .string ⟨#[105, 109, 112, 108, 101, 109, 101, 110, 116, 115]⟩, .string ⟨#[102, 117, 110, 99]⟩, .string ⟨#[118, 97, 114]⟩, .string ⟨#[114, 101, 116, 117, 114, 110]⟩, .string ⟨#[105, 102]⟩, .string ⟨#[101, 108, 115, 101]⟩, .string ⟨#[119, 104, 105, 108, 101]⟩, .string ⟨#[110, 101, 119]⟩, .string ⟨#[116, 114, 117, 101]⟩, .string ⟨#[102, 97, 108, 115, 101]⟩, .string ⟨#[110, 117, 108, 108]⟩, .string ⟨#[116, 104, 105, 115]⟩] 9 (strsC kwL) 16 rfl rfl (by decide)
  have hb := bnew (Below.refl w.heap.size w) (.cells #[.string ⟨#[105, 109, 112, 111, 114, 116]⟩, .string ⟨#[99, 108, 97, 115, 115]⟩, .string ⟨#[105, 110, 116, 101, 114, 102, 97, 99, 101]⟩, .string ⟨#[101, 120, 116, 101, 110, 100, 115]⟩, .string ⟨#[105, 109, 112, 108, 101, 109, 101, 110, 116, 115]⟩, .string ⟨#[102, 117, 110, 99]⟩, .string ⟨#[118, 97, 114]⟩, .string ⟨#[114, 101, 116, 117, 114, 110]⟩, .string ⟨#[105, 102]⟩, .string ⟨#[101, 108, 115, 101]⟩, .string ⟨#[119, 104, 105, 108, 101]⟩, .string ⟨#[110, 101, 119]⟩, .string ⟨#[116, 114, 117, 101]⟩, .string ⟨#[102, 97, 108, 115, 101]⟩, .string ⟨#[110, 117, 108, 108]⟩, .string ⟨#[116, 104, 105, 115]⟩] 9)
  go_enter Tryd.func21, Tryd.ntmps21
  go_wp2_with fail
  generalize w.alloc (.cells #[.string ⟨#[105, 109, 112, 111, 114, 116]⟩, .string ⟨#[99, 108, 97, 115, 115]⟩, .string ⟨#[105, 110, 116, 101, 114, 102, 97, 99, 101]⟩, .string ⟨#[101, 120, 116, 101, 110, 100, 115]⟩, .string ⟨#[105, 109, 112, 108, 101, 109, 101, 110, 116, 115]⟩, .string ⟨#[102, 117, 110, 99]⟩, .string ⟨#[118, 97, 114]⟩, .string ⟨#[114, 101, 116, 117, 114, 110]⟩, .string ⟨#[105, 102]⟩, .string ⟨#[101, 108, 115, 101]⟩, .string ⟨#[119, 104, 105, 108, 101]⟩, .string ⟨#[110, 101, 119]⟩, .string ⟨#[116, 114, 117, 101]⟩, .string ⟨#[102, 97, 108, 115, 101]⟩, .string ⟨#[110, 117, 108, 108]⟩, .string ⟨#[116, 104, 105, 115]⟩] 9) = W at hsl hb ⊢
  generalize (⟨w.heap.size, 0, none⟩ : Addr) = ad0 at hsl ⊢
  have H := hide hsl
  have HB := hide hb
  clear hsl hb
  go_loopw [4] (fun y wr => ∃ k : Nat, k ≤ 16 ∧ y = .int .i64 (k : Int) ∧ (kwL.take k).contains s.data.toList = false ∧ wr = W) (fun y _ => 16 - (intOf y).toNat)
  case atStart => exact ⟨0, Nat.zero_le _, rfl, rfl, rfl⟩
  case round =>
    obtain ⟨k, hk, rfl, hm, rfl⟩ := hrel
    by_cases hlt : k < 16
    · obtain ⟨ad, z, hA, hz, hcell⟩ := strs_cell H.out.reads hlt
      cases hA
      obtain ⟨b, hbz⟩ : ∃ b, (z == s.data.toList) = b := ⟨_, rfl⟩
      have heq : ((bs z).toList == s.toList) = b := (str_beq z s).trans hbz
      cases b with
      | true =>
        have Hy := hide (show true = q by rw [← Hq.out]; exact (has_at hz hbz).symm)
        clear hm hz hbz
        go_wp2
        go_ret
        exact ⟨ret_bool Hy.out, HB.out⟩
      | false =>
        have Hn := hide (take_has hm hz hbz)
        clear hm hz hbz
        go_wp2
        go_roundw
        case rel => exact ⟨k + 1, by omega, by go_num, Hn.out, trivial⟩
        case measure => simp [intOf]; omega
    · have Hy := hide (show false = q by
        rw [← Hq.out]
        rw [List.take_of_length_le (by have : kwL.length = 16 := rfl; omega)] at hm
        exact hm.symm)
      clear hm
      go_wp2
      go_ret
      exact ⟨ret_bool Hy.out, HB.out⟩

end Go.Proofs.YteokeljmggdecaaDoor
