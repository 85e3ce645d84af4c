/- The reference: whether an element stands for a byte; what an element reaches. -/
import Derived.Test.YtlabdaomgogflaaDoorWB
import Derived.Test.YtlabdaomgogflaaDoorPr
namespace Go.Proofs.YtlabdaomgogflaaDoor
open Go.RowKit

def rCells : List (UInt8 × UInt8) → List Value
  | [] => []
  | (a, b) :: l => .int .u8 (a.toNat : Int) :: .int .u8 (b.toNat : Int) :: rCells l
theorem rCells_len (l : List (UInt8 × UInt8)) : (rCells l).length = l.length * 2 := by
  induction l with
  | nil => rfl
  | cons x l ih => simp [rCells, ih]; omega
theorem rCells_get : ∀ (l : List (UInt8 × UInt8)) (k : Nat) (t : UInt8 × UInt8), l[k]? = some t → (rCells l)[k * 2]? = some (.int .u8 (t.1.toNat : Int)) ∧ (rCells l)[k * 2 + 1]? = some (.int .u8 (t.2.toNat : Int)) := by
  intro l
  induction l with
  | nil => intro k t h; simp at h
  | cons x l ih =>
    intro k t h
    cases k with
    | zero => simp at h; subst h; exact ⟨rfl, rfl⟩
    | succ k =>
      have := ih k t (by simpa using h)
      rw [show (k + 1) * 2 = k * 2 + 1 + 1 by omega]
      exact this
theorem rCells_append (l m : List (UInt8 × UInt8)) : rCells (l ++ m) = rCells l ++ rCells m := by
  induction l with
  | nil => rfl
  | cons x l ih => simp [rCells, ih]

theorem any_take {α : Type} (l : List α) (k : Nat) (h : k < l.length) (p : α → Bool) : (l.take (k + 1)).any p = ((l.take k).any p || p l[k]) := by
  rw [List.take_succ_eq_append_getElem h, List.any_append]; simp

set_option maxHeartbeats 1600000 in
theorem one57_set (neg : Bool) (rs : List (UInt8 × UInt8)) (m cap : Nat) (ao : Option Addr) (c ch : UInt8) (hm : rs.length = m) (hml : m ≤ 100000) (w : World) (hrd : RdS w ao m cap 2 (rCells rs)) (h47 : c ≠ 47) :
    Calls Tryd.prog 57 #[.agg #[.int .i64 5, .int .u8 (ch.toNat : Int), .bool neg, .slice ao m cap], .int .u8 (c.toNat : Int)] w fun e w' => e = .returned (.bool (rs.any (inR c) != neg)) ∧ Below w.heap.size w w' := by
  have hcc : c.toNat < 256 := UInt8.toNat_lt _
  have hch : ch.toNat < 256 := UInt8.toNat_lt _
  have e47 : ((c.toNat : Int) == 47) = false := u8f h47
  have Hm := hide hm
  have Hrd := hide hrd
  clear hm h47 hrd
  go_enter Tryd.func57, Tryd.ntmps57
  go_wp2
  have q0 : (w.alloc (.cells #[.int .i64 5, .int .u8 (ch.toNat : Int), .bool neg, .slice ao m cap] 47)).cell? ⟨w.heap.size, 2, none⟩ = some (.bool neg) := by rw [World.cell?_alloc_mark]; rfl
  have q1 : (w.alloc (.cells #[.int .i64 5, .int .u8 (ch.toNat : Int), .bool neg, .slice ao m cap] 47)).cell? ⟨w.heap.size, 3, none⟩ = some (.slice ao m cap) := by rw [World.cell?_alloc_mark]; rfl
  have hb : Below w.heap.size w (w.alloc (.cells #[.int .i64 5, .int .u8 (ch.toNat : Int), .bool neg, .slice ao m cap] 47)) := bnew (Below.refl _ _) _
  have hrd1 := Hrd.out.below hb
  generalize w.alloc (.cells #[.int .i64 5, .int .u8 (ch.toNat : Int), .bool neg, .slice ao m cap] 47) = w1 at q0 q1 hb hrd1
  have Hrd1 := hide hrd1
  clear hrd1
  go_loop [5] (fun i => ∃ k : Nat, k ≤ m ∧ i = .int .i64 k ∧ (rs.take k).any (inR c) = false) (fun i => m - (intOf i).toNat)
  case atStart => exact ⟨0, Nat.zero_le _, rfl, rfl⟩
  case round =>
    obtain ⟨k, hk, rfl, hall⟩ := hrel
    have Hall := hide hall
    clear hall
    by_cases hlt : k < m
    · have hkl : k < rs.length := by rw [Hm.out]; exact hlt
      obtain ⟨⟨a, b⟩, hx⟩ : ∃ x, rs[k] = x := ⟨_, rfl⟩
      have hxl : rs[k]? = some (a, b) := by rw [List.getElem?_eq_getElem hkl, hx]
      obtain ⟨e1, e2⟩ := rCells_get rs k _ hxl
      obtain ⟨g, rfl, _, hcl⟩ := Hrd1.out.2.2 (by omega)
      have ha := (hcl (k * 2) (by omega)).trans e1
      have hb2 := (hcl (k * 2 + 1) (by omega)).trans e2
      have hstep := any_take rs k hkl (inR c)
      rw [hx, Hall.out, Bool.false_or] at hstep
      have haa : a.toNat < 256 := UInt8.toNat_lt _
      have hbb : b.toNat < 256 := UInt8.toNat_lt _
      have hlt' : (k : Int) < (m : Int) := by omega
      have h0' : (0 : Int) ≤ (k : Int) := by omega
      cases hin : inR c (a, b)
      · rw [hin] at hstep
        have Hstep := hide hstep
        clear hcl hxl e1 e2 hstep hx
        unfold inR at hin
        by_cases hca : a.toNat ≤ c.toNat
        · have hcb : b.toNat < c.toNat := by
            rw [decide_eq_true (by exact hca), Bool.true_and] at hin
            have := of_decide_eq_false hin
            simp at this
            exact this
          clear hin
          go_wp2
          go_round
          case rel => exact ⟨k + 1, by omega, by go_num, Hstep.out⟩
          case measure => simp [intOf]; omega
        · have hca' : c.toNat < a.toNat := by omega
          clear hin
          go_wp2
          go_round
          case rel => exact ⟨k + 1, by omega, by go_num, Hstep.out⟩
          case measure => simp [intOf]; omega
      · have hres : (!neg) = (rs.any (inR c) != neg) := by
          have : rs.any (inR c) = true := by
            rw [List.any_eq_true]
            exact ⟨(a, b), by rw [← hx]; exact List.getElem_mem _, hin⟩
          rw [this]
          cases neg <;> rfl
        have Hres := hide hres
        clear hcl hxl e1 e2 hstep hx hres
        unfold inR at hin
        rw [Bool.and_eq_true, decide_eq_true_eq, decide_eq_true_eq] at hin
        have hca : a.toNat ≤ c.toNat := hin.1
        have hcb : c.toNat ≤ b.toNat := hin.2
        clear hin
        go_wp2
        go_ret
        exact ⟨ret_bool Hres.out, hb⟩
    · have hres : neg = (rs.any (inR c) != neg) := by
        have := Hall.out
        rw [List.take_of_length_le (by rw [Hm.out]; omega)] at this
        rw [this]
        cases neg <;> rfl
      have Hres := hide hres
      clear hres
      go_wp2
      go_ret
      exact ⟨ret_bool Hres.out, hb⟩

end Go.Proofs.YtlabdaomgogflaaDoor
