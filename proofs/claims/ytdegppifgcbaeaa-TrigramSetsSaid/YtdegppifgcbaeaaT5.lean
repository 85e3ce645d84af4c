/- Walks of layer 6's reference: At, SameGrams; the law's begins. -/
import Derived.Test.YtdegppifgcbaeaaT4
namespace Go.Proofs.Ytdegppifgcbaeaa
open Go.RowKit

theorem at_hit (gs : List (Int × List Int)) (k : Nat) (z : Int) (l : List Int) (h : gs[k]? = some (z, l)) (hm : atS gs z = atS (gs.drop k) z) : atS gs z = l := by
  obtain ⟨hk, e⟩ := List.getElem?_eq_some_iff.1 h
  rw [hm, List.drop_eq_getElem_cons hk, e]
  show (if z = z then l else _) = l
  rw [if_pos rfl]
theorem at_miss (gs : List (Int × List Int)) (k : Nat) (z c : Int) (l : List Int) (h : gs[k]? = some (z, l)) (hne : ¬ z = c) (hm : atS gs c = atS (gs.drop k) c) : atS gs c = atS (gs.drop (k + 1)) c := by
  obtain ⟨hk, e⟩ := List.getElem?_eq_some_iff.1 h
  rw [hm, List.drop_eq_getElem_cons hk, e]
  show (if z = c then l else _) = _
  rw [if_neg hne]

/-- The ints that At returns: a slice that was there. -/
def RetI (w : World) (l : List Int) (e : Ending) (w' : World) : Prop := ∃ A n c, e = .returned (.slice A n c) ∧ Sl w' A n c (numCells l) ∧ w = w'

set_option maxRecDepth 20000 in
set_option maxHeartbeats 800000 in
theorem rat21 (A : Option Addr) (n c : Nat) (gs : List (Int × List Int)) (code : Int) (w : World) (h : GrS w A n c gs) :
    Calls Try.prog 21 #[.slice A n c, .int .i64 code] w (RetI w (atS gs code)) := by
  have hnc := h.1
  have hcc := h.2.1
  have Hlen := hide h.2.2.1
  have H := hide h
  clear h
  go_enter Try.func21, Try.ntmps21
  go_wp2
  go_loop [5] (fun x => ∃ k : Nat, k ≤ n ∧ x = .int .i64 k ∧ atS gs code = atS (gs.drop k) code) (fun x => n - (intOf x).toNat)
  case atStart => exact ⟨0, Nat.zero_le _, rfl, rfl⟩
  case round =>
    obtain ⟨k, hk, rfl, hm⟩ := hrel
    have Hm := hide hm
    clear hm
    by_cases hlt : k < n
    · obtain ⟨g, o, z, l, A', n', c', rfl, hz, h0, h1, hs⟩ := H.out.at_ hlt
      by_cases he : z = code
      · subst he
        have Hr := hide (at_hit gs k z l hz Hm.out)
        have Hs := hide hs
        clear hz hs
        go_wp2
        go_ret
        exact ⟨A', n', c', rfl, by rw [Hr.out]; exact Hs.out, rfl⟩
      · have Hr := hide (at_miss gs k z code l hz he Hm.out)
        have hb : (z == code) = false := beq_eq_false_iff_ne.2 he
        clear hz hs he
        go_wp2
        go_round
        case rel => exact ⟨k + 1, by omega, by go_num, Hr.out⟩
        case measure => simp [intOf]; omega
    · have hall := Hm.out
      rw [List.drop_of_length_le (by rw [Hlen.out]; omega)] at hall
      have Hall := hide hall
      clear hall
      go_wp2
      go_ret
      exact ⟨none, 0, 0, rfl, by rw [Hall.out]; exact Sl.nil _, rfl⟩

set_option maxRecDepth 20000 in
set_option maxHeartbeats 1600000 in
theorem rsameG17 (A A' : Option Addr) (n c n' c' : Nat) (gs : List (Int × List Int)) (w : World) (h : GrS w A n c gs) (h' : GrS w A' n' c' gs) :
    Calls Try.prog 17 #[.slice A n c, .slice A' n' c'] w fun e w' => e = .returned (.bool true) ∧ Drawn w w' := by
  have e : n' = n := by rw [← h.2.2.1, h'.2.2.1]
  subst e
  have hnc := h.1
  have hcc := h.2.1
  have H := hide h
  have H' := hide h'
  clear h h'
  go_enter Try.func17, Try.ntmps17
  go_wp2
  go_loopw [5] (fun x wr => ∃ k : Nat, k ≤ n' ∧ x = .int .i64 k ∧ Drawn w wr) (fun x _ => n' - (intOf x).toNat)
  case atStart => exact ⟨0, Nat.zero_le _, rfl, Drawn.refl _⟩
  case round =>
    obtain ⟨k, hk, rfl, hd⟩ := hrel
    have Hd := hide hd
    have hbel := hd.below w.heap.size
    clear hd
    by_cases hlt : k < n'
    · obtain ⟨g, o, z, l, B, m, b, rfl, hz, h0, h1, hs⟩ := (H.out.below hbel).at_ hlt
      obtain ⟨g', o', z', l', B', m', b', rfl, hz', h0', h1', hs'⟩ := (H'.out.below hbel).at_ hlt
      rw [hz] at hz'
      cases hz'
      have Hs := hide hs
      have Hs' := hide hs'
      clear hz hbel hs hs'
      go_wp2
      go_quiet ((go_at_call 14; exact quiet_drawn (rsame14 _ _ _ _ _ _ l _ (Hs.out.below (Drawn.below ⟨_, rfl⟩ _)) (Hs'.out.below (Drawn.below ⟨_, rfl⟩ _)))))
      go_wp2
      go_roundw
      case rel => exact ⟨k + 1, by omega, by go_num, Hd.out.more _⟩
      case measure => simp [intOf]; omega
    · clear hbel
      go_wp2
      go_ret
      exact ⟨rfl, Hd.out⟩

end Go.Proofs.Ytdegppifgcbaeaa
