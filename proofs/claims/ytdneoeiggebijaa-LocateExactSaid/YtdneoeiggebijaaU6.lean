/- Walks of layers 6 and the library: slices.Clone, Code, At. -/
import Derived.Test.YtdneoeiggebijaaU5
namespace Go.Proofs.Ytdneoeiggebijaa
open Go.RowKit Go.Shelf Go.Sort

/-- A slice of the call's own, of the elements, for slices.Clone's argument. -/
theorem clone46 (A : Option Addr) (n c : Nat) (l : List Int) (w : World) (h : Sl w A n c (numCells l)) (hn : n ≤ 17592186044416) :
    Calls Try.prog 46 #[.slice A n c] w (GotI w l) := by
  have hlen := h.nlen
  have own : ∀ {e : Ending} {v : Value} {w' : World}, e = .returned v → w'.ownsRow w.heap.size 3 1 v n (l.map (Value.int .i64)) → Below w.heap.size w w' → GotI w l e w' := by
    intro e v w' he ho hb
    refine GrewI.got ⟨v, he, ?_, hb⟩
    unfold Own
    rw [num_len, hlen]
    exact ho
  cases A with
  | none =>
    have hc := h.2.2.1 rfl
    have hnc := h.1
    obtain rfl : n = 0 := by omega
    obtain rfl : l = [] := List.eq_nil_of_length_eq_zero hlen
    refine (Try.slices_Clone_int_nil 0 c w).mono ?_
    rintro e w' ⟨rfl, rfl⟩
    exact own rfl (World.ownsRow_nil _ _ _ _) (Below.refl _ _)
  | some ad =>
    by_cases h0 : n = 0
    · subst h0
      obtain rfl : l = [] := List.eq_nil_of_length_eq_zero hlen
      refine (Try.slices_Clone_int_zero ad c w).mono ?_
      rintro e w' ⟨v, rfl, ho, hv, hb⟩
      exact own rfl ho hb
    · obtain ⟨g, o, rfl, hc⟩ := h.shelf (by omega)
      refine (Try.slices_Clone_int g o n c l w (by omega) (by omega) hc).mono ?_
      rintro e w' ⟨v, rfl, ho, hv, hb⟩
      rw [List.take_of_length_le (by omega)] at ho
      exact own rfl ho hb

set_option maxHeartbeats 800000 in
theorem code33 (s : ByteArray) (w : World) (_hs : s.size ≤ 9223372036854775807) :
    Calls Try.prog 33 #[.string s] w fun e w' => e = .returned (.tuple #[.int .i64 (codeS s.data.toList), .bool (decide (s.size = 3))]) ∧ Below w.heap.size w w' := by
  by_cases h : s.size = 3
  · have hb : ((s.size : Int) != 3) = false := by rw [h]; rfl
    have Hc := hide (show codeS s.data.toList = tri s.data.toList 0 by unfold codeS; rw [if_pos (by rw [size_list]; exact h)])
    have Hd := hide (decide_eq_true h)
    have h3 : 2 < s.size := by omega
    have h4 : s.size ≤ 100000 := by omega
    clear h
    go_enter Try.func33, Try.ntmps33
    go_wp2_with fail
    refine (fold40 s _ h4).mono ?_
    rintro e w' ⟨rfl, hb1⟩
    have B1 := hide hb1
    clear hb1
    go_wp2_with fail
    refine (codeat42 s 0 (tri s.data.toList 0) _ (by omega) h4 rfl).mono ?_
    rintro e w2 ⟨rfl, hd⟩
    have B2 := hide (B1.out.trans (hd.below _))
    clear hd
    go_wp2
    go_ret2
    exact ⟨by rw [Hc.out, Hd.out]; rfl, B2.out⟩
  · have hb : ((s.size : Int) != 3) = true := by rw [bne_iff_ne]; omega
    have Hc := hide (show codeS s.data.toList = 0 by unfold codeS; rw [if_neg (by rw [size_list]; exact h)])
    have Hd := hide (decide_eq_false h)
    clear h
    go_enter Try.func33, Try.ntmps33
    go_wp2
    go_ret2
    exact ⟨by rw [Hc.out, Hd.out]; rfl, Below.refl _ _⟩

theorem at_hit (gs : List (Int × List Int)) (k : Nat) (z : Int) (l : List Int) (h : gs[k]? = some (z, l)) (hm : atS gs z = atS (gs.drop k) z) : atS gs z = l := by
  obtain ⟨hk, e⟩ := List.getElem?_eq_some_iff.1 h
  rw [hm, List.drop_eq_getElem_cons hk, e]
  show (if z = z then l else _) = l
  rw [if_pos rfl]
theorem at_miss (gs : List (Int × List Int)) (k : Nat) (z c : Int) (l : List Int) (h : gs[k]? = some (z, l)) (hne : ¬ z = c) (hm : atS gs c = atS (gs.drop k) c) : atS gs c = atS (gs.drop (k + 1)) c := by
  obtain ⟨hk, e⟩ := List.getElem?_eq_some_iff.1 h
  rw [hm, List.drop_eq_getElem_cons hk, e]
  show (if z = c then l else _) = _
  rw [if_neg hne]

set_option maxRecDepth 20000 in
set_option maxHeartbeats 1600000 in
theorem at43 (A : Option Addr) (n c : Nat) (gs : List (Int × List Int)) (code : Int) (w : World) (h : GrS w A n c gs) (hb : ∀ g ∈ gs, g.2.length ≤ 17592186044416) : Calls Try.prog 43 #[.slice A n c, .int .i64 code] w (GotI w (atS gs code)) := by
  have hnc := h.1
  have hcc := h.2.1
  have Hlen := hide h.2.2.1
  have H := hide h
  have Hb := hide hb
  clear h hb
  go_enter Try.func43, Try.ntmps43
  go_wp2
  go_loopw [9] (fun x wr => ∃ k : Nat, k ≤ n ∧ x = .int .i64 k ∧ atS gs code = atS (gs.drop k) code ∧ Below w.heap.size w wr) (fun x _ => n - (intOf x).toNat)
  case atStart => exact ⟨0, Nat.zero_le _, rfl, rfl, Below.refl _ _⟩
  case round =>
    obtain ⟨k, hk, rfl, hm, hbel⟩ := hrel
    obtain ⟨wo, hwo⟩ : ∃ wo, wo = wr := ⟨wr, rfl⟩
    subst hwo
    have Hm := hide hm
    have B := hide hbel
    clear hm
    by_cases hlt : k < n
    · obtain ⟨g, o, z, l, A', n', c', rfl, hz, h0, h1, hs⟩ := (H.out.below hbel).at_ hlt
      have hll := Hb.out _ (List.mem_of_getElem? hz)
      have Hs := hide hs
      have hsn : n' ≤ 17592186044416 := by have := hs.nlen; have : l.length ≤ 17592186044416 := hll; omega
      by_cases he : z = code
      · subst he
        have Hr := hide (at_hit gs k z l hz Hm.out)
        clear hz hs hbel hll
        go_wp2_with fail
        with_reducible refine (clone46 A' n' c' l _ (Hs.out.below (bnew (Below.refl _ _) _)) hsn).mono ?_
        rintro e w2 ⟨A2, m2, c2, rfl, h2, hb2⟩
        have H2 := hide h2
        have B2 := hide ((B.out.alloc B.out.size _).trans (hb2.mono (Nat.le_trans B.out.size (by simp))))
        clear h2 hb2
        go_wp2
        go_ret
        exact ⟨A2, m2, c2, rfl, by rw [Hr.out]; exact H2.out, B2.out⟩
      · have Hr := hide (at_miss gs k z code l hz he Hm.out)
        have hne : (z == code) = false := beq_eq_false_iff_ne.2 he
        have B2 := hide (B.out.alloc B.out.size (.cells #[.int .i64 z, .slice A' n' c'] 32))
        clear hz hs hbel he hll
        go_wp2
        go_roundw
        case rel => exact ⟨k + 1, by omega, by go_num, Hr.out, B2.out⟩
        case measure => simp [intOf]; omega
    · have hall := Hm.out
      rw [List.drop_of_length_le (by rw [Hlen.out]; omega)] at hall
      have Hall := hide hall
      clear hall hbel
      go_wp2
      go_ret
      exact ⟨none, 0, 0, rfl, by rw [Hall.out]; exact Sl.nil _, B.out⟩

end Go.Proofs.Ytdneoeiggebijaa
