/- Layer 10: walks of the reference on lists of strings: add, product, both, Strings. -/
import Derived.Test.YtlnbjdlooghpeaaQb
namespace Go.Proofs.Ytlnbjdlooghpeaa
open Go.RowKit
open Go.Op (bytesLess)

theorem bsx_to (l : List UInt8) : (bsx l).toList = l := by rw [ByteArray.toList_eq]; exact bsx_list l
theorem str_eq {a b : List UInt8} (h : a = b) : ((bsx a).toList == (bsx b).toList) = true := by rw [h]; simp
theorem str_ne {a b : List UInt8} (h : a ≠ b) : ((bsx a).toList == (bsx b).toList) = false := by rw [bsx_to, bsx_to]; simpa using h
theorem str_less (a b : List UInt8) (q : Bool) (h : bytesLess a b = q) : bytesLess (bsx a).toList (bsx b).toList = q := by rw [bsx_to, bsx_to]; exact h
theorem info9 : (Try.prog.info? 9).map (fun i => (i.zero, i.size, i.bytes)) = some (some (.string ByteArray.empty), 1, 16) := by kernel_rfl
/-- What a list of strings returns as. -/
def GotS (W : World) (l : List (List UInt8)) (e : Ending) (w' : World) : Prop := ∃ A n c, e = .returned (.slice A n c) ∧ n = l.length ∧ Sl w' A n c (strCells l) ∧ Below W.heap.size W w'
theorem Sl.nstr {w : World} {A : Option Addr} {n c : Nat} {xs : List (List UInt8)} (h : Sl w A n c (strCells xs)) : xs.length = n := by rw [← str_len]; exact h.reads.1
theorem own_str {w : World} {B : Nat} {v : Value} {l : List (List UInt8)} (h : Own w B 9 v (strCells l)) : ∃ A m c, v = .slice A m c ∧ m = l.length ∧ Sl w A m c (strCells l) := by
  obtain ⟨A, c, rfl, hs⟩ := h.sl
  exact ⟨A, _, c, rfl, str_len l, hs⟩
theorem str_snoc (l : List (List UInt8)) (s : List UInt8) : strCells l ++ [.string (bsx s)] = strCells (l ++ [s]) := by simp [strCells]

set_option maxRecDepth 100000 in
set_option maxHeartbeats 6400000 in
theorem radd {W : World} {A : Option Addr} {n c : Nat} {l : List (List UInt8)} (h : Sl W A n c (strCells l)) (hl : l.length ≤ 100000) (s : List UInt8) :
    Calls Try.prog 77 #[.slice A n c, .string (bsx s)] W (GotS W (addS l s)) := by
  obtain ⟨i0, hi0, hz0, hz1, hz2⟩ := info_parts info9
  have hnc := h.1
  have hcc := h.2.1
  have hnl := h.nstr
  have Hnl := hide hnl
  have hn5 : n ≤ 100000 := by omega
  have SL := hide h
  clear h hnl
  go_enter Try.func77, Try.ntmps77
  go_wp2
  go_loopw [5, 6, 7] (fun v y x wr => ∃ i : Nat, i ≤ n ∧ x = .int .i64 (i : Int) ∧ s ∉ l.take i ∧ y = .bool (addAt s l i).1 ∧ Own wr W.heap.size 9 v (strCells (addAt s l i).2) ∧ Below W.heap.size W wr) (fun _ _ x _ => n - (intOf x).toNat)
  case atStart => exact ⟨0, Nat.zero_le _, rfl, by simp, by rw [addAt_zero], by rw [addAt_zero]; exact World.ownsRow_nil _ _ _ _, Below.refl _ _⟩
  case round =>
    obtain ⟨i, hi, rfl, hm, rfl, hown, hbel⟩ := hrel
    obtain ⟨w3, hw3⟩ : ∃ w3, w3 = wr := ⟨wr, rfl⟩
    subst hw3
    have Hm := hide hm
    have B3 := hide hbel
    have hsz := hbel.size
    have SL3 := hide (SL.out.below hbel)
    have hib : (i : Int) ≤ 100000 := by omega
    have hal := addAt_len s l i
    clear hm hbel
    by_cases hlt : i < n
    · have hlt' : (i : Int) < (n : Int) := by omega
      obtain ⟨ad, z, rfl, hz, hcz⟩ := str_cell SL3.out.reads hlt
      by_cases he : z = s
      · have hq := str_eq he
        have Hn := hide (show addS l s = l by unfold addS; rw [if_pos (by rw [← he]; exact List.mem_of_getElem? hz)])
        clear he hz hown hal
        go_wp2
        go_ret
        exact ⟨_, _, _, rfl, by rw [Hn.out, Hnl.out], by rw [Hn.out]; exact SL3.out, B3.out⟩
      · have hq := str_ne he
        have Hnm := hide (show s ∉ l.take (i + 1) by
          rw [takeN hz, List.mem_append, List.mem_singleton]
          exact fun h => h.elim Hm.out fun e => he e.symm)
        have Hnx := hide (addAt_next (s := s) hz)
        obtain ⟨p, hp⟩ : ∃ p, addAt s l i = p := ⟨_, rfl⟩
        rw [hp] at hown hal Hnx ⊢
        obtain ⟨p1, p2⟩ := p
        have hxl : (strCells p2).length ≤ 2 * i := by rw [str_len]; exact hal
        have Ho := hide (show Own w3 W.heap.size 9 u5 (strCells p2) from hown)
        clear hown hal hp he hz
        cases p1 with
        | true =>
          have Hn := hide (show addAt s l (i + 1) = (true, p2 ++ [z]) by rw [Hnx.out]; unfold addSt; simp)
          clear Hnx
          go_wp2_with (at_builtin; refine wp_push_far rfl (.tmp 35) (.tmp 40) 28 rfl 9 i0 _ 16 Try.underlying28 hi0 hz0 hz1 hz2 rfl W.heap.size _ _ rfl _ _ rfl Ho.out hsz _ rfl rfl (by omega) (by unfold maxLen; omega) _ ?_)
          intro v' w5 ho5 hb5 hf5
          have O5 := hide (show Own w5 W.heap.size 9 v' (strCells (p2 ++ [z])) by rw [← str_snoc]; exact ho5)
          have B5 := hide (B3.out.trans hb5)
          clear ho5 hb5 hf5
          go_wp2
          go_roundw
          case rel => exact ⟨i + 1, by omega, by go_num, Hnm.out, by rw [Hn.out], by rw [Hn.out]; exact O5.out, B5.out⟩
          case measure => simp [intOf]; omega
        | false =>
          cases hb : bytesLess s z with
          | false =>
            have hls := str_less s z false hb
            have Hn := hide (show addAt s l (i + 1) = (false, p2 ++ [z]) by rw [Hnx.out]; unfold addSt; simp [hb])
            clear Hnx hb
            go_wp2_with (at_builtin; refine wp_push_far rfl (.tmp 35) (.tmp 40) 28 rfl 9 i0 _ 16 Try.underlying28 hi0 hz0 hz1 hz2 rfl W.heap.size _ _ rfl _ _ rfl Ho.out hsz _ rfl rfl (by omega) (by unfold maxLen; omega) _ ?_)
            intro v' w5 ho5 hb5 hf5
            have O5 := hide (show Own w5 W.heap.size 9 v' (strCells (p2 ++ [z])) by rw [← str_snoc]; exact ho5)
            have B5 := hide (B3.out.trans hb5)
            clear ho5 hb5 hf5
            go_wp2
            go_roundw
            case rel => exact ⟨i + 1, by omega, by go_num, Hnm.out, by rw [Hn.out], by rw [Hn.out]; exact O5.out, B5.out⟩
            case measure => simp [intOf]; omega
          | true =>
            have hls := str_less s z true hb
            have Hn := hide (show addAt s l (i + 1) = (true, p2 ++ [s] ++ [z]) by rw [Hnx.out]; unfold addSt; simp [hb])
            clear Hnx hb
            go_wp2_with (at_builtin; refine wp_push_far rfl (.tmp 31) (.tmp 33) 28 rfl 9 i0 _ 16 Try.underlying28 hi0 hz0 hz1 hz2 rfl W.heap.size _ _ rfl _ _ rfl Ho.out hsz _ rfl rfl (by omega) (by unfold maxLen; omega) _ ?_)
            intro v' w5 ho5 hb5 hf5
            have O5 := hide (show Own w5 W.heap.size 9 v' (strCells (p2 ++ [s])) by rw [← str_snoc]; exact ho5)
            have hxl5 : (strCells (p2 ++ [s])).length ≤ 2 * i + 1 := by rw [← str_snoc, List.length_append]; simpa using hxl
            have B5 := hide (B3.out.trans hb5)
            have hsz5 := B5.out.size
            obtain ⟨-, -, -, hcz5⟩ : True ∧ True ∧ True ∧ w5.cell? (ad.add i) = some (.string (bsx z)) := ⟨trivial, trivial, trivial, by
              obtain ⟨ad', z', e, hz', hcz'⟩ := str_cell (SL.out.below B5.out).reads hlt
              cases e
              obtain ⟨ad'', z'', e'', hz'', hcz''⟩ := str_cell SL3.out.reads hlt
              cases e''
              rw [hcz'] 
              rw [hz'] at hz''
              cases hz''
              rw [hcz''] at hcz
              exact hcz⟩
            clear ho5 hb5 hf5 hcz
            go_wp2_with (at_builtin; refine wp_push_far rfl (.tmp 35) (.tmp 40) 28 rfl 9 i0 _ 16 Try.underlying28 hi0 hz0 hz1 hz2 rfl W.heap.size _ _ rfl _ _ rfl O5.out hsz5 _ rfl rfl (by omega) (by unfold maxLen; omega) _ ?_)
            intro v' w6 ho6 hb6 hf6
            have O6 := hide (show Own w6 W.heap.size 9 v' (strCells (p2 ++ [s] ++ [z])) by rw [← str_snoc]; exact ho6)
            have B6 := hide (B5.out.trans hb6)
            clear ho6 hb6 hf6
            go_wp2
            go_roundw
            case rel => exact ⟨i + 1, by omega, by go_num, Hnm.out, by rw [Hn.out], by rw [Hn.out]; exact O6.out, B6.out⟩
            case measure => simp [intOf]; omega
    · have hlt' : ¬ (i : Int) < (n : Int) := by omega
      have hn := Hm.out
      rw [takeA l (by rw [Hnl.out]; omega)] at hn
      have Hall := hide (addAt_all hn)
      have hil : i = l.length := by rw [Hnl.out]; omega
      rw [← hil] at Hall
      obtain ⟨p, hp⟩ : ∃ p, addAt s l i = p := ⟨_, rfl⟩
      rw [hp] at hown hal Hall ⊢
      obtain ⟨p1, p2⟩ := p
      have hxl : (strCells p2).length ≤ 2 * i := by rw [str_len]; exact hal
      have Ho := hide (show Own w3 W.heap.size 9 u5 (strCells p2) from hown)
      clear hown hal hp hn hil
      cases p1 with
      | true =>
        have Hn := hide (show addS l s = p2 by rw [Hall.out]; rfl)
        clear Hall
        obtain ⟨A7, m7, c7, rfl, hm7, hsl7⟩ := own_str Ho.out
        have S7 := hide hsl7
        have Hm7 := hide hm7
        clear hsl7 hm7
        go_wp2
        go_ret
        exact ⟨_, _, _, rfl, by rw [Hn.out, Hm7.out], by rw [Hn.out]; exact S7.out, B3.out⟩
      | false =>
        have Hn := hide (show addS l s = p2 ++ [s] by rw [Hall.out]; rfl)
        clear Hall
        go_wp2_with (at_builtin; refine wp_push_far rfl (.tmp 44) (.tmp 46) 28 rfl 9 i0 _ 16 Try.underlying28 hi0 hz0 hz1 hz2 rfl W.heap.size _ _ rfl _ _ rfl Ho.out hsz _ rfl rfl (by omega) (by unfold maxLen; omega) _ ?_)
        intro v' w5 ho5 hb5 hf5
        have ho5' : Own w5 W.heap.size 9 v' (strCells (p2 ++ [s])) := by rw [← str_snoc]; exact ho5
        obtain ⟨A7, m7, c7, rfl, hm7, hsl7⟩ := own_str ho5'
        have S7 := hide hsl7
        have Hm7 := hide hm7
        have B5 := hide (B3.out.trans hb5)
        clear ho5 hb5 hf5 ho5' hsl7 hm7
        go_wp2
        go_ret
        exact ⟨_, _, _, rfl, by rw [Hn.out, Hm7.out], by rw [Hn.out]; exact S7.out, B5.out⟩

end Go.Proofs.Ytlnbjdlooghpeaa
