/- Excerpt. -/
import Derived.Test.YtniapakheegijaaWE
namespace Go.Proofs.Ytniapakheegijaa
open Go.RowKit
theorem lines17' (s : ByteArray) (L : Nat) (hL : (starts s.data.toList s.size).length = L) (w : World) (hs : s.size ≤ 100000) :
    Calls Try.prog 17 #[.string s] w fun e w' => (∃ ao cap, e = .returned (.slice ao L cap) ∧ RdS w' ao L cap 1 (strs s s.size)) ∧ Below w.heap.size w w' := by
  subst hL
  refine (lines17 s w hs).mono ?_
  rintro e w1 ⟨⟨v, rfl, hown⟩, hb⟩
  obtain ⟨ao, cap, rfl, h⟩ := (Rd.of_owns hown).s
  exact ⟨⟨ao, cap, rfl, h⟩, hb⟩

theorem not_empty (s : ByteArray) (h : 0 < s.size) : s.toList.isEmpty = false := by
  cases h1 : s.toList.isEmpty with
  | false => rfl
  | true =>
    have h2 : s = ByteArray.empty := LastIndex.eq_of_toList (by rw [List.isEmpty_iff.1 h1]; simp [ByteArray.toList, ByteArray.toList.loop])
    rw [h2] at h
    exact absurd h (by decide)

theorem lineOf42' (s : ByteArray) (L off a : Nat) (Bs Bl : Nat) (ao : Option Addr) (cap : Nat) (w : World) (hL : (starts s.data.toList s.size).length = L) (hs : s.size ≤ 100000) (h0 : 0 < s.size) (ho : off ≤ s.size)
    (ha : lineNo s.data.toList (min off (s.size - 1)) = a) (hcs : w.cell? ⟨Bs, 0, none⟩ = some (.string s)) (hcl : w.cell? ⟨Bl, 0, none⟩ = some (.slice ao L cap)) :
    Calls Try.prog 42 #[.int .i64 off, .pointer (some ⟨Bs, 0, none⟩), .pointer (some ⟨Bl, 0, none⟩)] w fun e w' => e = .returned (.int .i64 a) ∧ Drawn w w' := by
  subst ha
  exact lineOf42 s L off Bs Bl ao cap w hL hs h0 ho hcs hcl

set_option maxHeartbeats 1600000 in
theorem exc29 (s : ByteArray) (p q a b : Nat) (ar : Int) (w : World) (hs : s.size ≤ 2100) (h0 : 0 < s.size) (hpq : p ≤ q) (hq : q ≤ s.size) (har : 0 ≤ ar) (har2 : ar ≤ 9223372036854775807) (L : Nat) (hL : (starts s.data.toList s.size).length = L)
    (ha : lineNo s.data.toList (min p (s.size - 1)) = a) (hb : lineNo s.data.toList (min (max p (q - 1)) (s.size - 1)) = b) (hab : a ≤ b) (hbL : b < L) :
    Calls Try.prog 29 #[.string s, .agg #[.int .i64 p, .int .i64 q], .int .i64 ar] w fun e w' => e = .returned (.string (mk (outN s a b ar L))) ∧ Below w.heap.size w w' := by
  have hL2 : L ≤ 2100 := by rw [← hL]; exact Nat.le_trans (upto_len _ _) hs
  have HL := hide hL
  have Ha := hide ha
  have Hb := hide hb
  clear hL ha hb
  have hz := not_empty s h0
  obtain ⟨f, hf⟩ : ∃ f : Nat, max 0 ((a : Int) - ar) = f := ⟨(max 0 ((a : Int) - ar)).toNat, by omega⟩
  obtain ⟨t, ht⟩ : ∃ t : Nat, (b : Int) + min ar ((L : Int) - 1 - b) = t := ⟨((b : Int) + min ar ((L : Int) - 1 - b)).toNat, by omega⟩
  have hft : f ≤ t := by omega
  have htL : t < L := by omega
  have hp2 : max (p : Int) ((q : Int) - 1) = (max p (q - 1) : Nat) := by omega
  go_enter Try.func29, Try.ntmps29
  go_wp2_with fail
  refine (lines17' s L HL.out _ (by omega)).mono ?_
  rintro e w1 ⟨⟨ao, cap, rfl, hrd⟩, hb1⟩
  have hcap : L ≤ cap := hrd.2.1
  obtain ⟨g, rfl, hg, hcells⟩ := hrd.2.2 (by omega)
  have Hcells := hide hcells
  clear hcells
  have hsz1 : w.heap.size + 1 < w1.heap.size := by have := hb1.size; simp at this; omega
  have hc0 : w1.cell? ⟨w.heap.size, 0, none⟩ = some (.string s) := by
    rw [hb1.cell (p := ⟨w.heap.size, 0, none⟩) (by simp; omega), World.cell?_alloc_lt _ _ _ (by simp), World.cell?_alloc_mark]; rfl
  have hc1 : w1.cell? ⟨w.heap.size + 1, 0, none⟩ = some (.int .i64 p) := by
    rw [hb1.cell (p := ⟨w.heap.size + 1, 0, none⟩) (by simp), show w.heap.size + 1 = (w.alloc (.cells #[.string s] 9)).heap.size by simp, World.cell?_alloc_mark]; rfl
  have hc2 : w1.cell? ⟨w.heap.size + 1, 1, none⟩ = some (.int .i64 q) := by
    rw [hb1.cell (p := ⟨w.heap.size + 1, 1, none⟩) (by simp), show w.heap.size + 1 = (w.alloc (.cells #[.string s] 9)).heap.size by simp, World.cell?_alloc_mark]; rfl
  have hb : Below w.heap.size w w1 := (((Below.refl _ _).alloc (Nat.le_refl _) _).alloc (by simp) _).trans (hb1.mono (by simp; omega))
  have HB := hide hb
  clear hb hb1
  have hs0 : ∀ m, ((w1.alloc (.cells #[(.slice (some ⟨g, 0, none⟩) L cap)] 26)).drewN m).cell? ⟨w.heap.size, 0, none⟩ = some (.string s) := fun m => by
    rw [World.cell?_drewN, World.cell?_alloc_lt _ _ _ (by simp; omega)]; exact hc0
  have hl0 : ∀ m, ((w1.alloc (.cells #[(.slice (some ⟨g, 0, none⟩) L cap)] 26)).drewN m).cell? ⟨w1.heap.size, 0, none⟩ = some (.slice (some ⟨g, 0, none⟩) L cap) := fun m => by
    rw [World.cell?_drewN, World.cell?_alloc_mark]; rfl
  have Hs0 := hide hs0
  have Hl0 := hide hl0
  clear hs0 hl0
  go_wp2_with fail
  refine (lineOf42' s L p a _ _ _ cap _ HL.out (by omega) h0 (by omega) Ha.out (Hs0.out 0) (Hl0.out 0)).mono ?_
  rintro e w2 ⟨rfl, m1, rfl⟩
  go_wp2_with fail
  refine (lineOf42' s L (max p (q - 1)) b _ _ _ cap _ HL.out (by omega) h0 (by omega) Hb.out (Hs0.out m1) (Hl0.out m1)).mono ?_
  rintro e w3 ⟨rfl, m2, rfl⟩
  go_wp2_with fail
  obtain ⟨W, hW⟩ : ∃ W, W = ((w1.alloc (.cells #[(.slice (some ⟨g, 0, none⟩) L cap)] 26)).drewN (m1 + m2)) := ⟨_, rfl⟩
  have hWs : W.heap.size = w1.heap.size + 1 := by rw [hW]; simp
  have hWb : Below w1.heap.size w1 W := by rw [hW]; exact ((Below.refl _ _).alloc (Nat.le_refl _) _).trans (Drawn.below ⟨_, rfl⟩ _)
  have hfresh := Lib.fresh_isBuilder 57 5 W
  rw [hWs] at hfresh
  have hf0 : outN s a b ar f = [] := by
    have h1 := outN_skip s a b ar 0 f (fun j _ hj => by simp [keep]; omega)
    rw [Nat.zero_add] at h1
    rw [h1]; rfl
  have hfL : outN s a b ar L = outN s a b ar (t + 1) := by
    have h1 := outN_skip s a b ar (t + 1) (L - (t + 1)) (fun j hj1 hj2 => by simp [keep]; omega)
    rwa [show t + 1 + (L - (t + 1)) = L by omega] at h1
  have hkeep : ∀ j, f ≤ j → j ≤ t → keep a b ar j = true := fun j h1 h2 => by simp [keep]; omega
  have Hfresh := hide hfresh
  have Hf0 := hide hf0
  have HfL := hide hfL
  have Hkeep := hide hkeep
  have HWs := hide hWs
  have HWb := hide hWb
  clear hfresh hf0 hfL hkeep hWs hWb
  rw [← hW]
  have HW := hide hW
  clear hW Hs0 Hl0
  obtain ⟨n, hn⟩ : ∃ n, t + 1 - f = n := ⟨_, rfl⟩
  rw [hn]
  have hnt : f + n = t + 1 := by omega
  have Hnt := hide hnt
  have hfn : f + n ≤ L := by omega
  clear hf ht hp2 hn hnt
  go_loopw [75] (fun i wr => ∃ k : Nat, k ≤ n ∧ i = .int .i64 k ∧ Lib.IsBuilder 57 5 (w1.heap.size + 1) (w1.heap.size + 1) (Lib.byteCells (outN s a b ar (f + k))) wr ∧ Below (w1.heap.size + 1) W wr) (fun i _ => n - (intOf i).toNat)
  case atStart => exact ⟨0, Nat.zero_le _, rfl, by rw [show f + 0 = f from rfl, Hf0.out]; exact Hfresh.out, (Below.refl _ _).alloc (by rw [HWs.out]; exact Nat.le_refl _) _⟩
  case round =>
    obtain ⟨k, hk, rfl, hib, hbw⟩ := hrel
    have hwr : w1.heap.size + 1 ≤ wr.heap.size := by have := hbw.size; rw [HWs.out] at this; exact this
    have hsm := outN_small s a b ar (f + k) hs (by omega)
    have hsm' : (Lib.byteCells (outN s a b ar (f + k))).length ≤ 4412100 := by simpa [Lib.byteCells] using hsm
    by_cases hlt : k < n
    · have hx : ∃ x, (strs s s.size)[f + k]? = some x := ⟨_, List.getElem?_eq_getElem (by have := hrd.1; omega)⟩
      obtain ⟨x, hx⟩ := hx
      obtain ⟨u, rfl, hu⟩ := strs_get s (f + k) x hx
      have hcx : wr.cell? ⟨g, f + k, none⟩ = some (.string u) := by
        rw [hbw.cell (p := ⟨g, f + k, none⟩) (by show g < _; omega), HWb.out.cell (p := ⟨g, f + k, none⟩) hg, Hcells.out (f + k) (by omega), hx]
      have hus : u.size ≤ 2100 := by
        have h1 := congrArg List.length hu
        have h2 := lb_len s (f + k)
        rw [size_list] at h1
        omega
      have hadd : outN s a b ar (f + (k + 1)) = outN s a b ar (f + k) ++ u.data.toList ++ [10] := by
        rw [← Nat.add_assoc, outN_yes _ _ _ _ _ (Hkeep.out (f + k) (by omega) (by have := Hnt.out; omega)), hu]
      have Hadd := hide hadd
      have Hib := hide hib
      clear hx hu hadd hib
      go_wp2_with fail
      refine (Try.Builder_WriteString _ _ _ u _ Hib.out (by omega) hwr).mono ?_
      rintro e w4 ⟨rfl, hb4, hbb4⟩
      have hw4 : w1.heap.size + 1 ≤ w4.heap.size := by have := hbb4.size; omega
      have Hb4 := hide hb4
      clear hb4
      go_wp2_with fail
      refine (Try.Builder_WriteByte _ _ _ 10 _ (Or.inr Hb4.out) (by rw [List.length_append]; simp [Lib.strCells]; omega) hw4).mono ?_
      rintro e w5 ⟨rfl, hb5, hbb5⟩
      have Hb5 := hide hb5
      clear hb5
      go_wp2
      go_roundw
      case rel => exact ⟨k + 1, by omega, by go_num, Or.inr (by rw [Hadd.out]; simpa [Lib.byteCells, Lib.strCells] using Hb5.out), (hbw.trans hbb4).trans hbb5⟩
      case measure => simp [intOf]; omega
    · obtain rfl : k = n := by omega
      have Hib := hide hib
      clear hib
      go_wp2_with fail
      refine (Try.Builder_String_any _ _ _ _ Hib.out hwr).mono ?_
      rintro e w4 ⟨rfl, hb4⟩
      go_wp2
      go_ret
      refine ⟨?_, HB.out.trans ((HWb.out.mono (by omega)).trans ((hbw.trans hb4).mono (by omega)))⟩
      rw [Hnt.out, HfL.out]
      rfl
end Go.Proofs.Ytniapakheegijaa
