/- Walks: All, the program's and the reference's. -/
import Derived.Test.YtandmdmgleeogaaXr
namespace Go.Proofs.Ytandmdmgleeogaa
open Go.RowKit
open Go.Lib (byteCells)

/-- What All returns. -/
def AllR (w : World) (r : List (List UInt8) × Nat) (e : Ending) (w' : World) : Prop :=
  ∃ v, e = .returned (.tuple #[v, .int .i64 (r.2 : Int)]) ∧ RowsL w' w.heap.size v r.1 ∧ Below w.heap.size w w'

set_option maxRecDepth 20000 in
set_option maxHeartbeats 3200000 in
theorem all20 (A : Option Addr) (n c : Nat) (l : List UInt8) (w : World) (h : Sl w A n c (byteCells l)) (hn : n ≤ 100000000) (most : Int) (f : Nat) (hf : n < f) :
    Calls Try.prog 20 #[.slice A n c, .int .i64 most] w (AllR w (allP l most f [] 0)) := by
  obtain ⟨i0, hi, hz0, hz1, hz2⟩ := info_parts info23
  have Hlen := hide h.len
  have H := hide h
  obtain ⟨⟨R, K⟩, hR⟩ : ∃ r, allP l most f [] 0 = r := ⟨_, rfl⟩
  rw [hR]
  have HR := hide hR
  clear h hR
  go_enter Try.func20, Try.ntmps20
  go_wp2
  go_loopw [6, 7] (fun u y wr => ∃ (ls : List (List UInt8)) (k g : Nat), y = .int .i64 (k : Int) ∧ k ≤ n ∧ ls.length ≤ k ∧ n < g + k ∧ allP l most g ls k = (R, K) ∧ RowsL wr w.heap.size u ls ∧ Below w.heap.size w wr) (fun _ y _ => n + 1 - (intOf y).toNat)
  case atStart => exact ⟨[], 0, f, rfl, Nat.zero_le _, Nat.le_refl _, by omega, HR.out, RowsL.nil _ _, Below.refl _ _⟩
  case round =>
    obtain ⟨ls, k, g, rfl, hk, hls, hg, hall, hrows, hbel⟩ := hrel
    have hsz := hbel.size
    obtain ⟨g, rfl⟩ : ∃ g', g = g' + 1 := ⟨g - 1, by omega⟩
    obtain ⟨⟨r, nx, er⟩, ho⟩ : ∃ o, openP l (k : Int) most = o := ⟨_, rfl⟩
    have Ho := hide ho
    have Hrows := hide hrows
    have Hb := hide hbel
    have H1 := hide (H.out.below hbel)
    by_cases her : er = 0
    · subst her
      rw [all_step l most g ls k r nx ho] at hall
      have hnx := open_next l k most r nx ho
      rw [Hlen.out] at hnx
      obtain ⟨hnx1, hnx2⟩ := hnx
      have Hall := hide hall
      clear hall hrows hbel ho
      go_wp2_with fail
      refine (open18 A n c l _ H1.out hn (k : Int) most).mono ?_
      rw [Ho.out]
      rintro e w2 ⟨v2, rfl, hown2, hb2⟩
      obtain ⟨A2, m2, c2, rfl, -, hs2⟩ := hown2.sl5
      obtain ⟨hs, hown, hmany⟩ := Hrows.out
      have hlies := Lies.new hown hs2 (fun ad e => (hown2.lt ad.block (by rw [e]; rfl)).1)
      have hmany2 := many_snoc (hmany.far (Far.of_below hb2)) hlies
      have Hown2 := hide (hown.below hb2)
      have Hmany2 := hide hmany2
      have B2 := hide (Hb.out.trans (hb2.mono hsz))
      have hsz2 := B2.out.size
      have hhl : (hs.map slv).length ≤ 100000000 := by rw [List.length_map, hmany.1]; omega
      clear hs2 hown hmany hlies hmany2 hown2 hb2 Hrows Hb H1
      go_wp2_with (at_builtin; refine wp_push_far rfl (.tmp 23) (.tmp 25) 35 rfl 23 i0 (.slice none 0 0) 24 Try.underlying35 hi hz0 hz1 hz2 rfl w.heap.size _ (hs.map slv) rfl _ _ rfl Hown2.out hsz2 _ rfl rfl (by omega) (by unfold maxLen; omega) _ ?_)
      intro v3 w3 hown3 hb3 hf3
      have hrows3 : RowsL w3 w.heap.size v3 (ls ++ [r]) := ⟨hs ++ [(A2, m2, c2)], by rw [List.map_append]; exact hown3, Hmany2.out.far hf3⟩
      have Hrows3 := hide hrows3
      have B3 := hide (B2.out.trans hb3)
      clear hown3 hb3 hf3 hrows3 B2 Hown2 Hmany2
      go_wp2
      go_roundw
      case rel => exact ⟨ls ++ [r], nx, g, rfl, hnx2, by rw [List.length_append]; simp; omega, by omega, Hall.out, Hrows3.out, B3.out⟩
      case measure => simp [intOf]; omega
    · rw [all_stop l most g ls k r nx er ho her] at hall
      simp only [Prod.mk.injEq] at hall
      obtain ⟨rfl, rfl⟩ := hall
      have hei : ((er : Int) == 0) = false := beq_eq_false_iff_ne.2 (by omega)
      have hen : ((er : Int) != 0) = true := by rw [bne, hei]; rfl
      clear hrows hbel ho her
      go_wp2_with fail
      refine (open18 A n c l _ H1.out hn (k : Int) most).mono ?_
      rw [Ho.out]
      rintro e w2 ⟨v2, rfl, -, hb2⟩
      have Hrows2 := hide (Hrows.out.below hb2)
      have B2 := hide (Hb.out.trans (hb2.mono hsz))
      clear hb2 Hrows Hb H1
      go_wp2
      go_ret2
      exact ⟨_, rfl, Hrows2.out, B2.out⟩

set_option maxRecDepth 20000 in
set_option maxHeartbeats 3200000 in
theorem rall21 (A : Option Addr) (n c : Nat) (l : List UInt8) (w : World) (h : Sl w A n c (byteCells l)) (hn : n ≤ 100000000) (most : Int) (f : Nat) (hf : n < f) :
    Calls Try.prog 21 #[.slice A n c, .int .i64 most] w (AllR w (allP l most f [] 0)) := by
  obtain ⟨i0, hi, hz0, hz1, hz2⟩ := info_parts info23
  have Hlen := hide h.len
  have H := hide h
  obtain ⟨⟨R, K⟩, hR⟩ : ∃ r, allP l most f [] 0 = r := ⟨_, rfl⟩
  rw [hR]
  have HR := hide hR
  clear h hR
  go_enter Try.func21, Try.ntmps21
  go_wp2
  go_loopw [6, 7] (fun u y wr => ∃ (ls : List (List UInt8)) (k g : Nat), y = .int .i64 (k : Int) ∧ k ≤ n ∧ ls.length ≤ k ∧ n < g + k ∧ allP l most g ls k = (R, K) ∧ RowsL wr w.heap.size u ls ∧ Below w.heap.size w wr) (fun _ y _ => n + 1 - (intOf y).toNat)
  case atStart => exact ⟨[], 0, f, rfl, Nat.zero_le _, Nat.le_refl _, by omega, HR.out, RowsL.nil _ _, Below.refl _ _⟩
  case round =>
    obtain ⟨ls, k, g, rfl, hk, hls, hg, hall, hrows, hbel⟩ := hrel
    have hsz := hbel.size
    obtain ⟨g, rfl⟩ : ∃ g', g = g' + 1 := ⟨g - 1, by omega⟩
    by_cases hkn : n ≤ k
    · rw [all_end l most g ls k (by rw [Hlen.out]; exact hkn)] at hall
      simp only [Prod.mk.injEq] at hall
      obtain ⟨rfl, rfl⟩ := hall
      have Hrows := hide hrows
      have Hb := hide hbel
      clear hrows hbel
      go_wp2
      go_ret2
      exact ⟨_, rfl, Hrows.out, Hb.out⟩
    obtain ⟨⟨r, nx, er⟩, ho⟩ : ∃ o, openP l (k : Int) most = o := ⟨_, rfl⟩
    have Ho := hide ho
    have Hrows := hide hrows
    have Hb := hide hbel
    have H1 := hide (H.out.below hbel)
    by_cases her : er = 0
    · subst her
      rw [all_step l most g ls k r nx ho] at hall
      have hnx := open_next l k most r nx ho
      rw [Hlen.out] at hnx
      obtain ⟨hnx1, hnx2⟩ := hnx
      have Hall := hide hall
      clear hall hrows hbel ho
      go_wp2_with fail
      refine (ropen19 A n c l _ H1.out hn (k : Int) most).mono ?_
      rw [Ho.out]
      rintro e w2 ⟨v2, rfl, hown2, hb2⟩
      obtain ⟨A2, m2, c2, rfl, -, hs2⟩ := hown2.sl5
      obtain ⟨hs, hown, hmany⟩ := Hrows.out
      have hlies := Lies.new hown hs2 (fun ad e => (hown2.lt ad.block (by rw [e]; rfl)).1)
      have hmany2 := many_snoc (hmany.far (Far.of_below hb2)) hlies
      have Hown2 := hide (hown.below hb2)
      have Hmany2 := hide hmany2
      have B2 := hide (Hb.out.trans (hb2.mono hsz))
      have hsz2 := B2.out.size
      have hhl : (hs.map slv).length ≤ 100000000 := by rw [List.length_map, hmany.1]; omega
      clear hs2 hown hmany hlies hmany2 hown2 hb2 Hrows Hb H1
      go_wp2_with (at_builtin; refine wp_push_far rfl (.tmp 27) (.tmp 29) 35 rfl 23 i0 (.slice none 0 0) 24 Try.underlying35 hi hz0 hz1 hz2 rfl w.heap.size _ (hs.map slv) rfl _ _ rfl Hown2.out hsz2 _ rfl rfl (by omega) (by unfold maxLen; omega) _ ?_)
      intro v3 w3 hown3 hb3 hf3
      have hrows3 : RowsL w3 w.heap.size v3 (ls ++ [r]) := ⟨hs ++ [(A2, m2, c2)], by rw [List.map_append]; exact hown3, Hmany2.out.far hf3⟩
      have Hrows3 := hide hrows3
      have B3 := hide (B2.out.trans hb3)
      clear hown3 hb3 hf3 hrows3 B2 Hown2 Hmany2
      go_wp2
      go_roundw
      case rel => exact ⟨ls ++ [r], nx, g, rfl, hnx2, by rw [List.length_append]; simp; omega, by omega, Hall.out, Hrows3.out, B3.out⟩
      case measure => simp [intOf]; omega
    · rw [all_stop l most g ls k r nx er ho her] at hall
      simp only [Prod.mk.injEq] at hall
      obtain ⟨rfl, rfl⟩ := hall
      have hei : ((er : Int) == 0) = false := beq_eq_false_iff_ne.2 (by omega)
      have hen : ((er : Int) != 0) = true := by rw [bne, hei]; rfl
      clear hrows hbel ho her
      go_wp2_with fail
      refine (ropen19 A n c l _ H1.out hn (k : Int) most).mono ?_
      rw [Ho.out]
      rintro e w2 ⟨v2, rfl, -, hb2⟩
      have Hrows2 := hide (Hrows.out.below hb2)
      have B2 := hide (Hb.out.trans (hb2.mono hsz))
      clear hb2 Hrows Hb H1
      go_wp2
      go_ret2
      exact ⟨_, rfl, Hrows2.out, B2.out⟩

end Go.Proofs.Ytandmdmgleeogaa
