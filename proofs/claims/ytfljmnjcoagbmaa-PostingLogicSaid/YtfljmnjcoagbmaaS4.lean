/- Walk of layer 5's program: merging by a test (merge33). -/
import Derived.Test.YtfljmnjcoagbmaaSm
namespace Go.Proofs.Ytfljmnjcoagbmaa
open Go.RowKit

set_option maxRecDepth 20000 in
set_option maxHeartbeats 12800000 in
theorem merge33 (A A' : Option Addr) (n c n' c' : Nat) (a b : List Int) (w : World) (h : Sl w A n c (numCells a)) (h' : Sl w A' n' c' (numCells b)) (hn : n ≤ 100000) (hn' : n' ≤ 100000) :
    Calls Try.prog 32 #[.slice A n c, .slice A' n' c', .func (.func 33) #[] #[]] w (GrewI w (mergeF (fun p q => p && q) (sortU a) (sortU b))) := by
  obtain ⟨i0, hi, hz0, hz1, hz2⟩ := info_parts info3
  have hla := h.nlen
  have hlb := h'.nlen
  have hsa := sortU_len a
  have hsb := sortU_len b
  obtain ⟨R, hR⟩ : ∃ R, mergeF (fun p q => p && q) (sortU a) (sortU b) = R := ⟨_, rfl⟩
  have hRl := mergeF_len (fun p q => p && q) (sortU a) (sortU b)
  rw [hR] at hRl
  have hRb : R.length ≤ 200000 := by omega
  have HR := hide hR
  have H := hide h
  have H' := hide h'
  rw [hR]
  clear h h' hR hRl
  go_enter Try.func32, Try.ntmps32
  go_wp2_with fail
  with_reducible refine (set37 A n c a _ H.out (by omega)).mono ?_
  rintro e w1 hg1
  obtain ⟨A1, m1, c1, rfl, hm1, hs1, hb1⟩ := hg1.sl
  have S1 := hide hs1
  have B1 := hide hb1
  clear hg1 hs1 hb1 hm1
  go_wp2_with fail
  with_reducible refine (set37 A' n' c' b _ (H'.out.below B1.out) (by omega)).mono ?_
  rintro e W0 hg2
  obtain ⟨A2, m2, c2, rfl, hm2, hs2, hb2⟩ := hg2.sl
  have S1' := hide (S1.out.below hb2)
  have S2' := hide hs2
  have B2 := hide (B1.out.trans (hb2.mono B1.out.size))
  clear hg2 hs2 hb2 S1 B1
  clear hm2
  go_wp2
  go_loopw [0, 1, 7] (fun x y v wr => ∃ (A1 : Option Addr) (n1 c1 : Nat) (la : List Int) (A2 : Option Addr) (n2 c2 : Nat) (lb out : List Int), x = .slice A1 n1 c1 ∧ y = .slice A2 n2 c2 ∧ Sl W0 A1 n1 c1 (numCells la) ∧ Sl W0 A2 n2 c2 (numCells lb) ∧ Own wr W0.heap.size 3 v (numCells out) ∧ Below W0.heap.size W0 wr ∧ out ++ mergeF (fun p q => p && q) la lb = R) (fun x y _ _ => slen x + slen y)
  case atStart => exact ⟨A1, m1, c1, sortU a, A2, m2, c2, sortU b, [], rfl, rfl, S1'.out, S2'.out, World.ownsRow_nil _ _ _ _, Below.refl _ _, HR.out⟩
  case round =>
    clear S1' S2' H H' HR
    obtain ⟨A1, n1, c1, la, A2, n2, c2, lb, out, rfl, rfl, hs1, hs2, hown, hbel, hres⟩ := hrel
    obtain ⟨w2, hw2⟩ : ∃ w2, w2 = wr := ⟨wr, rfl⟩
    subst hw2
    have hsz := hbel.size
    have hol : out.length ≤ R.length := by rw [← hres, List.length_append]; omega
    have hnl := num_len out
    have hn1c := hs1.1
    have hc1 := hs1.2.1
    have hn2c := hs2.1
    have hc2 := hs2.2.1
    have hl1 := hs1.nlen
    have hl2 := hs2.nlen
    have S1 := hide hs1
    have S2 := hide hs2
    have Hown := hide hown
    have B := hide hbel
    have Hres := hide hres
    clear hs1 hs2 hown hbel hres
    have hcase := merge_cases (fun p q => p && q) la lb
    rcases hcase with ⟨ha, hb⟩ | ⟨x, la1, hx, ho, hm⟩ | ⟨y, lb1, hy, ho, hm⟩ | ⟨x, la1, lb1, hx, hy, ho, hm⟩
    · subst ha hb
      obtain rfl : n1 = 0 := by simpa using hl1.symm
      obtain rfl : n2 = 0 := by simpa using hl2.symm
      have hr2 : out = R := by rw [← Hres.out]; simp [mergeF]
      have Hr2 := hide hr2
      clear hr2 hl1 hl2
      go_wp2
      go_ret
      exact ⟨_, rfl, by rw [← Hr2.out]; exact Own.mono Hown.out B2.out.size, B2.out.trans (B.out.mono B2.out.size)⟩
    · have h1pos : 0 < n1 := by rw [← hl1, hx]; simp
      have k1 : (0 : Int) < (n1 : Int) := by omega
      have d1 : decide (0 < n1) = true := decide_eq_true h1pos
      obtain ⟨ad, z1, rfl, hz1', cx⟩ := num_cell (S1.out.below B.out).reads h1pos
      obtain rfl : z1 = x := by rw [hx] at hz1'; simpa using hz1'.symm
      have cx' : w2.cell? ad = some (.int .i64 z1) := cx
      have e1 : (n1 : Int) - 1 = ((n1 - 1 : Nat) : Int) := by omega
      have hk : (fun p q => p && q) true false = false := rfl
      by_cases hc1e : c1 = 1
      · skip
        have T1 := hide (S1.out.tail1 hx h1pos hc1e)
        have Hn := hide (merge_no _ la lb _ out R z1 _ hm hk Hres.out)
        have Ho := hide ho
        have Hk := hide hk
        clear hm hk ho hx hz1' hl1 hl2
        subst hc1e
        obtain rfl : n1 = 1 := by omega
        go_wp2_with fail
        with_reducible refine (first51 (some ad) A2 1 1 n2 c2 la lb _ (S1.out.below B.out) (S2.out.below B.out)).mono ?_
        rintro e w3 ⟨rfl, hd⟩
        rw [Ho.out]
        have Hd := hide hd
        have hb3 := B.out.trans (hd.below _)
        have hsz3 := hb3.size
        have B3 := hide hb3
        have cx3 : w3.cell? ad = some (.int .i64 z1) := by rw [hd.cell]; exact cx'
        have O3 := hide (Own.below Hown.out (hd.below _))
        clear hd hb3
        have D3 : ∀ k, Own (w3.drewN k) W0.heap.size 3 u7 (numCells out) := fun k => Own.below O3.out (Drawn.below ⟨k, rfl⟩ _)
        have E3 : ∀ k, Below W0.heap.size W0 (w3.drewN k) := fun k => B3.out.trans (Drawn.below ⟨k, rfl⟩ _)
        have HD3 := hide D3
        have HE3 := hide E3
        clear D3 E3
        go_wp2
        go_quiet (fail)
        go_wp2
        go_roundw
        case rel => exact ⟨_, _, _, la1, _, _, _, lb, out, rfl, rfl, T1.out, S2.out, HD3.out _, HE3.out _, Hn.out⟩
        case measure => first | (simp [slen]; done) | (simp [slen]; omega)
      · skip
        have T1 := hide (S1.out.tail2 hx h1pos hc1e)
        have Hn := hide (merge_no _ la lb _ out R z1 _ hm hk Hres.out)
        have Ho := hide ho
        have Hk := hide hk
        clear hm hk ho hx hz1' hl1 hl2
        go_wp2_with fail
        with_reducible refine (first51 (some ad) A2 n1 c1 n2 c2 la lb _ (S1.out.below B.out) (S2.out.below B.out)).mono ?_
        rintro e w3 ⟨rfl, hd⟩
        rw [Ho.out]
        have Hd := hide hd
        have hb3 := B.out.trans (hd.below _)
        have hsz3 := hb3.size
        have B3 := hide hb3
        have cx3 : w3.cell? ad = some (.int .i64 z1) := by rw [hd.cell]; exact cx'
        have O3 := hide (Own.below Hown.out (hd.below _))
        clear hd hb3
        have D3 : ∀ k, Own (w3.drewN k) W0.heap.size 3 u7 (numCells out) := fun k => Own.below O3.out (Drawn.below ⟨k, rfl⟩ _)
        have E3 : ∀ k, Below W0.heap.size W0 (w3.drewN k) := fun k => B3.out.trans (Drawn.below ⟨k, rfl⟩ _)
        have HD3 := hide D3
        have HE3 := hide E3
        clear D3 E3
        go_wp2
        go_quiet (fail)
        go_wp2
        go_roundw
        case rel => exact ⟨_, _, _, la1, _, _, _, lb, out, rfl, rfl, T1.out, S2.out, HD3.out _, HE3.out _, Hn.out⟩
        case measure => first | (simp [slen]; done) | (simp [slen]; omega)
    · have h2pos : 0 < n2 := by rw [← hl2, hy]; simp
      have k2 : (0 : Int) < (n2 : Int) := by omega
      have d2 : decide (0 < n2) = true := decide_eq_true h2pos
      obtain ⟨bd, z2, rfl, hz2', cy⟩ := num_cell (S2.out.below B.out).reads h2pos
      obtain rfl : z2 = y := by rw [hy] at hz2'; simpa using hz2'.symm
      have cy' : w2.cell? bd = some (.int .i64 z2) := cy
      have hk : (fun p q => p && q) false true = false := rfl
      by_cases h1z : n1 = 0
      · by_cases hc2e : c2 = 1
        · skip
          have T2 := hide (S2.out.tail1 hy h2pos hc2e)
          have Hn := hide (merge_no _ la lb _ out R z2 _ hm hk Hres.out)
          have Ho := hide ho
          have Hk := hide hk
          clear hm hk ho hy hz2' hl1 hl2
          subst hc2e
          obtain rfl : n2 = 1 := by omega
          obtain rfl : n1 = 0 := by omega
          go_wp2_with fail
          with_reducible refine (first51 A1 (some bd) 0 c1 1 1 la lb _ (S1.out.below B.out) (S2.out.below B.out)).mono ?_
          rintro e w3 ⟨rfl, hd⟩
          rw [Ho.out]
          have Hd := hide hd
          have hb3 := B.out.trans (hd.below _)
          have hsz3 := hb3.size
          have B3 := hide hb3
          have cy3 : w3.cell? bd = some (.int .i64 z2) := by rw [hd.cell]; exact cy'
          have O3 := hide (Own.below Hown.out (hd.below _))
          clear hd hb3
          have D3 : ∀ k, Own (w3.drewN k) W0.heap.size 3 u7 (numCells out) := fun k => Own.below O3.out (Drawn.below ⟨k, rfl⟩ _)
          have E3 : ∀ k, Below W0.heap.size W0 (w3.drewN k) := fun k => B3.out.trans (Drawn.below ⟨k, rfl⟩ _)
          have HD3 := hide D3
          have HE3 := hide E3
          clear D3 E3
          go_wp2
          go_quiet (fail)
          go_wp2
          go_roundw
          case rel => exact ⟨_, _, _, la, _, _, _, lb1, out, rfl, rfl, S1.out, T2.out, HD3.out _, HE3.out _, Hn.out⟩
          case measure => first | (simp [slen]; done) | (simp [slen]; omega)
        · skip
          have T2 := hide (S2.out.tail2 hy h2pos hc2e)
          have Hn := hide (merge_no _ la lb _ out R z2 _ hm hk Hres.out)
          have Ho := hide ho
          have Hk := hide hk
          clear hm hk ho hy hz2' hl1 hl2
          obtain rfl : n1 = 0 := by omega
          go_wp2_with fail
          with_reducible refine (first51 A1 (some bd) 0 c1 n2 c2 la lb _ (S1.out.below B.out) (S2.out.below B.out)).mono ?_
          rintro e w3 ⟨rfl, hd⟩
          rw [Ho.out]
          have Hd := hide hd
          have hb3 := B.out.trans (hd.below _)
          have hsz3 := hb3.size
          have B3 := hide hb3
          have cy3 : w3.cell? bd = some (.int .i64 z2) := by rw [hd.cell]; exact cy'
          have O3 := hide (Own.below Hown.out (hd.below _))
          clear hd hb3
          have D3 : ∀ k, Own (w3.drewN k) W0.heap.size 3 u7 (numCells out) := fun k => Own.below O3.out (Drawn.below ⟨k, rfl⟩ _)
          have E3 : ∀ k, Below W0.heap.size W0 (w3.drewN k) := fun k => B3.out.trans (Drawn.below ⟨k, rfl⟩ _)
          have HD3 := hide D3
          have HE3 := hide E3
          clear D3 E3
          go_wp2
          go_quiet (fail)
          go_wp2
          go_roundw
          case rel => exact ⟨_, _, _, la, _, _, _, lb1, out, rfl, rfl, S1.out, T2.out, HD3.out _, HE3.out _, Hn.out⟩
          case measure => first | (simp [slen]; done) | (simp [slen]; omega)
      · have d1 : decide (0 < n1) = true := decide_eq_true (by omega)
        have k1 : (0 : Int) < (n1 : Int) := by omega
        by_cases hc2e : c2 = 1
        · skip
          have T2 := hide (S2.out.tail1 hy h2pos hc2e)
          have Hn := hide (merge_no _ la lb _ out R z2 _ hm hk Hres.out)
          have Ho := hide ho
          have Hk := hide hk
          clear hm hk ho hy hz2' hl1 hl2
          subst hc2e
          obtain rfl : n2 = 1 := by omega
          go_wp2_with fail
          with_reducible refine (first51 A1 (some bd) n1 c1 1 1 la lb _ (S1.out.below B.out) (S2.out.below B.out)).mono ?_
          rintro e w3 ⟨rfl, hd⟩
          rw [Ho.out]
          have Hd := hide hd
          have hb3 := B.out.trans (hd.below _)
          have hsz3 := hb3.size
          have B3 := hide hb3
          have cy3 : w3.cell? bd = some (.int .i64 z2) := by rw [hd.cell]; exact cy'
          have O3 := hide (Own.below Hown.out (hd.below _))
          clear hd hb3
          have D3 : ∀ k, Own (w3.drewN k) W0.heap.size 3 u7 (numCells out) := fun k => Own.below O3.out (Drawn.below ⟨k, rfl⟩ _)
          have E3 : ∀ k, Below W0.heap.size W0 (w3.drewN k) := fun k => B3.out.trans (Drawn.below ⟨k, rfl⟩ _)
          have HD3 := hide D3
          have HE3 := hide E3
          clear D3 E3
          go_wp2
          go_quiet (fail)
          go_wp2
          go_roundw
          case rel => exact ⟨_, _, _, la, _, _, _, lb1, out, rfl, rfl, S1.out, T2.out, HD3.out _, HE3.out _, Hn.out⟩
          case measure => first | (simp [slen]; done) | (simp [slen]; omega)
        · skip
          have T2 := hide (S2.out.tail2 hy h2pos hc2e)
          have Hn := hide (merge_no _ la lb _ out R z2 _ hm hk Hres.out)
          have Ho := hide ho
          have Hk := hide hk
          clear hm hk ho hy hz2' hl1 hl2
          go_wp2_with fail
          with_reducible refine (first51 A1 (some bd) n1 c1 n2 c2 la lb _ (S1.out.below B.out) (S2.out.below B.out)).mono ?_
          rintro e w3 ⟨rfl, hd⟩
          rw [Ho.out]
          have Hd := hide hd
          have hb3 := B.out.trans (hd.below _)
          have hsz3 := hb3.size
          have B3 := hide hb3
          have cy3 : w3.cell? bd = some (.int .i64 z2) := by rw [hd.cell]; exact cy'
          have O3 := hide (Own.below Hown.out (hd.below _))
          clear hd hb3
          have D3 : ∀ k, Own (w3.drewN k) W0.heap.size 3 u7 (numCells out) := fun k => Own.below O3.out (Drawn.below ⟨k, rfl⟩ _)
          have E3 : ∀ k, Below W0.heap.size W0 (w3.drewN k) := fun k => B3.out.trans (Drawn.below ⟨k, rfl⟩ _)
          have HD3 := hide D3
          have HE3 := hide E3
          clear D3 E3
          go_wp2
          go_quiet (fail)
          go_wp2
          go_roundw
          case rel => exact ⟨_, _, _, la, _, _, _, lb1, out, rfl, rfl, S1.out, T2.out, HD3.out _, HE3.out _, Hn.out⟩
          case measure => first | (simp [slen]; done) | (simp [slen]; omega)
    · have h1pos : 0 < n1 := by rw [← hl1, hx]; simp
      have k1 : (0 : Int) < (n1 : Int) := by omega
      have d1 : decide (0 < n1) = true := decide_eq_true h1pos
      obtain ⟨ad, z1, rfl, hz1', cx⟩ := num_cell (S1.out.below B.out).reads h1pos
      obtain rfl : z1 = x := by rw [hx] at hz1'; simpa using hz1'.symm
      have cx' : w2.cell? ad = some (.int .i64 z1) := cx
      have e1 : (n1 : Int) - 1 = ((n1 - 1 : Nat) : Int) := by omega
      have h2pos : 0 < n2 := by rw [← hl2, hy]; simp
      have k2 : (0 : Int) < (n2 : Int) := by omega
      have d2 : decide (0 < n2) = true := decide_eq_true h2pos
      obtain ⟨bd, z2, rfl, hz2', cy⟩ := num_cell (S2.out.below B.out).reads h2pos
      obtain rfl : z1 = z2 := by rw [hy] at hz2'; simpa using hz2'
      have cy' : w2.cell? bd = some (.int .i64 z1) := cy
      have hk : (fun p q => p && q) true true = true := rfl
      by_cases hc1e : c1 = 1
      · by_cases hc2e : c2 = 1
        · skip
          have T1 := hide (S1.out.tail1 hx h1pos hc1e)
          have T2 := hide (S2.out.tail1 hy h2pos hc2e)
          have Hn := hide (merge_yes _ la lb _ out R z1 _ hm hk Hres.out)
          have Ho := hide ho
          have Hk := hide hk
          clear hm hk ho hx hz1' hy hz2' hl1 hl2
          subst hc1e
          obtain rfl : n1 = 1 := by omega
          subst hc2e
          obtain rfl : n2 = 1 := by omega
          go_wp2_with fail
          with_reducible refine (first51 (some ad) (some bd) 1 1 1 1 la lb _ (S1.out.below B.out) (S2.out.below B.out)).mono ?_
          rintro e w3 ⟨rfl, hd⟩
          rw [Ho.out]
          have Hd := hide hd
          have hb3 := B.out.trans (hd.below _)
          have hsz3 := hb3.size
          have B3 := hide hb3
          have cx3 : w3.cell? ad = some (.int .i64 z1) := by rw [hd.cell]; exact cx'
          have cy3 : w3.cell? bd = some (.int .i64 z1) := by rw [hd.cell]; exact cy'
          have O3 := hide (Own.below Hown.out (hd.below _))
          clear hd hb3
          have D3 : ∀ k, Own (w3.drewN k) W0.heap.size 3 u7 (numCells out) := fun k => Own.below O3.out (Drawn.below ⟨k, rfl⟩ _)
          have E3 : ∀ k, Below W0.heap.size W0 (w3.drewN k) := fun k => B3.out.trans (Drawn.below ⟨k, rfl⟩ _)
          have HD3 := hide D3
          have HE3 := hide E3
          clear D3 E3
          go_wp2
          go_quiet (fail)
          go_wp2
          go_quiet (fail)
          go_wp2_with (first | (at_builtin; refine wp_push rfl (.tmp 47) (.tmp 49) 22 rfl 3 i0 (.int .i64 0) 8 Try.underlying22 hi hz0 hz1 hz2 rfl W0.heap.size _ (numCells out) rfl _ _ rfl (HD3.out _).src (HE3.out _).size _ rfl rfl (by omega) (by unfold maxLen; omega) ?_) | go_in)
          intro v' w4 ho4 hb4
          rw [show numCells out ++ [Value.int .i64 z1] = numCells (out ++ [z1]) by rw [num_app]; rfl] at ho4
          have O4 := hide ho4
          have B4 := hide ((HE3.out _).trans hb4)
          clear ho4 hb4
          go_wp2
          go_roundw
          case rel => exact ⟨_, _, _, la1, _, _, _, lb1, out ++ [z1], rfl, rfl, T1.out, T2.out, O4.out, B4.out, Hn.out⟩
          case measure => first | (simp [slen]; done) | (simp [slen]; omega)
        · skip
          have T1 := hide (S1.out.tail1 hx h1pos hc1e)
          have T2 := hide (S2.out.tail2 hy h2pos hc2e)
          have Hn := hide (merge_yes _ la lb _ out R z1 _ hm hk Hres.out)
          have Ho := hide ho
          have Hk := hide hk
          clear hm hk ho hx hz1' hy hz2' hl1 hl2
          subst hc1e
          obtain rfl : n1 = 1 := by omega
          go_wp2_with fail
          with_reducible refine (first51 (some ad) (some bd) 1 1 n2 c2 la lb _ (S1.out.below B.out) (S2.out.below B.out)).mono ?_
          rintro e w3 ⟨rfl, hd⟩
          rw [Ho.out]
          have Hd := hide hd
          have hb3 := B.out.trans (hd.below _)
          have hsz3 := hb3.size
          have B3 := hide hb3
          have cx3 : w3.cell? ad = some (.int .i64 z1) := by rw [hd.cell]; exact cx'
          have cy3 : w3.cell? bd = some (.int .i64 z1) := by rw [hd.cell]; exact cy'
          have O3 := hide (Own.below Hown.out (hd.below _))
          clear hd hb3
          have D3 : ∀ k, Own (w3.drewN k) W0.heap.size 3 u7 (numCells out) := fun k => Own.below O3.out (Drawn.below ⟨k, rfl⟩ _)
          have E3 : ∀ k, Below W0.heap.size W0 (w3.drewN k) := fun k => B3.out.trans (Drawn.below ⟨k, rfl⟩ _)
          have HD3 := hide D3
          have HE3 := hide E3
          clear D3 E3
          go_wp2
          go_quiet (fail)
          go_wp2
          go_quiet (fail)
          go_wp2_with (first | (at_builtin; refine wp_push rfl (.tmp 47) (.tmp 49) 22 rfl 3 i0 (.int .i64 0) 8 Try.underlying22 hi hz0 hz1 hz2 rfl W0.heap.size _ (numCells out) rfl _ _ rfl (HD3.out _).src (HE3.out _).size _ rfl rfl (by omega) (by unfold maxLen; omega) ?_) | go_in)
          intro v' w4 ho4 hb4
          rw [show numCells out ++ [Value.int .i64 z1] = numCells (out ++ [z1]) by rw [num_app]; rfl] at ho4
          have O4 := hide ho4
          have B4 := hide ((HE3.out _).trans hb4)
          clear ho4 hb4
          go_wp2
          go_roundw
          case rel => exact ⟨_, _, _, la1, _, _, _, lb1, out ++ [z1], rfl, rfl, T1.out, T2.out, O4.out, B4.out, Hn.out⟩
          case measure => first | (simp [slen]; done) | (simp [slen]; omega)
      · by_cases hc2e : c2 = 1
        · skip
          have T1 := hide (S1.out.tail2 hx h1pos hc1e)
          have T2 := hide (S2.out.tail1 hy h2pos hc2e)
          have Hn := hide (merge_yes _ la lb _ out R z1 _ hm hk Hres.out)
          have Ho := hide ho
          have Hk := hide hk
          clear hm hk ho hx hz1' hy hz2' hl1 hl2
          subst hc2e
          obtain rfl : n2 = 1 := by omega
          go_wp2_with fail
          with_reducible refine (first51 (some ad) (some bd) n1 c1 1 1 la lb _ (S1.out.below B.out) (S2.out.below B.out)).mono ?_
          rintro e w3 ⟨rfl, hd⟩
          rw [Ho.out]
          have Hd := hide hd
          have hb3 := B.out.trans (hd.below _)
          have hsz3 := hb3.size
          have B3 := hide hb3
          have cx3 : w3.cell? ad = some (.int .i64 z1) := by rw [hd.cell]; exact cx'
          have cy3 : w3.cell? bd = some (.int .i64 z1) := by rw [hd.cell]; exact cy'
          have O3 := hide (Own.below Hown.out (hd.below _))
          clear hd hb3
          have D3 : ∀ k, Own (w3.drewN k) W0.heap.size 3 u7 (numCells out) := fun k => Own.below O3.out (Drawn.below ⟨k, rfl⟩ _)
          have E3 : ∀ k, Below W0.heap.size W0 (w3.drewN k) := fun k => B3.out.trans (Drawn.below ⟨k, rfl⟩ _)
          have HD3 := hide D3
          have HE3 := hide E3
          clear D3 E3
          go_wp2
          go_quiet (fail)
          go_wp2
          go_quiet (fail)
          go_wp2_with (first | (at_builtin; refine wp_push rfl (.tmp 47) (.tmp 49) 22 rfl 3 i0 (.int .i64 0) 8 Try.underlying22 hi hz0 hz1 hz2 rfl W0.heap.size _ (numCells out) rfl _ _ rfl (HD3.out _).src (HE3.out _).size _ rfl rfl (by omega) (by unfold maxLen; omega) ?_) | go_in)
          intro v' w4 ho4 hb4
          rw [show numCells out ++ [Value.int .i64 z1] = numCells (out ++ [z1]) by rw [num_app]; rfl] at ho4
          have O4 := hide ho4
          have B4 := hide ((HE3.out _).trans hb4)
          clear ho4 hb4
          go_wp2
          go_roundw
          case rel => exact ⟨_, _, _, la1, _, _, _, lb1, out ++ [z1], rfl, rfl, T1.out, T2.out, O4.out, B4.out, Hn.out⟩
          case measure => first | (simp [slen]; done) | (simp [slen]; omega)
        · skip
          have T1 := hide (S1.out.tail2 hx h1pos hc1e)
          have T2 := hide (S2.out.tail2 hy h2pos hc2e)
          have Hn := hide (merge_yes _ la lb _ out R z1 _ hm hk Hres.out)
          have Ho := hide ho
          have Hk := hide hk
          clear hm hk ho hx hz1' hy hz2' hl1 hl2
          go_wp2_with fail
          with_reducible refine (first51 (some ad) (some bd) n1 c1 n2 c2 la lb _ (S1.out.below B.out) (S2.out.below B.out)).mono ?_
          rintro e w3 ⟨rfl, hd⟩
          rw [Ho.out]
          have Hd := hide hd
          have hb3 := B.out.trans (hd.below _)
          have hsz3 := hb3.size
          have B3 := hide hb3
          have cx3 : w3.cell? ad = some (.int .i64 z1) := by rw [hd.cell]; exact cx'
          have cy3 : w3.cell? bd = some (.int .i64 z1) := by rw [hd.cell]; exact cy'
          have O3 := hide (Own.below Hown.out (hd.below _))
          clear hd hb3
          have D3 : ∀ k, Own (w3.drewN k) W0.heap.size 3 u7 (numCells out) := fun k => Own.below O3.out (Drawn.below ⟨k, rfl⟩ _)
          have E3 : ∀ k, Below W0.heap.size W0 (w3.drewN k) := fun k => B3.out.trans (Drawn.below ⟨k, rfl⟩ _)
          have HD3 := hide D3
          have HE3 := hide E3
          clear D3 E3
          go_wp2
          go_quiet (fail)
          go_wp2
          go_quiet (fail)
          go_wp2_with (first | (at_builtin; refine wp_push rfl (.tmp 47) (.tmp 49) 22 rfl 3 i0 (.int .i64 0) 8 Try.underlying22 hi hz0 hz1 hz2 rfl W0.heap.size _ (numCells out) rfl _ _ rfl (HD3.out _).src (HE3.out _).size _ rfl rfl (by omega) (by unfold maxLen; omega) ?_) | go_in)
          intro v' w4 ho4 hb4
          rw [show numCells out ++ [Value.int .i64 z1] = numCells (out ++ [z1]) by rw [num_app]; rfl] at ho4
          have O4 := hide ho4
          have B4 := hide ((HE3.out _).trans hb4)
          clear ho4 hb4
          go_wp2
          go_roundw
          case rel => exact ⟨_, _, _, la1, _, _, _, lb1, out ++ [z1], rfl, rfl, T1.out, T2.out, O4.out, B4.out, Hn.out⟩
          case measure => first | (simp [slen]; done) | (simp [slen]; omega)

end Go.Proofs.Ytfljmnjcoagbmaa
