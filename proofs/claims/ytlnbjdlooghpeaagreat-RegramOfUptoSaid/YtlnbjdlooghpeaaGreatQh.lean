/- Layer 10: walk of the reference: ofStrings. -/
import Derived.Test.YtlnbjdlooghpeaaGreatQg
namespace Go.Proofs.YtlnbjdlooghpeaaGreat
open Go.RowKit

theorem extract_list (s : ByteArray) (a b : Nat) : (s.extract a b).data.toList = (s.data.toList.drop a).take (b - a) := by
  rw [ByteArray.data_extract, Array.toList_extract, List.extract_eq_take_drop]
theorem tri_extract (s : List UInt8) (k : Nat) : tri ((bsx s).extract k (k + 3)).data.toList 0 = tri s k := by
  rw [extract_list, bsx_list, show k + 3 - k = 3 by omega]
  have key : ∀ m, m < 3 → fat ((s.drop k).take 3) m = fat s (k + m) := fun m hm => by
    unfold fat List.getD
    rw [List.getElem?_take_of_lt hm, List.getElem?_drop]
  unfold tri
  rw [key 0 (by omega), key (0 + 1) (by omega), key (0 + 2) (by omega), Nat.add_zero, Nat.zero_add, Nat.zero_add]
theorem tris_get {s : List UInt8} {k : Nat} (h : k + 3 ≤ s.length) : (tris s)[k]? = some (tri s k) := by
  unfold tris
  rw [List.getElem?_map, List.getElem?_range (by omega)]
  rfl
def leafN (c : Int) : Nd := .mk 3 c []
theorem andN_leaf (s : List UInt8) : andN s = .mk 4 0 ((tris s).map leafN) := rfl

set_option maxRecDepth 100000 in
set_option maxHeartbeats 6400000 in
theorem rofStrings {W : World} {A : Option Addr} {n c : Nat} {L : List (List UInt8)} (h : Sl W A n c (strCells L)) (hL : L.length ≤ 1000) (hs : ∀ x ∈ L, x.length ≤ 1000) :
    Calls Tryz.prog 42 #[.slice A n c] W (GotN W (ofStr L)) := by
  obtain ⟨i0, hi0, hz0, hz1, hz2⟩ := info_parts infoN
  have hnc := h.1
  have hcc := h.2.1
  have hnl := h.nstr
  have Hnl := hide hnl
  have hn5 : n ≤ 1000 := by omega
  have SL := hide h
  have Hs := hide hs
  clear h hnl hs
  go_enter Tryz.func42, Tryz.ntmps42
  go_wp2
  obtain ⟨h0, hh0⟩ : ∃ h0, W.heap.size = h0 := ⟨_, rfl⟩
  have hf1 := triF_new (W.alloc (.cells #[.int .i64 0, .int .i64 0, .slice none 0 0] 31)) (.int .i64 5) (.int .i64 0) (.slice none 0 0) 31
  have hf0 := (triF_new W (.int .i64 0) (.int .i64 0) (.slice none 0 0) 31).keep (bel_alloc _ (.cells #[.int .i64 5, .int .i64 0, .slice none 0 0] 31))
  have hbb := bnew (bel_alloc W (.cells #[.int .i64 0, .int .i64 0, .slice none 0 0] 31)) (.cells #[.int .i64 5, .int .i64 0, .slice none 0 0] 31)
  have hsz1 : (W.alloc (.cells #[.int .i64 0, .int .i64 0, .slice none 0 0] 31)).heap.size = h0 + 1 := by simp [hh0]
  have hsz2 : ((W.alloc (.cells #[.int .i64 0, .int .i64 0, .slice none 0 0] 31)).alloc (.cells #[.int .i64 5, .int .i64 0, .slice none 0 0] 31)).heap.size = h0 + 2 := by simp [hh0]
  rw [hsz1] at hf1
  rw [hh0] at hf0
  obtain ⟨w1, hw1⟩ : ∃ w1, (W.alloc (.cells #[.int .i64 0, .int .i64 0, .slice none 0 0] 31)).alloc (.cells #[.int .i64 5, .int .i64 0, .slice none 0 0] 31) = w1 := ⟨_, rfl⟩
  rw [hw1] at hf1 hf0 hbb hsz2 ⊢
  rw [hh0]
  have F0 := hide hf0
  have F1 := hide hf1
  have BB := hide hbb
  have Hh0 := hide hh0
  have Hz2 := hide hsz2
  clear hw1 hf0 hf1 hbb hsz1 hsz2 hh0
  go_loopw [4, 5, 6, 7, 8] (fun x _ _ _ _ wr => ∃ i : Nat, i ≤ n ∧ x = .int .i64 (i : Int) ∧ (∃ vo, TriF wr (h0 + 1) (.int .i64 5) (.int .i64 0) vo ∧ OwnN wr (h0 + 2) (fun g => h0 + 2 ≤ g) vo ((L.take i).map andN)) ∧ Below (h0 + 1) w1 wr) (fun x _ _ _ _ _ => n - (intOf x).toNat)
  case atStart => exact ⟨0, Nat.zero_le _, rfl, ⟨_, F1.out, by rw [List.take_zero]; exact OwnN.nil _ _ _⟩, Below.refl _ _⟩
  case round =>
    obtain ⟨i, hi, rfl, ⟨vo, hfo, hown⟩, hbel⟩ := hrel
    obtain ⟨x2, hx2⟩ : ∃ x2, x2 = wr := ⟨wr, rfl⟩
    subst hx2
    have B2 := hide hbel
    have FO := hide hfo
    have HO := hide hown
    have hsb := hbel.size
    rw [Hz2.out] at hsb
    have hBW : Below W.heap.size W x2 := BB.out.trans (hbel.mono (by rw [Hh0.out]; omega))
    have SL2 := hide (SL.out.below hBW)
    have BW := hide hBW
    clear hfo hown hbel hBW
    have hib : (i : Int) ≤ 1000 := by omega
    by_cases hlt : i < n
    · have hlt' : (i : Int) < (n : Int) := by omega
      obtain ⟨ad, s, hA, hsi, hcs⟩ := str_cell SL2.out.reads hlt
      subst hA
      have hsl := Hs.out s (List.mem_of_getElem? hsi)
      have hsz : (bsx s).size = s.length := bsx_size s
      have Hsi := hide hsi
      have hf5 := triF_new x2 (.int .i64 4) (.int .i64 0) (.slice none 0 0) 31
      have hbx := bel_alloc x2 (.cells #[.int .i64 4, .int .i64 0, .slice none 0 0] 31)
      have F5 := hide hf5
      have BX5 := hide hbx
      have hb52 : h0 + 2 ≤ x2.heap.size := by omega
      clear hsi hf5 hbx
      go_wp2
      go_loopw [6, 7, 8] (fun x _ _ wr => ∃ k : Nat, k ≤ (tris s).length ∧ x = .int .i64 (k : Int) ∧ (∃ va, TriF wr x2.heap.size (.int .i64 4) (.int .i64 0) va ∧ OwnN wr (x2.heap.size + 1) (fun _ => False) va (((tris s).take k).map leafN)) ∧ Below x2.heap.size x2 wr) (fun x _ _ _ => (tris s).length - (intOf x).toNat)
      case atStart => exact ⟨0, Nat.zero_le _, rfl, ⟨_, F5.out, by rw [List.take_zero]; exact OwnN.nil _ _ _⟩, BX5.out⟩
      case round =>
        obtain ⟨k, hk, rfl, ⟨va, hfa, hown⟩, hbel⟩ := hrel
        obtain ⟨x3, hx3⟩ : ∃ x3, x3 = wr := ⟨wr, rfl⟩
        subst hx3
        have B3 := hide hbel
        have FA := hide hfa
        have HA := hide hown
        have BW3 := hide (show Below W.heap.size W x3 from BW.out.trans (hbel.mono (by rw [Hh0.out]; omega)))
        obtain ⟨ad', s', hA', hsi', hcs3⟩ := str_cell (SL.out.below BW3.out).reads hlt
        cases hA'
        obtain rfl : s' = s := Option.some.inj (hsi'.symm.trans Hsi.out)
        rw [tris_len] at hk
        have hkb : (k : Int) ≤ 1000 := by omega
        have hsb3 := hfa.1.1
        clear hfa hown hbel hsi'
        by_cases hk3 : k + 3 ≤ s'.length
        · have hk3' : (k : Int) + 3 ≤ (s'.length : Int) := by omega
          have hk3n : k + 3 ≤ (bsx s').size := by omega
          have hk3i : (k : Int) + 3 ≤ ((bsx s').size : Int) := by omega
          obtain ⟨m, hm⟩ : ∃ m, tri s' k = m := ⟨_, rfl⟩
          have hmr := tri_lt s' k
          rw [hm] at hmr
          have Hnx := hide (show ((tris s').take (k + 1)).map leafN = ((tris s').map leafN).take k ++ [leafN m] by rw [takeN (tris_get hk3), List.map_append, hm, List.map_take]; rfl)
          have HC := hide (fun (X : World) => rcode6 ((bsx s').extract k (k + 3)) X (by rw [ByteArray.size_extract]; omega) m (by rw [tri_extract s' k, hm]))
          have hlen : ((tris s').take k).length ≤ 1000 := by rw [List.length_take]; omega
          clear hm
          have F3 := FA.out
          obtain ⟨⟨-, s0, s1, s2⟩, f0, f1, f2⟩ := F3
          go_wp2_with fail
          with_reducible refine (HC.out x3).mono ?_
          rintro e x4 ⟨rfl, hd⟩
          have hbd : Below x3.heap.size x3 x4 := hd.below _
          have FA4 := hide (FA.out.keep hbd)
          have HA4 := hide (HA.out.below hbd)
          have B4 := hide (B3.out.trans (hbd.mono (by omega)))
          have hs4 := FA4.out.1.1
          obtain ⟨⟨-, s0, s1, s2⟩, f0, f1, f2⟩ := FA4.out
          clear hd hbd HC
          go_wp2_with (at_builtin; refine wp_push_nd rfl (.tmp 41) (.tmp 44) 29 rfl i0 _ 40 Tryz.underlying29 hi0 hz0 hz1 hz2 rfl (x2.heap.size + 1) (fun _ => False) _ _ rfl _ _ _ _ (leafN m) HA4.out (by omega) _ rfl rfl (ndv_leaf 3 m (by omega) (by omega)) (by rw [List.length_map]; omega) (by rw [List.length_map]; unfold maxLen; omega) ?_)
          intro v' w5 ho5 hb5' hf5
          obtain ⟨A7, m7, d7, vs7, rfl, -, -, -⟩ := ho5.s
          have F6 := hide (FA4.out.at_ hb5' (by omega))
          have O6 := hide ho5
          have B6 := hide (B4.out.trans (hb5'.mono (Nat.le_succ x2.heap.size)))
          obtain ⟨⟨-, s0, s1, s2⟩, f0, f1, f2⟩ := F6.out
          clear ho5 hb5' hf5
          go_wp2
          go_roundw
          case rel => exact ⟨k + 1, by rw [tris_len]; omega, by go_num, ⟨_, F6.out.set2 _, by rw [Hnx.out]; exact O6.out.setc (Nat.lt_succ_self x2.heap.size) (fun h => h)⟩, B6.out.setCell (p := ⟨x2.heap.size, 2, none⟩) (Nat.le_refl x2.heap.size) _⟩
          case measure => simp [intOf]; rw [tris_len]; omega
        · have hk3' : ¬ (k : Int) + 3 ≤ (s'.length : Int) := by omega
          have hall : (tris s').take k = tris s' := takeA _ (by rw [tris_len]; omega)
          have hA' := HA.out
          rw [hall] at hA'
          have hnd := hA'.nd 4 (by omega)
          rw [← andN_leaf] at hnd
          have hbo : ∀ g, vo.ownBlock = some g → g < x2.heap.size := fun g hg => by exact (HO.out.lt hg).2
          have ND := hide (show NdV x3 (fun g => h0 + 2 ≤ g ∧ vo.ownBlock ≠ some g) (.agg #[.int .i64 4, .int .i64 0, va]) (andN s') from hnd.weak fun g hg => by
            rcases hg with hg | hg
            · exact hg.elim
            · exact ⟨by omega, fun e => by have := hbo g e; omega⟩)
          have FO3 := hide (FO.out.at_ B3.out (by omega))
          have HO3 := hide (show OwnN x3 (h0 + 2) (fun g => h0 + 2 ≤ g) vo ((L.take i).map andN) from HO.out.below B3.out)
          have Hnx := hide (show (L.take (i + 1)).map andN = (L.map andN).take i ++ [andN s'] by rw [takeN Hsi.out, List.map_append, List.map_take]; rfl)
          have hlen : (L.take i).length ≤ 1000 := by rw [List.length_take]; omega
          obtain ⟨⟨-, s0, s1, s2⟩, f0, f1, f2⟩ := FA.out
          obtain ⟨⟨-, y0, y1, y2⟩, e0, e1, e2⟩ := FO3.out
          have hs23 : h0 + 2 ≤ x3.heap.size := by omega
          clear hall hA' hnd hbo hk
          go_wp2_with (at_builtin; refine wp_push_nd rfl (.tmp 48) (.tmp 50) 29 rfl i0 _ 40 Tryz.underlying29 hi0 hz0 hz1 hz2 rfl (h0 + 2) (fun g => h0 + 2 ≤ g) _ _ rfl _ _ _ _ (andN s') HO3.out hs23 _ rfl rfl ND.out (by rw [List.length_map]; omega) (by rw [List.length_map]; unfold maxLen; omega) ?_)
          intro v' w5 ho5 hb5' hf5
          obtain ⟨A7, m7, d7, vs7, rfl, -, -, -⟩ := ho5.s
          have F6 := hide (FO3.out.at_ hb5' (by omega))
          have O6 := hide ho5
          have B6 := hide (show Below (h0 + 1) w1 w5 from (B2.out.trans (B3.out.mono (by omega))).trans (hb5'.mono (Nat.le_succ _)))
          obtain ⟨⟨-, y0, y1, y2⟩, e0, e1, e2⟩ := F6.out
          clear ho5 hb5' hf5 s0 s1 s2 f0 f1 f2
          go_wp2
          go_roundw
          case rel => exact ⟨i + 1, by omega, by go_num, ⟨_, F6.out.set2 _, by rw [Hnx.out]; exact O6.out.setc (Nat.lt_succ_self (h0 + 1)) (by omega)⟩, B6.out.setCell (p := ⟨h0 + 1, 2, none⟩) (Nat.le_refl (h0 + 1)) _⟩
          case measure => simp [intOf]; omega
    · have hlt' : ¬ (i : Int) < (n : Int) := by omega
      have hall : L.take i = L := takeA _ (by rw [Hnl.out]; omega)
      obtain ⟨A7, m7, d7, vs7, rfl, -, -, -⟩ := HO.out.s
      have hO := HO.out
      rw [hall] at hO
      have hnd := hO.nd 5 (by omega)
      have ND := hide (show NdV x2 (fun g => h0 + 2 ≤ g) (.agg #[.int .i64 5, .int .i64 0, .slice A7 m7 d7]) (ofStr L) from hnd.weak fun g hg => by
        rcases hg with hg | hg
        · exact hg
        · exact hg)
      have F2 := hide (F0.out.at_ B2.out (by omega))
      obtain ⟨⟨-, s0, s1, s2⟩, f0, f1, f2⟩ := F2.out
      obtain ⟨⟨-, y0, y1, y2⟩, e0, e1, e2⟩ := FO.out
      clear hall hO hnd
      go_wp2
      exact bodyPost_ret (res_box rfl _ _ h0 _ _ _ rfl (put3_tri F2.out _ _ _)) rfl ⟨_, rfl, put3_ndv ND.out (by omega) (fun g hg => by rw [Hh0.out]; omega), put3_below BW.out (by rw [Hh0.out]; exact Nat.le_refl _)⟩
end Go.Proofs.YtlnbjdlooghpeaaGreat
