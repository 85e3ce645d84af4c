/- TopRegex: Tl. -/
import Derived.Test.YtlnbjdlooghpeaaGreatDoorTTk
import Derived.Deep.RegionLaw
import Derived.Deep.AppendLies
import Derived.Deep.DeepCutAuto
namespace Go.Proofs.YtlnbjdlooghpeaaGreatDoor
open Go.RowKit
theorem row_new (w : World) (e : List UInt8) : (w.alloc (.cells #[.int .i64 (-1)] 3)).ownsRow w.heap.size 3 1 (.slice (some ⟨w.heap.size, 0, none⟩) 1 1) 1 (numCells (bords e 1)) :=
  ⟨rfl, Or.inr ⟨w.heap.size, 1, #[.int .i64 (-1)], rfl, Nat.le_refl _, heap_alloc_new w _, Nat.le_refl _, by unfold maxLen; omega, rfl, rfl⟩⟩
theorem cap_new (w : World) (e : List UInt8) : Cap w.heap.size (w.heap.size + 1) 34 3 1 1 (numCells (bords e 1)) ((w.alloc (.cells #[.int .i64 (-1)] 3)).alloc (.cells #[.slice (some ⟨w.heap.size, 0, none⟩) 1 1] 34)) :=
  ⟨by omega, _, (show _ = _ from by have := heap_alloc_new (w.alloc (.cells #[.int .i64 (-1)] 3)) (.cells #[.slice (some ⟨w.heap.size, 0, none⟩) 1 1] 34); simpa using this), (row_new w e).alloc _⟩
def Strs (w : World) (s t : ByteArray) (f : Bool) (v : Value) (W : World) : Prop :=
  ∃ S T : ByteArray, v = .string S ∧ W.heap[w.heap.size]? = some (.cells #[.string T] 9 (0, 0)) ∧ Below w.heap.size w W ∧ S.size ≤ 50000 ∧ T.size ≤ 50000 ∧ findS f s.data.toList t.data.toList = findS false S.data.toList T.data.toList
def Pk (w : World) (t : ByteArray) (W : World) : Prop := W.heap[w.heap.size]? = some (.cells #[.string t] 9 (0, 0)) ∧ Below w.heap.size w W
theorem Pk.step {w W W' : World} {t : ByteArray} (h : Pk w t W) (hb : Below W.heap.size W W') : Pk w t W' :=
  ⟨(hb.block _ (lt_of_block h.1)).trans h.1, h.2.trans (hb.mono h.2.size)⟩
theorem Pk.cell {w W : World} {t : ByteArray} (h : Pk w t W) : W.cell? ⟨w.heap.size, 0, none⟩ = some (.string t) := cell_of_one h.1
theorem Pk.free {w W : World} {t : ByteArray} (h : Pk w t W) : W.frozen? ⟨w.heap.size, 0, none⟩ = false := free_of_one h.1
set_option maxRecDepth 20000 in
set_option maxHeartbeats 12800000 in
theorem each26 (N : Nat) (caps : Array Value) (St : Nat → World → List Int → Prop) (s t : ByteArray) (f : Bool) (w : World) (hs : s.size ≤ 50000) (ht : t.size ≤ 50000)
    (hcf : ∀ (xs : Array Value) (W : World), (callFunc N xs).run Tryz.prog W = .ok (.enter N xs) W)
    (hst : ∀ W, Below w.heap.size w W → w.heap.size < W.heap.size → St W.heap.size W [])
    (hvis : ∀ X W l (k : Nat) (z : Int), z = (k : Int) → St X W l → l.length ≤ 100001 → k ≤ 100000 → Calls Tryz.prog N (#[.int .i64 z] ++ caps) W fun e W' => e = .returned (.tuple #[]) ∧ St X W' (l ++ [(k : Int)]) ∧ Ag w.heap.size X W W') :
    Calls Tryz.prog 51 #[.string s, .string t, .bool f, .func (.func N) #[] caps] w fun e w' => e = .returned (.tuple #[]) ∧ ∃ X, St X w' (findS f s.data.toList t.data.toList) := by
  obtain ⟨i0, hi, hz0, hz1, hz2⟩ := info_parts infoI
  have Hst := hide hst
  have Hvis := hide hvis
  clear hst hvis
  have hb1 : Below w.heap.size w (w.alloc (.cells #[.string t] 9)) := bnew (Below.refl _ w) _
  have hn1 := heap_alloc_new w (.cells #[.string t] 9)
  have Hb1 := hide hb1
  have Hn1 := hide hn1
  clear hb1 hn1
  obtain ⟨R, hR⟩ : ∃ R, findS f s.data.toList t.data.toList = R := ⟨_, rfl⟩
  rw [hR]
  have HR := hide hR
  clear hR
  go_enter Tryz.func51, Tryz.ntmps51
  go_upto_if 13 with (fail)
  go_cut [0] (fun v wx => Strs w s t f v wx)
  case first =>
    cases f with
    | false =>
      go_wp2
      go_meet
      exact ⟨s, t, rfl, Hn1.out, Hb1.out, hs, ht, rfl⟩
    | true =>
      have p0 : Pk w t (w.alloc (.cells #[.string t] 9)).drew := ⟨Hn1.out, Hb1.out.trans (Drawn.below ⟨1, rfl⟩ _)⟩
      have hsz : w.heap.size + 1 = (w.alloc (.cells #[.string t] 9)).heap.size := by simp
      go_wp2_with fail
      go_region_law ((go_simp; go_at_call 79; refine (fold26 _ _ (by omega)).mono ?_; rintro e w' ⟨rfl, hb⟩; have p' := Pk.step (by assumption) hb; have c' := p'.cell; have f' := p'.free))
      all_goals
        go_wp2
        go_meet
        exact ⟨foldS s, foldS t, rfl, one_setCell p'.1, p'.2.setCell (Nat.le_refl _) _, by rw [foldS_size]; exact hs, by rw [foldS_size]; exact ht, by rw [find_fold]; simp [foldS]⟩
  case rest =>
    obtain ⟨S, T, rfl, hbx, hbel, hS, hT, hfind⟩ := hcut
    have hfr := hfind.symm.trans HR.out
    clear hfind
    have hHc : w.heap.size < wc.heap.size := lt_of_block hbx
    have Hfr := hide hfr
    clear hfr
    have hcw := cell_of_one hbx
    have Hbx := hide hbx
    have Hbel := hide hbel
    have Hnew := hide (cap_new wc T.data.toList)
    clear hbx hbel hs ht Hb1 Hn1
    go_wp2_with fail
    clear hcw
    go_loopw [22] (fun x wr => ∃ k : Nat, k ≤ T.size ∧ x = .int .i64 (k : Int) ∧ Cap wc.heap.size (wc.heap.size + 1) 34 3 1 (k + 1) (numCells (bords T.data.toList (k + 1))) wr ∧ Below wc.heap.size wc wr) (fun x _ => T.size - (intOf x).toNat)
    case atStart => exact ⟨0, Nat.zero_le _, rfl, Hnew.out, bnew (bnew (Below.refl _ _) _) _⟩
    case round =>
      obtain ⟨k, hk, rfl, hcap, hb⟩ := hrel
      obtain ⟨w2, hw2⟩ : ∃ w2, w2 = wr := ⟨wr, rfl⟩
      subst hw2
      have hlit := (hb.block w.heap.size hHc).trans Hbx.out
      obtain ⟨g, cap, hv, ho, hsl, hg1, hg2⟩ := cap_sl hcap (by omega)
      by_cases hlt : k < T.size
      · obtain ⟨Q, hE, hQ⟩ := ext_bord T k hlt
        have hcl := cell_of_one hlit
        have hcb := cell_of_one hv
        have hfb := free_of_one hv
        obtain ⟨ad, b, e', hbz, hcell⟩ := num_cell hsl.reads (k := k) (by omega)
        cases e'
        rw [addr0] at hcell
        rw [bords_at _ _ _ (by omega)] at hbz
        obtain rfl : bord T.data.toList k = b := by simpa using hbz
        obtain ⟨b, hb'⟩ : ∃ b, bord T.data.toList k = b := ⟨_, rfl⟩
        rw [hb'] at hcell hQ
        obtain ⟨r, hr'⟩ : ∃ r, bord T.data.toList (k + 1) = r := ⟨_, rfl⟩
        rw [hr'] at hE
        have HE := hide (show ∀ W : World, W.heap = w2.heap → Calls Tryz.prog 96 #[.int .i64 b, .int .u8 (T[k].toNat : Int), .pointer (some ⟨w.heap.size, 0, none⟩), .pointer (some ⟨wc.heap.size + 1, 0, none⟩)] W fun e w' => e = .returned (.int .i64 r) ∧ W = w' from fun W hW =>
          ext41 _ _ T _ _ _ _ T[k] r b Q W (by rw [← hcl]; exact World.cell?_of_block (by rw [hW])) (by rw [← hcb]; exact World.cell?_of_block (by rw [hW])) (sl_heap hsl hW) (by omega) hE hQ)
        have HO := hide (show ∀ W : World, W.heap = (w2.alloc (.cells #[.int .i64 r] 3)).heap → W.ownsRow wc.heap.size 3 1 (.slice (some ⟨g, 0, none⟩) (k + 1) cap) (k + 1) (numCells (bords T.data.toList (k + 1))) from fun W hW => own_heap (ho.alloc _) hW)
        have hlo := bord_lo T.data.toList (k + 1)
        have hhi := bord_hi T.data.toList (k + 1)
        rw [hr'] at hlo hhi
        have k0 : (0 : Int) ≤ (k : Int) := by omega
        have k1 : (k : Int) < ((k + 1 : Nat) : Int) := by omega
        have k2 : (k : Int) < (T.size : Int) := by omega
        have k3 : (k : Int) < (k : Int) + 1 := by omega
        have Hcap := hide hcap
        have Hb := hide hb
        have Hv := hide hv
        have Ho := hide ho
        have hsz2 := hb.size
        have hlt2 : wc.heap.size + 1 < w2.heap.size := lt_of_block hv
        have hnl := own_far ho hv (by decide)
        have Hnx := hide (show numCells (bords T.data.toList (k + 1)) ++ [.int .i64 r] = numCells (bords T.data.toList (k + 1 + 1)) by rw [bords_succ _ (k + 1), num_app, hr']; rfl)
        clear hE hQ hsl hcap hlit hb hv hb' hr' hbz ho Hst Hvis Hnew Hbx Hbel
        go_wp2_with fail
        go_region_law (first | (refine step_append_lies _ (by rfl) (.tmp 25) (.tmp 35) 34 (by rfl) wc.heap.size 3 i0 _ 1 8 Tryz.underlying34 hi hz0 hz1 hz2 rfl (by omega) (.slice (some ⟨g, 0, none⟩) (k + 1) cap) (k + 1) (numCells (bords T.data.toList (k + 1))) (by rfl) (HO.out _ (by rfl)) ⟨w2.heap.size, 0, none⟩ 1 1 [.int .i64 r] (by rfl) (by rfl) (c1_at w2 _ _ _ rfl) (c2_one _ _) (by omega) (by unfold maxLen; omega) (by omega) (by simp; omega) (w2.heap.size + 1) (by simp) ?_; intro gg cap' w3 hown1 hgrow hat hlt3; have hf1 : w3.frozen? ⟨wc.heap.size + 1, 0, none⟩ = false := (hgrow.frozen_far _ (by simp; omega) (Ne.symm hnl)).trans ((World.frozen?_of_block (w := w2) (Below.heap_alloc w2 _ _ hlt2)).trans hfb); have hc1 : w3.cell? ⟨wc.heap.size + 1, 0, none⟩ = some (.slice (some ⟨g, 0, none⟩) (k + 1) cap) := (hgrow.cell_far _ (by simp; omega) (Ne.symm hnl)).trans ((World.cell?_of_block (w := w2) (Below.heap_alloc w2 _ _ hlt2)).trans hcb)) | (go_simp; go_at_call 96; refine (HE.out _ (by rfl)).mono ?_; rintro e w' ⟨rfl, rfl⟩))
        all_goals
          have R := cap_push Hcap.out.1 (by decide) (by omega) Hv.out Ho.out ((bnew (Below.refl _ w2) (.cells #[.int .i64 r] 3)).trans (Drawn.below ⟨1, rfl⟩ _)) hown1 hgrow
          rw [Hnx.out] at R
          have R1 := hide R.2.2.2.1
          have R2 := hide (Hb.out.trans R.2.2.2.2)
          clear R hown1 hgrow
          go_wp2
          go_roundw
          case rel => exact ⟨k + 1, by omega, by go_num, R1.out, R2.out⟩
          case measure => simp [intOf]; omega
      · obtain rfl : k = T.size := by omega
        have hcl := cell_of_one hlit
        have hcb := cell_of_one hv
        have hlv := lt_of_block hv
        have hsz2 := hb.size
        obtain ⟨d, hd⟩ : ∃ d, S.data.toList = d := ⟨_, rfl⟩
        have ld : d.length = S.size := by rw [← hd, size_list]
        have le := size_list T
        have hExt := ext_lng S T
        obtain ⟨e, he⟩ : ∃ e, T.data.toList = e := ⟨_, rfl⟩
        rw [he] at le hExt hsl
        rw [hd] at hExt
        have hfr := Hfr.out
        rw [hd, he] at hfr
        have HX : SlX w2 w.heap.size w2.heap.size (some ⟨g, 0, none⟩) (T.size + 1) cap (numCells (bords e (T.size + 1))) := ⟨hsl, fun ad e' => by cases e'; exact ⟨by show w.heap.size ≤ g; omega, hg2⟩⟩
        have HX' := hide HX
        have HS0 := hide (Hst.out w2 (Hbel.out.trans (hb.mono (by omega))) (by omega))
        -- what the closure does at any time
        have HE := hide (show ∀ (m : Nat) (hm : m < S.size) (x : Int) (W : World), Ag w.heap.size w2.heap.size w2 W → Pre d e m x → Calls Tryz.prog 96 #[.int .i64 x, .int .u8 (S[m].toNat : Int), .pointer (some ⟨w.heap.size, 0, none⟩), .pointer (some ⟨wc.heap.size + 1, 0, none⟩)] W fun e' w' => e' = .returned (.int .i64 (lng d e (m + 1))) ∧ W = w' from fun m hm x W ha hp =>
          ext41 _ _ T _ _ _ _ S[m] _ x _ W ((ha.cell (p := ⟨w.heap.size, 0, none⟩) (Nat.le_refl _) (by show w.heap.size < w2.heap.size; omega)).trans hcl) ((ha.cell (p := ⟨wc.heap.size + 1, 0, none⟩) (by show w.heap.size ≤ wc.heap.size + 1; omega) hlv).trans hcb) (HX.ag ha).1 (by omega) (hExt m hm) hp)
        have HC := hide (show ∀ W, Ag w.heap.size w2.heap.size w2 W → W.cell? ⟨w.heap.size, 0, none⟩ = some (.string T) ∧ W.cell? ⟨wc.heap.size + 1, 0, none⟩ = some (.slice (some ⟨g, 0, none⟩) (T.size + 1) cap) from fun W ha =>
          ⟨(ha.cell (p := ⟨w.heap.size, 0, none⟩) (Nat.le_refl _) (by show w.heap.size < w2.heap.size; omega)).trans hcl, (ha.cell (p := ⟨wc.heap.size + 1, 0, none⟩) (by show w.heap.size ≤ wc.heap.size + 1; omega) hlv).trans hcb⟩)
        have HB := hide (show ∀ W, Ag w.heap.size w2.heap.size w2 W → ∀ j : Nat, j ≤ T.size → W.cell? ⟨g, j, none⟩ = some (.int .i64 (bord e j)) from fun W ha j hj => by
          obtain ⟨ad, z, e1, e2, e3⟩ := num_cell (HX.ag ha).1.reads (k := j) (by omega)
          cases e1
          rw [addr0] at e3
          rw [bords_at _ _ _ (by omega)] at e2
          rw [e3]
          simpa using e2.symm)
        have Hle := hide le
        have Hld := hide ld
        have Hend := hide ((find_end d e).trans hfr)
        have hcapT := hsl.1
        have hcap2 := hsl.2.1
        clear hfr hExt hsl HX hlit hv ho hcap hb hlt Hst Hbx Hbel Hnew hd he ld le
        go_wp2_with fail
        go_loopw [11, 41] (fun u x wr => ∃ (m : Nat) (z : Int), m ≤ S.size + 1 ∧ x = .int .i64 (m : Int) ∧ u = .int .i64 z ∧ (m ≤ S.size → lng d e m = z) ∧ St w2.heap.size wr (findNL false d e (m - e.length)) ∧ Ag w.heap.size w2.heap.size w2 wr) (fun _ x _ => S.size + 1 - (intOf x).toNat)
        case atStart => exact ⟨0, 0, Nat.zero_le _, rfl, rfl, fun _ => lng_zero d e, by rw [show 0 - e.length = 0 by omega]; exact HS0.out, Ag.refl _ _ _⟩
        case round =>
          obtain ⟨m, z, hm, rfl, rfl, hz, hst, hag⟩ := hrel
          by_cases hms : m ≤ S.size
          · obtain ⟨j, h1, h2, h3⟩ := lng_nat d e m
            obtain rfl : z = (j : Int) := by rw [← hz hms]; exact h1
            have hjm := h2.1
            have le := Hle.out
            have ld := Hld.out
            obtain ⟨c1, c2⟩ := HC.out wr hag
            have hlp : decide ((m : Int) < (S.size : Int) + 1) = true := decide_eq_true (by omega)
            have k0 : (0 : Int) ≤ (j : Int) := by omega
            have k1 : (j : Int) < ((T.size + 1 : Nat) : Int) := by omega
            have k2 : (j : Int) < (T.size : Int) + 1 := by omega
            have HSt := hide hst
            have Hag := hide hag
            obtain ⟨r, hr⟩ : ∃ r, lng d e (m + 1) = r := ⟨_, rfl⟩
            have hrl : -1 ≤ r ∧ r ≤ 50000 := by
              obtain ⟨j', h1', _, h3'⟩ := lng_nat d e (m + 1)
              omega
            by_cases hj : j = T.size
            · have heq : ((j : Int) == (T.size : Int)) = true := by rw [hj]; simp
              have hf := find_yes d e m j h1 (by omega) (by omega)
              have hpre := pre_full h1 (by omega)
              have hlb := bord_lo e j
              have hhb := bord_hi e j
              obtain ⟨b, hb1⟩ : ∃ b, bord e j = b := ⟨_, rfl⟩
              rw [hb1] at hpre hlb hhb
              have Hf := hide hf.2
              have Hkz := hide (show (m : Int) - (j : Int) = ((m - e.length : Nat) : Int) by have := hf.1; omega)
              have hll : (findNL false d e (m - e.length)).length ≤ 100001 := Nat.le_trans (findN_len _ _ _ _) (by omega)
              have hkk : m - e.length ≤ 100000 := by omega
              by_cases hmS : m < S.size
              · have hE2 := HE.out m hmS b
                rw [hr] at hE2
                have HE2 := hide hE2
                have Hp := hide hpre
                have Hr := hide hr
                have hls : decide (m < S.size) = true := decide_eq_true hmS
                have kz : (m : Int) < (S.size : Int) := by omega
                clear hst hag hz h1 h2 hf hpre hE2 hr le ld hj
                go_wp2_with (first
                  | (refine (Hvis.out w2.heap.size wr _ (m - e.length) _ Hkz.out HSt.out hll hkk).mono ?_; rintro e1 w3 ⟨rfl, hst3, hag3⟩; have hag4 := Hag.out.trans hag3; obtain ⟨c1, c2⟩ := HC.out w3 hag4; have c3 := HB.out w3 hag4 j (by omega); rw [hb1] at c3; have HSt3 := hide hst3; have Hag4 := hide hag4; clear hst3 hag3 hag4)
                  | (go_at_call 96; refine (HE2.out _ Hag4.out Hp.out).mono ?_; rintro e1 w4 ⟨rfl, rfl⟩)
                  | fail)
                go_roundw
                case rel => exact ⟨m + 1, r, by omega, by go_num, rfl, fun _ => Hr.out, by rw [Hf.out]; exact HSt3.out, Hag4.out⟩
                case measure => simp [intOf]; omega
              · have hls : decide (m < S.size) = false := decide_eq_false hmS
                clear hst hag hz h1 h2 hf hpre hr le ld hj
                go_wp2_with (first
                  | (refine (Hvis.out w2.heap.size wr _ (m - e.length) _ Hkz.out HSt.out hll hkk).mono ?_; rintro e1 w3 ⟨rfl, hst3, hag3⟩; have hag4 := Hag.out.trans hag3; obtain ⟨c1, c2⟩ := HC.out w3 hag4; have c3 := HB.out w3 hag4 j (by omega); rw [hb1] at c3; have HSt3 := hide hst3; have Hag4 := hide hag4; clear hst3 hag3 hag4)
                  | fail)
                go_roundw
                case rel => exact ⟨m + 1, b, by omega, by go_num, rfl, fun h => absurd h (by omega), by rw [Hf.out]; exact HSt3.out, Hag4.out⟩
                case measure => simp [intOf]; omega
            · have heq : ((j : Int) == (T.size : Int)) = false := beq_eq_false_iff_ne.2 (by omega)
              have Hf := hide (find_no d e m j h1 (by omega) (by omega))
              by_cases hmS : m < S.size
              · have hE2 := HE.out m hmS (j : Int) wr hag (pre_lng h1 (by omega))
                rw [hr] at hE2
                have HE2 := hide hE2
                have Hr := hide hr
                have hls : decide (m < S.size) = true := decide_eq_true hmS
                have kz : (m : Int) < (S.size : Int) := by omega
                clear hst hag hz h1 h2 hE2 hr le ld hj
                go_wp2_with (first
                  | (go_at_call 96; refine HE2.out.mono ?_; rintro e1 w4 ⟨rfl, rfl⟩)
                  | fail)
                go_roundw
                case rel => exact ⟨m + 1, r, by omega, by go_num, rfl, fun _ => Hr.out, by rw [Hf.out]; exact HSt.out, Hag.out⟩
                case measure => simp [intOf]; omega
              · have hls : decide (m < S.size) = false := decide_eq_false hmS
                clear hst hag hz h1 h2 hr le ld hj
                go_wp2
                go_roundw
                case rel => exact ⟨m + 1, _, by omega, by go_num, rfl, fun h => absurd h (by omega), by rw [Hf.out]; exact HSt.out, Hag.out⟩
                case measure => simp [intOf]; omega
          · have hlp : decide ((m : Int) < (S.size : Int) + 1) = false := decide_eq_false (by omega)
            have hfin : findNL false d e (m - e.length) = R := by
              rw [← Hend.out, Hld.out, show m = S.size + 1 by omega]
            rw [hfin] at hst
            have HSt := hide hst
            clear hst hag hz hfin
            go_wp2
            go_end0
            exact ⟨rfl, _, HSt.out⟩
end Go.Proofs.YtlnbjdlooghpeaaGreatDoor
