/- Walk of layer 8's reference: a set. -/
import Derived.Test.YtmiegjefmebpdaaGreatDoorKK
import Derived.Deep.RegionLaw
import Derived.Deep.AppendLies
import Derived.Deep.DeepCutAuto
import Derived.BigQuiet
namespace Go.Proofs.YtmiegjefmebpdaaGreatDoor
open Go.RowKit

/-- Block b holds the five cells, and may be written. -/
def FiveF (w : World) (b : Nat) (c0 c1 c2 c3 c4 : Value) : Prop := Five w b c0 c1 c2 c3 c4 ∧ w.frozen? ⟨b, 0, none⟩ = false ∧ w.frozen? ⟨b, 1, none⟩ = false ∧ w.frozen? ⟨b, 2, none⟩ = false ∧ w.frozen? ⟨b, 3, none⟩ = false ∧ w.frozen? ⟨b, 4, none⟩ = false
theorem fiveF_new (w : World) (c0 c1 c2 c3 c4 : Value) (T : TypeId) : FiveF (w.alloc (.cells #[c0, c1, c2, c3, c4] T)) w.heap.size c0 c1 c2 c3 c4 := by
  refine ⟨five_new w c0 c1 c2 c3 c4 T, ?_, ?_, ?_, ?_, ?_⟩ <;> (rw [World.frozen?_alloc_mark]; simp)
theorem FiveF.at_ {w w' : World} {b B : Nat} {c0 c1 c2 c3 c4 : Value} (h : FiveF w b c0 c1 c2 c3 c4) (hb : Below B w w') (hlt : b < B) : FiveF w' b c0 c1 c2 c3 c4 := by
  obtain ⟨⟨h0, h1, h2, h3, h4, h5⟩, f0, f1, f2, f3, f4⟩ := h
  have key : ∀ k : Nat, w'.cell? ⟨b, k, none⟩ = w.cell? ⟨b, k, none⟩ := fun k => hb.cell (p := ⟨b, k, none⟩) hlt
  have fkey : ∀ k : Nat, w'.frozen? ⟨b, k, none⟩ = w.frozen? ⟨b, k, none⟩ := fun k => hb.frozen (p := ⟨b, k, none⟩) hlt
  exact ⟨⟨Nat.lt_of_lt_of_le h0 hb.size, (key _).trans h1, (key _).trans h2, (key _).trans h3, (key _).trans h4, (key _).trans h5⟩, (fkey _).trans f0, (fkey _).trans f1, (fkey _).trans f2, (fkey _).trans f3, (fkey _).trans f4⟩
/-- Five cells stored. -/
def put5 (w : World) (b : Nat) (u0 u1 u2 u3 u4 : Value) : World := ((((w.setCell ⟨b, 0, none⟩ u0).setCell ⟨b, 1, none⟩ u1).setCell ⟨b, 2, none⟩ u2).setCell ⟨b, 3, none⟩ u3).setCell ⟨b, 4, none⟩ u4
theorem set_off (w : World) (b j k : Nat) (u : Value) (h : j ≠ k) : (w.setCell ⟨b, j, none⟩ u).cell? ⟨b, k, none⟩ = w.cell? ⟨b, k, none⟩ := World.cell?_setCell_other _ _ _ _ (fun e => h (congrArg Addr.off e))
theorem put5_five {w : World} {b : Nat} {c0 c1 c2 c3 c4 : Value} (h : FiveF w b c0 c1 c2 c3 c4) (u0 u1 u2 u3 u4 : Value) : Five (put5 w b u0 u1 u2 u3 u4) b u0 u1 u2 u3 u4 := by
  obtain ⟨⟨h0, h1, h2, h3, h4, h5⟩, _⟩ := h
  unfold put5
  refine ⟨by simpa [World.setCell] using h0, ?_, ?_, ?_, ?_, ?_⟩
  · rw [set_off _ _ _ _ _ (by decide), set_off _ _ _ _ _ (by decide), set_off _ _ _ _ _ (by decide), set_off _ _ _ _ _ (by decide)]
    exact World.cell?_setCell_same _ _ _ h1
  · rw [set_off _ _ _ _ _ (by decide), set_off _ _ _ _ _ (by decide), set_off _ _ _ _ _ (by decide)]
    exact World.cell?_setCell_same _ _ _ (by rw [set_off _ _ _ _ _ (by decide)]; exact h2)
  · rw [set_off _ _ _ _ _ (by decide), set_off _ _ _ _ _ (by decide)]
    exact World.cell?_setCell_same _ _ _ (by rw [set_off _ _ _ _ _ (by decide), set_off _ _ _ _ _ (by decide)]; exact h3)
  · rw [set_off _ _ _ _ _ (by decide)]
    exact World.cell?_setCell_same _ _ _ (by rw [set_off _ _ _ _ _ (by decide), set_off _ _ _ _ _ (by decide), set_off _ _ _ _ _ (by decide)]; exact h4)
  · exact World.cell?_setCell_same _ _ _ (by rw [set_off _ _ _ _ _ (by decide), set_off _ _ _ _ _ (by decide), set_off _ _ _ _ _ (by decide), set_off _ _ _ _ _ (by decide)]; exact h5)
theorem put5_below {B b : Nat} {w w' : World} {u0 u1 u2 u3 u4 : Value} (h : Below B w w') (hb : B ≤ b) : Below B w (put5 w' b u0 u1 u2 u3 u4) :=
  ((((h.setCell (by exact hb) _).setCell (by exact hb) _).setCell (by exact hb) _).setCell (by exact hb) _).setCell (by exact hb) _
theorem put5_cell {w : World} {b : Nat} {u0 u1 u2 u3 u4 : Value} {p : Addr} (h : p.block ≠ b) : (put5 w b u0 u1 u2 u3 u4).cell? p = w.cell? p := by
  unfold put5
  have key : ∀ (W : World) (j : Nat) (u : Value), (W.setCell ⟨b, j, none⟩ u).cell? p = W.cell? p := fun W j u => World.cell?_setCell_other _ _ _ _ (fun e => h (congrArg Addr.block e).symm)
  rw [key, key, key, key, key]
theorem put5_rxv {w : World} {b B : Nat} {u0 u1 u2 u3 u4 v : Value} {r : Rx} (h : RxV w (fun g => B ≤ g) v r) (hb : b < B) (B' : Nat) (hB : B' ≤ B) : RxV (put5 w b u0 u1 u2 u3 u4) (fun g => B' ≤ g) v r :=
  h.map (fun p hp _ => put5_cell (by omega)) fun g hg _ => Nat.le_trans hB hg

theorem esc_len {c : UInt8} {x : List (UInt8 × UInt8)} (h : escapeS c = some x) : 0 < x.length ∧ x.length ≤ 4 := by
  unfold escapeS at h
  repeat' split at h
  all_goals first | (cases h; done) | (cases h; decide) | (cases h; simp)
theorem one_at {s : ByteArray} {m : Nat} {x : List (UInt8 × UInt8)} {r : List UInt8} (h : oneS (s.data.toList.drop m) = some (x, r)) : ∃ m', m < m' ∧ m' ≤ s.size ∧ r = s.data.toList.drop m' ∧ offO s (some (x, r)) = (m' : Int) ∧ 0 < x.length ∧ x.length ≤ 4 := by
  by_cases hm : m < s.size
  · rw [drop_cons hm] at h
    have fin : ∀ m', m < m' → m' ≤ s.size → r = s.data.toList.drop m' → 0 < x.length ∧ x.length ≤ 4 → ∃ m', m < m' ∧ m' ≤ s.size ∧ r = s.data.toList.drop m' ∧ offO s (some (x, r)) = (m' : Int) ∧ 0 < x.length ∧ x.length ≤ 4 := fun m' h1 h2 h3 h4 =>
      ⟨m', h1, h2, h3, by rw [h3]; exact offO_at s m' h2 x, h4⟩
    simp only [oneS] at h
    split at h
    · cases h
    · split at h
      · by_cases hm2 : m + 1 < s.size
        · rw [drop_cons hm2] at h
          simp only at h
          split at h
          · rename_i y hy
            cases h
            exact fin (m + 1 + 1) (by omega) (by omega) rfl (esc_len hy)
          · cases h
        · rw [drop_end (by omega)] at h
          cases h
      · split at h
        · cases h
        · cases h
          exact fin (m + 1) (by omega) (by omega) rfl (by simp)
  · rw [drop_end (by omega)] at h
    cases h
theorem lo_head {l : List (UInt8 × UInt8)} (h : 0 < l.length) : (rgCells l)[0]? = some (.int .u8 ((lo1 l).toNat : Int)) := by
  cases l with
  | nil => simp at h
  | cons r l => rfl
theorem ownR_head {W : World} {B : Nat} {v : Value} {l : List (UInt8 × UInt8)} (h : OwnR W B v l) (h0 : 0 < l.length) : ∃ g cap, v = .slice (some ⟨g, 0, none⟩) l.length cap ∧ B ≤ g ∧ g < W.heap.size ∧ W.cell? ⟨g, 0, none⟩ = some (.int .u8 ((lo1 l).toNat : Int)) := by
  obtain ⟨g, cap, rfl, h1, h2⟩ := World.ownsRow.form h h0
  exact ⟨g, cap, rfl, h1, h2, (World.ownsRow.cellAt h 0 (by omega)).trans (lo_head h0)⟩
/-- The set whose elements were read. -/
def setFin (b : Bool) (o : Option (List (UInt8 × UInt8) × List UInt8)) : Option (Rx × List UInt8) := match o with | some p => some (.mk 1 (rangesS p.1 b) 0 0 [], p.2) | none => none
theorem one_some {s : ByteArray} {m : Nat} {x : List (UInt8 × UInt8)} {r : List UInt8} {w : World} {m' : Nat} (h : Calls Tryz.prog 118 #[.string s, .int .i64 (m : Int)] w (GotO s w (some (x, r)))) (ho : offO s (some (x, r)) = (m' : Int)) :
    Calls Tryz.prog 118 #[.string s, .int .i64 (m : Int)] w fun e w' => ∃ v, e = .returned (.tuple #[v, .int .i64 (m' : Int)]) ∧ OwnR w' w.heap.size v x ∧ Below w.heap.size w w' := by
  unfold GotO at h
  rw [ho] at h
  exact h
theorem one_somen {s : ByteArray} {m : Nat} {x : List (UInt8 × UInt8)} {r : List UInt8} {w : World} {m' : Nat} (h : Calls Tryz.prog 118 #[.string s, .int .i64 ((m : Int) + 1)] w (GotO s w (some (x, r)))) (ho : offO s (some (x, r)) = (m' : Int)) :
    Calls Tryz.prog 118 #[.string s, .int .i64 ((m : Int) + 1)] w fun e w' => ∃ v, e = .returned (.tuple #[v, .int .i64 (m' : Int)]) ∧ OwnR w' w.heap.size v x ∧ Below w.heap.size w w' := by
  unfold GotO at h
  rw [ho] at h
  exact h
theorem one_nonen {s : ByteArray} {m : Nat} {w : World} (h : Calls Tryz.prog 118 #[.string s, .int .i64 ((m : Int) + 1)] w (GotO s w none)) :
    ∃ e2 : Int, e2 < 0 ∧ Calls Tryz.prog 118 #[.string s, .int .i64 ((m : Int) + 1)] w fun e w' => ∃ v, e = .returned (.tuple #[v, .int .i64 e2]) ∧ OwnR w' w.heap.size v [] ∧ Below w.heap.size w w' := ⟨-1, by decide, h⟩
theorem class56n (s : ByteArray) (k : Nat) (hk : k + 1 ≤ s.size) (hs : s.size ≤ 100000) (q : Bool) (hq : classS (s.data.toList.drop (k + 1)) = q) (w : World) :
    Calls Tryz.prog 119 #[.string s, .int .i64 ((k : Int) + 1)] w fun e w' => e = .returned (.bool q) ∧ w = w' := class119 s (k + 1) hk hs q hq w
theorem one55n (s : ByteArray) (k : Nat) (hk : k + 1 ≤ s.size) (hs : s.size ≤ 100000) (o : Option (List (UInt8 × UInt8) × List UInt8)) (ho : oneS (s.data.toList.drop (k + 1)) = o) (w : World) :
    Calls Tryz.prog 118 #[.string s, .int .i64 ((k : Int) + 1)] w (GotO s w o) := one118 s (k + 1) hk hs o ho w
theorem own_heap8 {w W : World} {B e : Nat} {sz n : Nat} {v : Value} {xs : List Value} (h : w.ownsRow B e sz v n xs) (hw : W.heap = w.heap) : W.ownsRow B e sz v n xs := by
  obtain ⟨h1, h2⟩ := h
  refine ⟨h1, ?_⟩
  rcases h2 with h2 | ⟨g, cap, cur, hv, hg, hh, r⟩
  · exact Or.inl h2
  · exact Or.inr ⟨g, cap, cur, hv, hg, by rw [hw]; exact hh, r⟩
theorem rg_one (l : List (UInt8 × UInt8)) : ∀ u ∈ rgCells l, u.oneCell' = true := by
  intro u hu
  unfold rgCells at hu
  obtain ⟨r, _, hr⟩ := List.mem_flatMap.1 hu
  simp at hr
  rcases hr with rfl | rfl <;> rfl
theorem setS_yes {l : List UInt8} (h : l.head? = some 94) : setS l = setFin true (setE (l.tail.length + 1) [] l.tail) := by
  unfold setS setFin
  rw [if_pos h]
  cases setE (l.tail.length + 1) [] l.tail <;> rfl
theorem setS_no {l : List UInt8} (h : ¬ l.head? = some 94) : setS l = setFin false (setE (l.length + 1) [] l) := by
  unfold setS setFin
  rw [if_neg h]
  cases setE (l.length + 1) [] l <;> rfl

set_option maxRecDepth 100000 in
set_option maxHeartbeats 12800000 in
theorem set104 (s : ByteArray) (k : Nat) (hk : k < s.size) (hs : s.size ≤ 20000) (w : World) : Calls Tryz.prog 104 #[.string s, .int .i64 (k : Int)] w (GotP s w (setS (s.data.toList.drop (k + 1)))) := by
  obtain ⟨i0, hi, hz0, hz1, hz2⟩ := info_parts infoR
  have Hc1 := hide (show k + 1 < s.size → s.data.toList.drop (k + 1) = s.data.toList.getD (k + 1) 0 :: s.data.toList.drop (k + 1 + 1) from fun h => by rw [getD_byte s (k + 1) h]; exact drop_cons h)
  have Hc2 := hide (show ¬ k + 1 < s.size → s.data.toList.drop (k + 1) = [] from fun h => drop_end (by omega))
  obtain ⟨E, hE⟩ : ∃ E, setS (s.data.toList.drop (k + 1)) = E := ⟨_, rfl⟩
  rw [hE]
  have HE := hide hE
  clear hE
  obtain ⟨w0, hw0⟩ : ∃ w0, w.alloc (.cells #[.int .i64 0, .slice none 0 0, .int .i64 0, .int .i64 0, .slice none 0 0] 25) = w0 := ⟨_, rfl⟩
  have HF0 := hide (show FiveF w0 w.heap.size (.int .i64 0) (.slice none 0 0) (.int .i64 0) (.int .i64 0) (.slice none 0 0) by rw [← hw0]; exact fiveF_new w _ _ _ _ _ 25)
  have HB0 := hide (show Below w.heap.size w w0 by rw [← hw0]; exact bnew (Below.refl _ w) _)
  have hs0 : w0.heap.size = w.heap.size + 1 := by rw [← hw0]; simp
  have Hw0 := hide hw0
  have Hs0 := hide hs0
  clear hw0 hs0
  go_enter Tryz.func104, Tryz.ntmps104
  go_upto_region 3 with (fail)
  go_cut [24] (fun q wx => wx = w0 ∧ ∃ bq : Bool, q = .bool bq ∧ decide ((s.data.toList.drop (k + 1)).head? = some 94) = bq)
  case first =>
    have hw0 := Hw0.out
    by_cases h1 : k + 1 < s.size
    · have hd := Hc1.out h1
      rw [getD_byte s (k + 1) h1] at hd
      obtain ⟨c, hc⟩ : ∃ c, s[k + 1] = c := ⟨_, rfl⟩
      rw [hc] at hd
      have e94 : ((c.toNat : Int) == 94) = decide (c = 94) := u8_eq rfl
      have Hd := hide (show decide ((s.data.toList.drop (k + 1)).head? = some 94) = decide (c = 94) by rw [hd]; simp)
      have hi1 : (k : Int) + 1 < (s.size : Int) := by omega
      clear hd
      go_wp2
      go_meet
      exact ⟨rfl, _, rfl, by rw [Hd.out, ← e94]⟩
    · have Hd := hide (show decide ((s.data.toList.drop (k + 1)).head? = some 94) = false by rw [Hc2.out h1]; rfl)
      have hi1 : ¬ (k : Int) + 1 < (s.size : Int) := by omega
      go_wp2
      go_meet
      exact ⟨rfl, _, rfl, by rw [Hd.out]⟩
  case rest =>
    obtain ⟨rfl, bq, rfl, hbq⟩ := hcut
    have Hbq := hide hbq
    clear hbq
    go_upto_if 24 with (fail)
    go_cut [6, 7] (fun i q wx => wx = wc ∧ ∃ (m : Nat) (b : Bool), i = .int .i64 (m : Int) ∧ q = .bool b ∧ m ≤ s.size ∧ E = setFin b (setE ((s.data.toList.drop m).length + 1) [] (s.data.toList.drop m)))
    case first =>
      cases bq with
      | true =>
        have hh := of_decide_eq_true Hbq.out
        have hk1 : k + 1 < s.size := by
          by_cases h1 : k + 1 < s.size
          · exact h1
          · rw [Hc2.out h1] at hh
            simp at hh
        have HEE := hide (show E = setFin true (setE ((s.data.toList.drop (k + 2)).length + 1) [] (s.data.toList.drop (k + 2))) by
          rw [← HE.out, setS_yes hh, show (s.data.toList.drop (k + 1)).tail = s.data.toList.drop (k + 2) by rw [Hc1.out hk1]; rfl])
        clear hh
        go_wp2
        go_meet
        exact ⟨rfl, k + 2, true, by go_num, rfl, by omega, HEE.out⟩
      | false =>
        have hh := of_decide_eq_false Hbq.out
        have HEE := hide (show E = setFin false (setE ((s.data.toList.drop (k + 1)).length + 1) [] (s.data.toList.drop (k + 1))) by rw [← HE.out, setS_no hh])
        clear hh
        go_wp2
        go_meet
        exact ⟨rfl, k + 1, false, by go_num, rfl, by omega, HEE.out⟩
    case rest =>
      obtain ⟨rfl, m0, b, rfl, rfl, hm0, hEE⟩ := hcut
      clear Hc1 Hc2 HE
      obtain ⟨E0, hE0⟩ : ∃ E0, setE ((s.data.toList.drop m0).length + 1) [] (s.data.toList.drop m0) = E0 := ⟨_, rfl⟩
      rw [hE0] at hEE
      have HEE := hide hEE
      have HE0 := hide hE0
      have hlit := ownR_lit wc #[] [] 0 rfl rfl (by decide)
      have hsw := Hs0.out
      have Hlit := hide (hlit.mono (B' := w.heap.size + 1) (by omega))
      have Hb1 := hide ((Below.refl (w.heap.size + 1) wc).alloc (by omega) (.cells #[] 48))
      have hsw1 : w.heap.size + 1 ≤ wc.heap.size := by omega
      clear hE0 hEE hlit hsw
      go_wp2_with fail
      go_loopw [6, 8] (fun x u wr => ∃ (m n : Nat) (acc : List (UInt8 × UInt8)), x = .int .i64 (m : Int) ∧ m ≤ s.size ∧ OwnR wr (w.heap.size + 1) u acc ∧ acc.length ≤ 4 * m ∧ Below (w.heap.size + 1) wc wr ∧ setE n acc (s.data.toList.drop m) = E0 ∧ (s.data.toList.drop m).length < n) (fun x _ _ => s.size - (intOf x).toNat)
      case atStart => exact ⟨m0, _, [], rfl, hm0, Hlit.out, Nat.zero_le _, Hb1.out, HE0.out, Nat.lt_succ_self _⟩
      case round =>
        clear hm0 HE0 Hlit Hb1
        obtain ⟨m, n, acc, rfl, hm, hown, hal, hbe, hset, hfu⟩ := hrel
        obtain ⟨w2, hw2⟩ : ∃ w2, w2 = wr := ⟨wr, rfl⟩
        subst hw2
        obtain ⟨u, huu⟩ : ∃ u, u = u8 := ⟨u8, rfl⟩
        subst huu
        obtain ⟨n, rfl⟩ : ∃ n', n = n' + 1 := ⟨n - 1, by omega⟩
        have Hown := hide hown
        have Hbe := hide hbe
        have hsz2 := hbe.size
        by_cases hlt : m < s.size
        · have hd := drop_cons hlt
          have hlm : decide ((m : Int) < (s.size : Int)) = true := decide_eq_true (by omega)
          have hmi : (m : Int) < (s.size : Int) := by omega
          obtain ⟨c, hc⟩ : ∃ c, s[m] = c := ⟨_, rfl⟩
          have Hd := hide hd
          rw [hd, hc] at hset
          unfold setE at hset
          by_cases h93 : c = 93
          · have e93 : ((c.toNat : Int) != 93) = false := by rw [h93]; rfl
            rw [if_pos h93] at hset
            by_cases hac : acc = []
            · rw [if_pos hac] at hset
              have HEn := hide (show E = none by rw [HEE.out, ← hset]; rfl)
              have hge : decide ((m : Int) ≥ (s.size : Int)) = false := decide_eq_false (by omega)
              have hge' : decide ((s.size : Int) ≤ (m : Int)) = false := decide_eq_false (by omega)
              obtain ⟨A, q, cap, rfl, hq, -⟩ := hown.s
              rw [hac] at hq
              have hq0 : ((q : Int) == 0) = true := by rw [hq]; rfl
              clear hset hfu hown hbe hd hac hq h93
              have hfx := HF0.out.at_ Hbe.out (Nat.lt_succ_self _)
              have HFx := hide hfx
              obtain ⟨⟨-, f1, f2, f3, f4, f5⟩, g0, g1, g2, g3, g4⟩ := hfx
              have HBx := hide (HB0.out.trans ((Hbe.out).mono (Nat.le_succ _)))
              go_wp2
              exact bodyPost_ret (res_two rfl _ _ w.heap.size _ _ _ _ _ _ rfl rfl (put5_five HFx.out (.int .i64 0) (.slice none 0 0) (.int .i64 0) (.int .i64 0) (.slice none 0 0))) rfl ⟨_, by rw [HEn.out]; rfl, by rw [HEn.out]; exact rxv_zero, put5_below HBx.out (Nat.le_refl _)⟩
            · rw [if_neg hac] at hset
              have HEn := hide (show E = some (.mk 1 (rangesS acc b) 0 0 [], s.data.toList.drop (m + 1)) by rw [HEE.out, ← hset]; rfl)
              have hge : decide ((m : Int) ≥ (s.size : Int)) = false := decide_eq_false (by omega)
              have hge' : decide ((s.size : Int) ≤ (m : Int)) = false := decide_eq_false (by omega)
              obtain ⟨A, q, cap, rfl, hq, hrg⟩ := hown.s
              have hq0 : ((q : Int) == 0) = false := beq_eq_false_iff_ne.2 (by have := List.length_pos_iff.2 hac; omega)
              have HR := hide (ranges50 hrg b)
              have Ho := hide (offO_at s (m + 1) (by omega) (Rx.mk 1 (rangesS acc b) 0 0 []))
              clear hset hfu hown hbe hd hac hq h93 hrg
              go_wp2_with fail
              with_reducible refine HR.out.mono ?_
              rintro e w3 ⟨v3, rfl, ho3, hb3⟩
              have B3 := hide (Hbe.out.trans (hb3.mono (by omega)))
              obtain ⟨A3, q3, c3, rfl, -, -⟩ := ho3.s
              have O3 := hide (ho3.mono (B' := w.heap.size + 1) (by omega))
              clear ho3 hb3
              have hfx := HF0.out.at_ B3.out (Nat.lt_succ_self _)
              have HFx := hide hfx
              obtain ⟨⟨-, f1, f2, f3, f4, f5⟩, g0, g1, g2, g3, g4⟩ := hfx
              have HBx := hide (HB0.out.trans (B3.out.mono (Nat.le_succ _)))
              go_wp2
              exact bodyPost_ret (res_two rfl _ _ w.heap.size _ _ _ _ _ _ rfl rfl (put5_five HFx.out (.int .i64 1) (.slice A3 q3 c3) (.int .i64 0) (.int .i64 0) (.slice none 0 0))) rfl ⟨_, by rw [HEn.out, Ho.out]; rfl, by rw [HEn.out]; exact put5_rxv O3.out.rxv (Nat.lt_succ_self _) _ (Nat.le_succ _), put5_below HBx.out (Nat.le_refl _)⟩
          · have e93 : ((c.toNat : Int) != 93) = true := by rw [bne, u8_eq (n := 93) (z := 93) rfl, decide_eq_false h93]; rfl
            rw [if_neg h93] at hset
            have hd2 := Hd.out
            rw [hc] at hd2
            rw [← hd2] at hset
            cases hone : oneS (s.data.toList.drop m) with
            | none =>
              rw [hone] at hset
              have HEn := hide (show E = none by rw [HEE.out, ← hset]; rfl)
              have H1 := hide (one118 s m hm (by omega) none hone w2)
              clear hset hfu hown hbe hone hd hd2
              go_wp2_with fail
              with_reducible refine H1.out.mono ?_
              rintro e w3 ⟨v3, rfl, -, hb3⟩
              have B3 := hide (Hbe.out.trans (hb3.mono (by omega)))
              clear hb3
              have hfx := HF0.out.at_ B3.out (Nat.lt_succ_self _)
              have HFx := hide hfx
              obtain ⟨⟨-, f1, f2, f3, f4, f5⟩, g0, g1, g2, g3, g4⟩ := hfx
              have HBx := hide (HB0.out.trans ((B3.out).mono (Nat.le_succ _)))
              go_wp2
              exact bodyPost_ret (res_two rfl _ _ w.heap.size _ _ _ _ _ _ rfl rfl (put5_five HFx.out (.int .i64 0) (.slice none 0 0) (.int .i64 0) (.int .i64 0) (.slice none 0 0))) rfl ⟨_, by rw [HEn.out]; rfl, by rw [HEn.out]; exact rxv_zero, put5_below HBx.out (Nat.le_refl _)⟩
            | some p =>
              obtain ⟨x, r⟩ := p
              rw [hone] at hset
              dsimp only at hset
              obtain ⟨m1, hm1, hm1s, hr, hoff, hx0, hx4⟩ := one_at hone
              have H1 := hide (one_some (one118 s m hm (by omega) _ hone w2) hoff)
              have hm1i : ¬ ((m1 : Int) < 0) := by omega
              have hm1d : decide ((m1 : Int) < 0) = false := decide_eq_false hm1i
              have HC := hide (class119 s m hm (by omega))
              obtain ⟨q0, hq0⟩ : ∃ q, classS (s.data.toList.drop m) = q := ⟨_, rfl⟩
              rw [hq0] at hset HC
              have HCq := hide (fun W => HC.out q0 rfl W)
              by_cases hcond : q0 = false ∧ r.head? = some 45
              · rw [if_pos hcond] at hset
                obtain ⟨rfl, hr45⟩ := hcond
                have hm1l : m1 < s.size := by
                  by_cases h1 : m1 < s.size
                  · exact h1
                  · rw [hr, drop_end (by omega)] at hr45
                    simp at hr45
                have hdr := drop_cons hm1l
                rw [← hr] at hdr
                have h45 : s[m1] = 45 := by rw [hdr] at hr45; simpa using hr45
                have hrt : r.tail = s.data.toList.drop (m1 + 1) := by rw [hdr]; rfl
                rw [hrt] at hset
                have hm1ii : (m1 : Int) < (s.size : Int) := by omega
                have hm1b : decide ((m1 : Int) < (s.size : Int)) = true := decide_eq_true hm1ii
                obtain ⟨c1, hc1⟩ : ∃ c, s[m1] = c := ⟨_, rfl⟩
                rw [hc1] at h45
                have e45 : ((c1.toNat : Int) == 45) = true := by rw [h45]; rfl
                have HC1 := hide (class56n s m1 (by omega) (by omega))
                cases hq1 : classS (s.data.toList.drop (m1 + 1)) with
                | true =>
                  rw [hq1, if_pos rfl] at hset
                  have HEn := hide (show E = none by rw [HEE.out, ← hset]; rfl)
                  have HC1q := hide (fun W => HC1.out true hq1 W)
                  clear hset hfu hown hbe hone hd hd2 hr hoff hrt hdr h45 hr45 hq1 hq0 h93
                  go_wp2_with fail
                  with_reducible refine H1.out.mono ?_
                  rintro e w3 ⟨v3, rfl, -, hb3⟩
                  have B3 := hide (Hbe.out.trans (hb3.mono (by omega)))
                  clear hb3
                  go_wp2_with fail
                  with_reducible refine (HCq.out _).mono ?_
                  rintro e w4 ⟨rfl, rfl⟩
                  go_wp2_with fail
                  with_reducible refine (HC1q.out _).mono ?_
                  rintro e w4 ⟨rfl, rfl⟩
                  have hfx := HF0.out.at_ B3.out (Nat.lt_succ_self _)
                  have HFx := hide hfx
                  obtain ⟨⟨-, f1, f2, f3, f4, f5⟩, g0, g1, g2, g3, g4⟩ := hfx
                  have HBx := hide (HB0.out.trans ((B3.out).mono (Nat.le_succ _)))
                  go_wp2
                  exact bodyPost_ret (res_two rfl _ _ w.heap.size _ _ _ _ _ _ rfl rfl (put5_five HFx.out (.int .i64 0) (.slice none 0 0) (.int .i64 0) (.int .i64 0) (.slice none 0 0))) rfl ⟨_, by rw [HEn.out]; rfl, by rw [HEn.out]; exact rxv_zero, put5_below HBx.out (Nat.le_refl _)⟩
                | false =>
                  rw [hq1, if_neg (by simp)] at hset
                  have HC1q := hide (fun W => HC1.out false hq1 W)
                  cases hone2 : oneS (s.data.toList.drop (m1 + 1)) with
                  | none =>
                    rw [hone2] at hset
                    have HEn := hide (show E = none by rw [HEE.out, ← hset]; rfl)
                    have H2' := hide (fun W => one_nonen (one55n s m1 (by omega) (by omega) none hone2 W))
                    clear hset hfu hown hbe hone hd hd2 hr hoff hrt hdr h45 hr45 hq1 hq0 h93 hone2
                    go_wp2_with fail
                    with_reducible refine H1.out.mono ?_
                    rintro e w3 ⟨v3, rfl, ho3, hb3⟩
                    obtain ⟨g3, cap3, rfl, hg3, hg3', hc3⟩ := ownR_head ho3 hx0
                    have B3 := hide (Hbe.out.trans (hb3.mono (by omega)))
                    have hsz3 := hb3.size
                    clear hb3 ho3
                    go_wp2_with fail
                    with_reducible refine (HCq.out _).mono ?_
                    rintro e w4 ⟨rfl, rfl⟩
                    go_wp2_with fail
                    with_reducible refine (HC1q.out _).mono ?_
                    rintro e w4 ⟨rfl, rfl⟩
                    go_wp2_with fail
                    obtain ⟨e2, he2, H2c⟩ := H2'.out w3
                    with_reducible refine H2c.mono ?_
                    rintro e w5 ⟨v5, rfl, ho5, hb5⟩
                    obtain ⟨A5, q5, c5, rfl, -, -⟩ := ho5.s
                    have B5 := hide (B3.out.trans (hb5.mono (by omega)))
                    have hc35 := (hb5.cell (p := ⟨g3, 0, none⟩) hg3').trans hc3
                    have kx : (0 : Int) < (x.length : Int) := by omega
                    clear hb5 ho5 hc3
                    have hm1dd : decide (e2 < 0) = true := decide_eq_true he2
                    have hfx := HF0.out.at_ B5.out (Nat.lt_succ_self _)
                    have HFx := hide (fun j : Nat => hfx.at_ (Drawn.below ⟨j, rfl⟩ (w.heap.size + 1) : Below (w.heap.size + 1) w5 (w5.drewN j)) (Nat.lt_succ_self _))
                    clear hfx
                    have HBx := hide (fun j : Nat => (HB0.out.trans ((B5.out).mono (Nat.le_succ _))).trans (Drawn.below ⟨j, rfl⟩ w.heap.size : Below w.heap.size w5 (w5.drewN j)))
                    go_wp2
                    go_big_quiet (fail)
                    have hfy := HFx.out nq
                    obtain ⟨⟨-, f1, f2, f3, f4, f5⟩, f6, f7, f8, f9, f10⟩ := hfy
                    go_wp2
                    exact bodyPost_ret (res_two rfl _ _ w.heap.size _ _ _ _ _ _ rfl rfl (put5_five (HFx.out _) (.int .i64 0) (.slice none 0 0) (.int .i64 0) (.int .i64 0) (.slice none 0 0))) rfl ⟨_, by rw [HEn.out]; rfl, by rw [HEn.out]; exact rxv_zero, put5_below (HBx.out _) (Nat.le_refl _)⟩
                  | some p =>
                    obtain ⟨y, r2⟩ := p
                    rw [hone2] at hset
                    dsimp only at hset
                    obtain ⟨m2, hm2, hm2s, hr2, hoff2, hy0, hy4⟩ := one_at hone2
                    have H2 := hide (fun W => one_somen (one55n s m1 (by omega) (by omega) _ hone2 W) hoff2)
                    have hm2i : ¬ ((m2 : Int) < 0) := by omega
                    have hm2d : decide ((m2 : Int) < 0) = false := decide_eq_false hm2i
                    obtain ⟨a1, ha1⟩ : ∃ a, lo1 x = a := ⟨_, rfl⟩
                    obtain ⟨a2, ha2⟩ : ∃ a, lo1 y = a := ⟨_, rfl⟩
                    rw [ha1, ha2] at hset
                    by_cases hlt2 : a2 < a1
                    · rw [if_pos hlt2] at hset
                      have HEn := hide (show E = none by rw [HEE.out, ← hset]; rfl)
                      have hd2n : decide ((a2.toNat : Int) < (a1.toNat : Int)) = true := decide_eq_true (by rw [UInt8.lt_iff_toNat_lt] at hlt2; omega)
                      have hd2m : decide (a2.toNat < a1.toNat) = true := decide_eq_true (UInt8.lt_iff_toNat_lt.1 hlt2)
                      clear hset hfu hown hbe hone hd hd2 hr hoff hrt hdr h45 hr45 hq1 hq0 h93 hone2 hr2 hoff2 hlt2
                      go_wp2_with fail
                      with_reducible refine H1.out.mono ?_
                      rintro e w3 ⟨v3, rfl, ho3, hb3⟩
                      obtain ⟨g3, cap3, rfl, hg3, hg3', hc3⟩ := ownR_head ho3 hx0
                      rw [ha1] at hc3
                      have B3 := hide (Hbe.out.trans (hb3.mono (by omega)))
                      have hsz3 := hb3.size
                      clear hb3 ho3
                      go_wp2_with fail
                      with_reducible refine (HCq.out _).mono ?_
                      rintro e w4 ⟨rfl, rfl⟩
                      go_wp2_with fail
                      with_reducible refine (HC1q.out _).mono ?_
                      rintro e w4 ⟨rfl, rfl⟩
                      go_wp2_with fail
                      with_reducible refine (H2.out _).mono ?_
                      rintro e w5 ⟨v5, rfl, ho5, hb5⟩
                      obtain ⟨g5, cap5, rfl, hg5, hg5', hc5⟩ := ownR_head ho5 hy0
                      rw [ha2] at hc5
                      have hc35 : w5.cell? ⟨g3, 0, none⟩ = some (.int .u8 (a1.toNat : Int)) := (hb5.cell (p := ⟨g3, 0, none⟩) hg3').trans hc3
                      have B5 := hide (B3.out.trans (hb5.mono (by omega)))
                      have kx : (0 : Int) < (x.length : Int) := by omega
                      have ky : (0 : Int) < (y.length : Int) := by omega
                      clear hb5 ho5 hc3
                      have hfx := HF0.out.at_ B5.out (Nat.lt_succ_self _)
                      have HFx := hide (fun j : Nat => hfx.at_ (Drawn.below ⟨j, rfl⟩ (w.heap.size + 1) : Below (w.heap.size + 1) w5 (w5.drewN j)) (Nat.lt_succ_self _))
                      clear hfx
                      have HBx := hide (fun j : Nat => (HB0.out.trans ((B5.out).mono (Nat.le_succ _))).trans (Drawn.below ⟨j, rfl⟩ w.heap.size : Below w.heap.size w5 (w5.drewN j)))
                      go_wp2
                      go_quiet (fail)
                      have hfy := HFx.out nq
                      obtain ⟨⟨-, f1, f2, f3, f4, f5⟩, f6, f7, f8, f9, f10⟩ := hfy
                      go_wp2
                      exact bodyPost_ret (res_two rfl _ _ w.heap.size _ _ _ _ _ _ rfl rfl (put5_five (HFx.out _) (.int .i64 0) (.slice none 0 0) (.int .i64 0) (.int .i64 0) (.slice none 0 0))) rfl ⟨_, by rw [HEn.out]; rfl, by rw [HEn.out]; exact rxv_zero, put5_below (HBx.out _) (Nat.le_refl _)⟩
                    · rw [if_neg hlt2] at hset
                      have hd2n : decide ((a2.toNat : Int) < (a1.toNat : Int)) = false := decide_eq_false (by rw [UInt8.lt_iff_toNat_lt] at hlt2; omega)
                      have hd2m : decide (a2.toNat < a1.toNat) = false := decide_eq_false (by rw [UInt8.lt_iff_toNat_lt] at hlt2; omega)
                      rw [hr2] at hset
                      rw [drop_len] at hfu
                      have Hset := hide hset
                      have Hfu := hide (show (s.data.toList.drop m2).length < n by rw [drop_len]; omega)
                      clear hset hfu hown hbe hone hd hd2 hr hoff hrt hdr h45 hr45 hq1 hq0 h93 hone2 hr2 hoff2 hlt2
                      go_wp2_with fail
                      with_reducible refine H1.out.mono ?_
                      rintro e w3 ⟨v3, rfl, ho3, hb3⟩
                      obtain ⟨g3, cap3, rfl, hg3, hg3', hc3⟩ := ownR_head ho3 hx0
                      rw [ha1] at hc3
                      have B3 := hide (Hbe.out.trans (hb3.mono (by omega)))
                      have O3 := hide (Hown.out.below hb3)
                      have hsz3 := hb3.size
                      clear hb3 ho3
                      go_wp2_with fail
                      with_reducible refine (HCq.out _).mono ?_
                      rintro e w4 ⟨rfl, rfl⟩
                      go_wp2_with fail
                      with_reducible refine (HC1q.out _).mono ?_
                      rintro e w4 ⟨rfl, rfl⟩
                      go_wp2_with fail
                      with_reducible refine (H2.out _).mono ?_
                      rintro e w5 ⟨v5, rfl, ho5, hb5⟩
                      obtain ⟨g5, cap5, rfl, hg5, hg5', hc5⟩ := ownR_head ho5 hy0
                      rw [ha2] at hc5
                      have hc35 : w5.cell? ⟨g3, 0, none⟩ = some (.int .u8 (a1.toNat : Int)) := (hb5.cell (p := ⟨g3, 0, none⟩) hg3').trans hc3
                      have B5 := hide (B3.out.trans (hb5.mono (by omega)))
                      have O5 := hide (O3.out.below hb5)
                      have HO := hide (show ∀ W : World, W.heap = (w5.alloc (.cells #[.int .u8 (a1.toNat : Int), .int .u8 (a2.toNat : Int)] 48)).heap → W.ownsRow (w.heap.size + 1) 48 2 u acc.length (rgCells acc) from fun W hW => own_heap8 (World.ownsRow.alloc O5.out _) hW)
                      have hsz5 := hb5.size
                      have kx : (0 : Int) < (x.length : Int) := by omega
                      have ky : (0 : Int) < (y.length : Int) := by omega
                      clear hb5 ho5 hc3
                      go_wp2
                      go_quiet (fail)
                      have hc35' : (w5.drewN nq).cell? ⟨g3, 0, none⟩ = some (.int .u8 (a1.toNat : Int)) := hc35
                      have hc5' : (w5.drewN nq).cell? ⟨g5, 0, none⟩ = some (.int .u8 (a2.toNat : Int)) := hc5
                      go_wp2_with fail
                      go_region_law ((refine step_append_lies _ (by rfl) (.tmp 89) (.tmp 99) 22 (by rfl) (w.heap.size + 1) 48 i0 _ 2 2 Tryz.underlying22 hi hz0 hz1 hz2 rfl (by omega) u acc.length (rgCells acc) (by rfl) (HO.out _ (by rfl)) ⟨w5.heap.size, 0, none⟩ 1 1 [.int .u8 (a1.toNat : Int), .int .u8 (a2.toNat : Int)] (by rfl) (by rfl) (c1_two w5 _ _ _) (by intro u' hu'; simp at hu'; rcases hu' with rfl | rfl <;> rfl) (by omega) (by unfold maxLen; omega) (by omega) (by simp; omega) (w5.heap.size + 1) (by simp) ?_; intro gg cap' w7 hown1 hgrow hat hlt7))
                      all_goals
                        have O7 := hide (show OwnR w7 (w.heap.size + 1) (.slice (some ⟨gg, 0, none⟩) (acc.length + 1) cap') (acc ++ [(a1, a2)]) by unfold OwnR; rw [List.length_append, rgCells_app]; exact hown1)
                        have B7 := hide (B5.out.trans ((((Below.refl (w.heap.size + 1) w5).alloc (by omega) (.cells #[.int .u8 (a1.toNat : Int), .int .u8 (a2.toNat : Int)] 48)).trans (Drawn.below ⟨nq + 1, rfl⟩ _)).grown hgrow (by simp; omega) fun q hq => (World.ownsRow.lt O5.out q hq).1))
                        clear hown1 hgrow
                        go_wp2
                        go_roundw
                        case rel => exact ⟨m2, n, acc ++ [(a1, a2)], rfl, hm2s, O7.out, by rw [List.length_append]; simp; omega, B7.out, Hset.out, Hfu.out⟩
                        case measure => simp [intOf]; omega
              · rw [if_neg hcond] at hset
                rw [hr] at hset
                rw [drop_len] at hfu
                have Hset := hide hset
                have Hfu := hide (show (s.data.toList.drop m1).length < n by rw [drop_len]; omega)
                cases q0 with
                | true =>
                  have hm1b : True := trivial
                  clear hset hfu hown hbe hone hd hd2 hr hoff hq0 h93 hcond hm1b
                  go_wp2_with fail
                  with_reducible refine H1.out.mono ?_
                  rintro e w3 ⟨v3, rfl, ho3, hb3⟩
                  obtain ⟨g3, cap3, rfl, hg3, hg3', -⟩ := ownR_head ho3 hx0
                  have B3 := hide (Hbe.out.trans (hb3.mono (by omega)))
                  have O3 := hide (Hown.out.below hb3)
                  have X3 := hide ho3
                  have hsz3 := hb3.size
                  clear hb3 ho3
                  go_wp2_with fail
                  with_reducible refine (HCq.out _).mono ?_
                  rintro e w4 ⟨rfl, rfl⟩
                  go_wp2_with (first
                    | (at_builtin; refine wpList_append_own _ rfl (.tmp 102) (.tmp 103) 22 rfl (w.heap.size + 1) 48 i0 _ 2 2 Tryz.underlying22 hi hz0 hz1 hz2 rfl (by decide) u acc.length (rgCells acc) rfl O3.out ⟨g3, 0, none⟩ x.length cap3 (rgCells x) rfl (rgCells_len x) (World.ownsRow.cells X3.out rfl) (rg_one x) (by unfold maxLen; omega) (by omega) (by omega) ?_; intro v7 w7 hown7 hg7 _; have O7 := hide (show OwnR w7 (w.heap.size + 1) v7 (acc ++ x) by (unfold OwnR; rw [List.length_append, rgCells_app]; exact hown7)); have B7 := hide (B3.out.trans ((Below.refl (w.heap.size + 1) w3).grown hg7 (by omega) fun q hq => (World.ownsRow.lt O3.out q hq).1)); clear hown7 hg7)
                    | fail)
                  go_roundw
                  case rel => exact ⟨m1, n, acc ++ x, rfl, hm1s, O7.out, by rw [List.length_append]; omega, B7.out, Hset.out, Hfu.out⟩
                  case measure => simp [intOf]; omega
                | false =>
                  have hr45 : ¬ r.head? = some 45 := fun h => hcond ⟨rfl, h⟩
                  by_cases hm1l : m1 < s.size
                  · have hdr := drop_cons hm1l
                    rw [← hr] at hdr
                    have hm1ii : (m1 : Int) < (s.size : Int) := by omega
                    obtain ⟨c1, hc1⟩ : ∃ c, s[m1] = c := ⟨_, rfl⟩
                    have h45 : ¬ c1 = 45 := fun h => hr45 (by rw [hdr, hc1, h]; rfl)
                    have e45 : ((c1.toNat : Int) == 45) = false := (u8_eq (n := 45) (z := 45) rfl).trans (decide_eq_false h45)
                    have hm1b : decide ((m1 : Int) < (s.size : Int)) = true := decide_eq_true hm1ii
                    clear hset hfu hown hbe hone hd hd2 hr hoff hq0 h93 hcond hr45 hdr h45
                    go_wp2_with fail
                    with_reducible refine H1.out.mono ?_
                    rintro e w3 ⟨v3, rfl, ho3, hb3⟩
                    obtain ⟨g3, cap3, rfl, hg3, hg3', -⟩ := ownR_head ho3 hx0
                    have B3 := hide (Hbe.out.trans (hb3.mono (by omega)))
                    have O3 := hide (Hown.out.below hb3)
                    have X3 := hide ho3
                    have hsz3 := hb3.size
                    clear hb3 ho3
                    go_wp2_with fail
                    with_reducible refine (HCq.out _).mono ?_
                    rintro e w4 ⟨rfl, rfl⟩
                    go_wp2_with (first
                      | (at_builtin; refine wpList_append_own _ rfl (.tmp 102) (.tmp 103) 22 rfl (w.heap.size + 1) 48 i0 _ 2 2 Tryz.underlying22 hi hz0 hz1 hz2 rfl (by decide) u acc.length (rgCells acc) rfl O3.out ⟨g3, 0, none⟩ x.length cap3 (rgCells x) rfl (rgCells_len x) (World.ownsRow.cells X3.out rfl) (rg_one x) (by unfold maxLen; omega) (by omega) (by omega) ?_; intro v7 w7 hown7 hg7 _; have O7 := hide (show OwnR w7 (w.heap.size + 1) v7 (acc ++ x) by (unfold OwnR; rw [List.length_append, rgCells_app]; exact hown7)); have B7 := hide (B3.out.trans ((Below.refl (w.heap.size + 1) w3).grown hg7 (by omega) fun q hq => (World.ownsRow.lt O3.out q hq).1)); clear hown7 hg7)
                      | fail)
                    go_roundw
                    case rel => exact ⟨m1, n, acc ++ x, rfl, hm1s, O7.out, by rw [List.length_append]; omega, B7.out, Hset.out, Hfu.out⟩
                    case measure => simp [intOf]; omega
                  · have hm1ii : ¬ (m1 : Int) < (s.size : Int) := by omega
                    have hm1b : decide ((m1 : Int) < (s.size : Int)) = false := decide_eq_false hm1ii
                    clear hset hfu hown hbe hone hd hd2 hr hoff hq0 h93 hcond hr45
                    go_wp2_with fail
                    with_reducible refine H1.out.mono ?_
                    rintro e w3 ⟨v3, rfl, ho3, hb3⟩
                    obtain ⟨g3, cap3, rfl, hg3, hg3', -⟩ := ownR_head ho3 hx0
                    have B3 := hide (Hbe.out.trans (hb3.mono (by omega)))
                    have O3 := hide (Hown.out.below hb3)
                    have X3 := hide ho3
                    have hsz3 := hb3.size
                    clear hb3 ho3
                    go_wp2_with fail
                    with_reducible refine (HCq.out _).mono ?_
                    rintro e w4 ⟨rfl, rfl⟩
                    go_wp2_with (first
                      | (at_builtin; refine wpList_append_own _ rfl (.tmp 102) (.tmp 103) 22 rfl (w.heap.size + 1) 48 i0 _ 2 2 Tryz.underlying22 hi hz0 hz1 hz2 rfl (by decide) u acc.length (rgCells acc) rfl O3.out ⟨g3, 0, none⟩ x.length cap3 (rgCells x) rfl (rgCells_len x) (World.ownsRow.cells X3.out rfl) (rg_one x) (by unfold maxLen; omega) (by omega) (by omega) ?_; intro v7 w7 hown7 hg7 _; have O7 := hide (show OwnR w7 (w.heap.size + 1) v7 (acc ++ x) by (unfold OwnR; rw [List.length_append, rgCells_app]; exact hown7)); have B7 := hide (B3.out.trans ((Below.refl (w.heap.size + 1) w3).grown hg7 (by omega) fun q hq => (World.ownsRow.lt O3.out q hq).1)); clear hown7 hg7)
                      | fail)
                    go_roundw
                    case rel => exact ⟨m1, n, acc ++ x, rfl, hm1s, O7.out, by rw [List.length_append]; omega, B7.out, Hset.out, Hfu.out⟩
                    case measure => simp [intOf]; omega
        · have hd := drop_end (s := s) (k := m) (by omega)
          rw [hd] at hset
          have hset' : E0 = none := by rw [← hset]; rfl
          have HEn := hide (show E = none by rw [HEE.out, hset']; rfl)
          have hlm : decide ((m : Int) < (s.size : Int)) = false := decide_eq_false (by omega)
          have hge : decide ((m : Int) ≥ (s.size : Int)) = true := decide_eq_true (by omega)
          have hge' : decide ((s.size : Int) ≤ (m : Int)) = true := decide_eq_true (by omega)
          clear hset hset' hfu hown hbe hd
          have hfx := HF0.out.at_ Hbe.out (Nat.lt_succ_self _)
          have HFx := hide hfx
          obtain ⟨⟨-, f1, f2, f3, f4, f5⟩, g0, g1, g2, g3, g4⟩ := hfx
          have HBx := hide (HB0.out.trans ((Hbe.out).mono (Nat.le_succ _)))
          go_wp2
          exact bodyPost_ret (res_two rfl _ _ w.heap.size _ _ _ _ _ _ rfl rfl (put5_five HFx.out (.int .i64 0) (.slice none 0 0) (.int .i64 0) (.int .i64 0) (.slice none 0 0))) rfl ⟨_, by rw [HEn.out]; rfl, by rw [HEn.out]; exact rxv_zero, put5_below HBx.out (Nat.le_refl _)⟩
end Go.Proofs.YtmiegjefmebpdaaGreatDoor
