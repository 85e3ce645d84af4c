/- Walks of layer 8's reference: Same. -/
import Derived.Test.YtmiegjefmebpdaaGreatDoorK1
import Derived.StillTailTactics
namespace Go.Proofs.YtmiegjefmebpdaaGreatDoor
open Go.RowKit

theorem rx_next {a b : List Rx} {k : Nat} (h : a.take k = b.take k) {x y : Rx} (hx : a[k]? = some x) (hy : b[k]? = some y) (e : x = y) : a.take (k + 1) = b.take (k + 1) := by
  obtain ⟨h1, e1⟩ := List.getElem?_eq_some_iff.1 hx
  obtain ⟨h2, e2⟩ := List.getElem?_eq_some_iff.1 hy
  rw [List.take_succ_eq_append_getElem h1, List.take_succ_eq_append_getElem h2, h, e1, e2, e]
theorem DrawnBel {w w' : World} (h : Drawn w w') : Below w.heap.size w w' := h.below _
theorem bel_drew (w : World) : Below w.heap.size w w.drew := ⟨rfl, rfl, rfl, Nat.le_refl _, fun _ _ => rfl⟩
theorem int_ne {a b : Int} (h : a ≠ b) : (a != b) = true := by rw [bne_iff_ne]; exact h
theorem int_eq {a b : Int} (h : a = b) : (a != b) = false := by rw [h]; simp

set_option maxRecDepth 100000 in
set_option maxHeartbeats 6400000 in
theorem same15 : ∀ (r : Rx) (W : World) (ok ok' : Nat → Prop) (v v' : Value) (r' : Rx), RxV W ok v r → RxV W ok' v' r' → ∀ q : Bool, (q = true ↔ r = r') →
    Calls Tryz.prog 15 #[v, v'] W fun e w' => e = .returned (.bool q) ∧ Below W.heap.size W w' := by
  intro r
  induction r using Rx.ind with
  | h k s a b l ih =>
    intro W ok ok' v v' r' hv hv' q hq
    cases hv with
    | mk _ _ _ A B n c m d _ vs _ hset hvs hlen hk ha hb hr =>
    cases hv' with
    | mk k' a' b' A' B' n' c' m' d' s' vs' l' hset' hvs' hlen' hk' ha' hb' hr' =>
    have Hno := hide (show (¬ k = k' ∨ ¬ a = a' ∨ ¬ b = b' ∨ ¬ s = s' ∨ ¬ l = l') → q = false from fun h => by
      cases q with
      | false => rfl
      | true =>
        have e := hq.1 rfl
        injection e with e1 e2 e3 e4 e5
        rcases h with h | h | h | h | h
        · exact absurd e1 h
        · exact absurd e3 h
        · exact absurd e4 h
        · exact absurd e2 h
        · exact absurd e5 h)
    have Hyes := hide (show k = k' → a = a' → b = b' → s = s' → l = l' → q = true from fun h1 h2 h3 h4 h5 => hq.2 (by rw [h1, h2, h3, h4, h5]))
    have hnc := hset.1
    have hcc := hset.2.1
    have hnc' := hset'.1
    have hcc' := hset'.2.1
    have hmd := hvs.1
    have hdd := hvs.2.1
    have hmd' := hvs'.1
    have hdd' := hvs'.2.1
    have Hvs := hide hvs
    have Hvs' := hide hvs'
    have Hlen := hide hlen
    have Hlen' := hide hlen'
    have Hr := hide hr
    have Hr' := hide hr'
    have hB2 := bnew (bnew (Below.refl _ W) (.cells #[.int .i64 k, .slice A n c, .int .i64 a, .int .i64 b, .slice B m d] 25)) (.cells #[.int .i64 k', .slice A' n' c', .int .i64 a', .int .i64 b', .slice B' m' d'] 25)
    have S := hide (hset.below hB2)
    have S' := hide (hset'.below hB2)
    have BB := hide hB2
    have f1 := (five_new W (.int .i64 k) (.slice A n c) (.int .i64 a) (.int .i64 b) (.slice B m d) 25).keep (bnew (Below.refl _ _) (.cells #[.int .i64 k', .slice A' n' c', .int .i64 a', .int .i64 b', .slice B' m' d'] 25))
    have f2 := five_new (W.alloc (.cells #[.int .i64 k, .slice A n c, .int .i64 a, .int .i64 b, .slice B m d] 25)) (.int .i64 k') (.slice A' n' c') (.int .i64 a') (.int .i64 b') (.slice B' m' d') 25
    rw [show (W.alloc (.cells #[.int .i64 k, .slice A n c, .int .i64 a, .int .i64 b, .slice B m d] 25)).heap.size = W.heap.size + 1 by simp] at f2
    have F1 := hide f1
    have F2 := hide f2
    clear hset hset' hvs hvs' hr hr' hB2 f1 f2 hq
    by_cases ek : k = k'
    · have qk := int_eq ek
      by_cases ea : a = a'
      · have qa := int_eq ea
        by_cases eb : b = b'
        · have qb := int_eq eb
          by_cases es : s = s'
          · have Hes := hide (decide_eq_true es)
            by_cases em : m = m'
            · have qm : ((m : Int) != (m' : Int)) = false := int_eq (by omega)
              have Hfin := hide (Hyes.out ek ea eb es)
              have Hbad := hide (show ¬ l = l' → q = false from fun h => Hno.out (Or.inr (Or.inr (Or.inr (Or.inr h)))))
              have hmm : m' ≤ m := by omega
              have hmm2 : m ≤ m' := by omega
              clear ek ea eb es em
              go_enter Tryz.func15, Tryz.ntmps15
              go_wp2_with fail
              with_reducible refine (sameset38 S.out S'.out true Hes.out).mono ?_
              rintro e w2 ⟨rfl, hd⟩
              have hb2 := DrawnBel hd
              have B2 := hide (bgo BB.out hb2)
              have g1 := F1.out.keep hb2
              have g2 := F2.out.keep hb2
              have G1 := hide g1
              have G2 := hide g2
              obtain ⟨_, t0, t1, t2, t3, t4⟩ := g1
              obtain ⟨_, y0, y1, y2, y3, y4⟩ := g2
              clear hd hb2 F1 F2 S S' BB
              go_wp2
              clear t0 t1 t2 t3 t4 y0 y1 y2 y3 y4
              go_loopw [5] (fun x wr => ∃ i : Nat, i ≤ m ∧ x = .int .i64 (i : Int) ∧ l.take i = l'.take i ∧ Below w2.heap.size w2 wr) (fun x _ => m - (intOf x).toNat)
              case atStart => exact ⟨0, Nat.zero_le _, rfl, rfl, Below.refl _ _⟩
              case round =>
                obtain ⟨i, hi, rfl, hm, hbel⟩ := hrel
                obtain ⟨w3, hw3⟩ : ∃ w3, w3 = wr := ⟨wr, rfl⟩
                subst hw3
                obtain ⟨_, t0, t1, t2, t3, t4⟩ := G1.out.keep hbel
                obtain ⟨_, y0, y1, y2, y3, y4⟩ := G2.out.keep hbel
                have Hm := hide hm
                have B3 := hide hbel
                have B4 := hide (B2.out.trans (hbel.mono B2.out.size))
                clear hm
                by_cases hlt : i < m
                · obtain ⟨g, o, c0, c1, c2, c3, c4, rfl, hx, x0, x1, x2, x3, x4⟩ := (Hvs.out.below B4.out).at_ hlt
                  obtain ⟨g', o', e0, e1, e2, e3, e4, rfl, hy, z0, z1, z2, z3, z4⟩ := (Hvs'.out.below B4.out).at_ (show i < m' by omega)
                  have hil : i < l.length := by rw [Hlen.out]; exact hlt
                  have hil' : i < l'.length := by rw [Hlen'.out]; omega
                  have hxl := List.getElem?_eq_getElem hil
                  have hyl := List.getElem?_eq_getElem hil'
                  have rx := Hr.out i _ _ hx hxl
                  have ry := Hr'.out i _ _ hy hyl
                  obtain ⟨x, hxe⟩ : ∃ x, l[i] = x := ⟨_, rfl⟩
                  obtain ⟨y, hye⟩ : ∃ y, l'[i] = y := ⟨_, rfl⟩
                  rw [hxe] at hxl rx
                  rw [hye] at hyl ry
                  have hmem : x ∈ l := List.mem_of_getElem? hxl
                  have hbd : Below W.heap.size W w3.drew := B4.out.trans ((bel_drew w3).mono B4.out.size)
                  have HI := hide (ih x hmem w3.drew ok ok' _ _ y (rx.kept hbd) (ry.kept hbd))
                  have him : (i : Int) < (m : Int) := by omega
                  have him' : (i : Int) < (m' : Int) := by omega
                  cases hs : sameR x y with
                  | true =>
                    have Hn := hide (rx_next Hm.out hxl hyl ((same_iff x y).1 hs))
                    have HC := hide (HI.out true (by rw [← same_iff, hs]))
                    clear hs hxe hye hx hy hxl hyl rx ry hmem hbd HI hbel
                    go_wp2
                    go_still_tail 10, (by kernel_rfl)
                    change wpList _ _ _ _ _ w3.drew
                    go_wp2_with fail
                    with_reducible refine HC.out.mono ?_
                    rintro e w4 ⟨rfl, hb4⟩
                    have B5 := hide (B3.out.trans ((bel_drew w3).mono B3.out.size))
                    have B6 := hide (B5.out.trans (hb4.mono B5.out.size))
                    clear hb4
                    go_wp2
                    go_roundw
                    case rel => exact ⟨i + 1, by omega, by go_num, Hn.out, B6.out⟩
                    case measure => simp [intOf]; omega
                  | false =>
                    have hne : ¬ x = y := fun e => by rw [(same_iff x y).2 e] at hs; cases hs
                    have Hn := hide (Hbad.out fun e => hne (by
                      rw [e, hyl] at hxl
                      exact (Option.some.inj hxl).symm))
                    have HC := hide (HI.out false (by rw [← same_iff, hs]))
                    clear hs hxe hye hx hy hxl hyl rx ry hmem hbd HI hbel hne
                    go_wp2
                    go_still_tail 10, (by kernel_rfl)
                    change wpList _ _ _ _ _ w3.drew
                    go_wp2_with fail
                    with_reducible refine HC.out.mono ?_
                    rintro e w4 ⟨rfl, hb4⟩
                    have B5 := hide (B4.out.trans ((bel_drew w3).mono B4.out.size))
                    have B6 := hide (B5.out.trans (hb4.mono B5.out.size))
                    clear hb4
                    go_wp2
                    go_ret
                    exact ⟨ret_bool Hn.out.symm, B6.out⟩
                · have hall := Hm.out
                  rw [List.take_of_length_le (by rw [Hlen.out]; omega), List.take_of_length_le (by rw [Hlen'.out]; omega)] at hall
                  have Hn := hide (Hfin.out hall)
                  clear hall hbel
                  go_wp2
                  go_ret
                  exact ⟨ret_bool Hn.out.symm, B4.out⟩
            · have qm : ((m : Int) != (m' : Int)) = true := int_ne (by omega)
              have Hn := hide (Hno.out (Or.inr (Or.inr (Or.inr (Or.inr fun e => em (by rw [← hlen, ← hlen', e]))))))
              clear ek ea eb es em
              go_enter Tryz.func15, Tryz.ntmps15
              go_wp2_with fail
              with_reducible refine (sameset38 S.out S'.out true Hes.out).mono ?_
              rintro e w2 ⟨rfl, hd⟩
              have hb2 := DrawnBel hd
              have B2 := hide (bgo BB.out hb2)
              obtain ⟨_, t0, t1, t2, t3, t4⟩ := F1.out.keep hb2
              obtain ⟨_, y0, y1, y2, y3, y4⟩ := F2.out.keep hb2
              clear hd hb2 F1 F2 S S' BB
              go_wp2
              go_ret
              exact ⟨ret_bool Hn.out.symm, B2.out⟩
          · have Hes := hide (decide_eq_false es)
            have Hn := hide (Hno.out (Or.inr (Or.inr (Or.inr (Or.inl es)))))
            clear ek ea eb es
            go_enter Tryz.func15, Tryz.ntmps15
            go_wp2_with fail
            with_reducible refine (sameset38 S.out S'.out false Hes.out).mono ?_
            rintro e w2 ⟨rfl, hd⟩
            have hb2 := DrawnBel hd
            have B2 := hide (bgo BB.out hb2)
            clear hd hb2 F1 F2 S S' BB
            go_wp2
            go_ret
            exact ⟨ret_bool Hn.out.symm, B2.out⟩
        · have qb := int_ne eb
          have Hn := hide (Hno.out (Or.inr (Or.inr (Or.inl eb))))
          clear ek ea eb
          go_enter Tryz.func15, Tryz.ntmps15
          go_wp2_with fail
          go_ret
          exact ⟨ret_bool Hn.out.symm, BB.out⟩
      · have qa := int_ne ea
        have Hn := hide (Hno.out (Or.inr (Or.inl ea)))
        clear ek ea
        go_enter Tryz.func15, Tryz.ntmps15
        go_wp2_with fail
        go_ret
        exact ⟨ret_bool Hn.out.symm, BB.out⟩
    · have qk := int_ne ek
      have Hn := hide (Hno.out (Or.inl ek))
      clear ek
      go_enter Tryz.func15, Tryz.ntmps15
      go_wp2_with fail
      go_ret
      exact ⟨ret_bool Hn.out.symm, BB.out⟩

end Go.Proofs.YtmiegjefmebpdaaGreatDoor
