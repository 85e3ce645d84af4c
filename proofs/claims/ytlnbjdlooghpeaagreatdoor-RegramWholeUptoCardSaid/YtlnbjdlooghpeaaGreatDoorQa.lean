/- Layer 10: walks of the reference: Size, Nodes, Same, right, Right, holds, Eval. -/
import Derived.Test.YtlnbjdlooghpeaaGreatDoorGk
import Derived.Test.YtlnbjdlooghpeaaGreatDoorMn
import Derived.Test.YtlnbjdlooghpeaaGreatDoorNm
import Derived.Deep.RegionHeld3
import Derived.BigQuiet
namespace Go.Proofs.YtlnbjdlooghpeaaGreatDoor
open Go.RowKit

theorem weightL_len (l : List Rx) : l.length ≤ weightL l := by
  induction l with
  | nil => simp
  | cons x l ih => rw [weightL, List.length_cons]; have : 1 ≤ weightR x := (by cases x; rw [weightR]; omega); omega
theorem weightL_mem {l : List Rx} {x : Rx} (h : x ∈ l) : weightR x ≤ weightL l := by
  induction l with
  | nil => simp at h
  | cons y l ih =>
    rw [weightL]
    rcases List.mem_cons.1 h with rfl | h
    · omega
    · have := ih h; omega
theorem drop_at {α : Type} {l : List α} {i : Nat} {x : α} (h : l[i]? = some x) : l.drop i = x :: l.drop (i + 1) := by
  obtain ⟨h1, e⟩ := List.getElem?_eq_some_iff.1 h
  rw [List.drop_eq_getElem_cons h1, e]

set_option maxRecDepth 100000 in
set_option maxHeartbeats 6400000 in
theorem rsize : ∀ (r : Rx) (W : World) (ok : Nat → Prop) (v : Value) (L : Nat), RxV W ok v r → weightR r ≤ 2000000 → L ≤ 1000 → Calls Tryz.prog 7 #[v, .int .i64 (L : Int)] W fun e w' => e = .returned (.int .i64 (szR L r : Nat)) ∧ Below W.heap.size W w' := by
  intro r
  induction r using Rx.ind with
  | h k s a b l ih =>
    intro W ok v L hv hw hL
    cases hv with
    | mk _ _ _ A B n c m d _ vs _ hset hvs hlen hk ha hb hr =>
    have hnc := hset.1
    have hcc := hset.2.1
    have hsl := hset.2.2.1
    have hmd := hvs.1
    have hdd := hvs.2.1
    have Hvs := hide hvs
    have Hlen := hide hlen
    have Hr := hide hr
    have hB := bnew (Below.refl _ W) (.cells #[.int .i64 k, .slice A n c, .int .i64 a, .int .i64 b, .slice B m d] 25)
    have BB := hide hB
    have F := hide (five_new W (.int .i64 k) (.slice A n c) (.int .i64 a) (.int .i64 b) (.slice B m d) 25)
    have hwt : 1 + s.length + weightL l ≤ 2000000 := by rw [weightR] at hw; exact hw
    have hn2 : n ≤ 2000000 := by omega
    have hL2 : (L : Int) ≤ 1000 := by omega
    have hml : m ≤ 2000000 := by have := weightL_len l; omega
    obtain ⟨RES, hRES⟩ : ∃ RES, szR L (.mk k s a b l) = RES := ⟨_, rfl⟩
    have Hst := hide (show szL L (1 + n) l = RES by rw [← hRES, szR, hsl])
    have hRb : RES ≤ 2000000 := by rw [← hRES]; have := (sz_ok (.mk k s a b l) L).2; omega
    have Hw := hide (show ∀ x ∈ l, weightR x ≤ 2000000 from fun x hx => by have := weightL_mem hx; omega)
    rw [hRES]
    clear hset hvs hr hB hlen hw hwt hsl hRES
    go_enter Tryz.func7, Tryz.ntmps7
    go_wp2
    go_loopw [5, 6] (fun y x wr => ∃ (i z : Nat), i ≤ m ∧ x = .int .i64 (i : Int) ∧ y = .int .i64 (z : Int) ∧ szL L z (l.drop i) = RES ∧ Below (W.alloc (.cells #[.int .i64 k, .slice A n c, .int .i64 a, .int .i64 b, .slice B m d] 25)).heap.size (W.alloc (.cells #[.int .i64 k, .slice A n c, .int .i64 a, .int .i64 b, .slice B m d] 25)) wr) (fun _ x _ => m - (intOf x).toNat)
    case atStart => exact ⟨0, 1 + n, Nat.zero_le _, rfl, by go_num, by rw [List.drop_zero]; exact Hst.out, Below.refl _ _⟩
    case round =>
      obtain ⟨i, z, hi, rfl, rfl, hz, hbel⟩ := hrel
      obtain ⟨w3, hw3⟩ : ∃ w3, w3 = wr := ⟨wr, rfl⟩
      subst hw3
      obtain ⟨_, t0, t1, t2, t3, t4⟩ := F.out.keep hbel
      have B3 := hide hbel
      have B4 := hide (bgo BB.out hbel)
      have hzb : z ≤ 2000000 := by have := szL_ge (l.drop i) z (L := L); omega
      have hib : (i : Int) ≤ 2000000 := by omega
      have Hz := hide hz
      clear hz hbel
      by_cases hlt : i < m
      · have hlt' : (i : Int) < (m : Int) := by omega
        by_cases hzL : z ≤ L
        · have hzL' : (z : Int) ≤ (L : Int) := by omega
          obtain ⟨g, o, c0, c1, c2, c3, c4, rfl, hx, x0, x1, x2, x3, x4⟩ := (Hvs.out.below B4.out).at_ hlt
          have hil : i < l.length := by rw [Hlen.out]; exact hlt
          have hxl := List.getElem?_eq_getElem hil
          have rx := Hr.out i _ _ hx hxl
          obtain ⟨x, hxe⟩ : ∃ x, l[i] = x := ⟨_, rfl⟩
          rw [hxe] at hxl rx
          have hmem : x ∈ l := List.mem_of_getElem? hxl
          obtain ⟨M, hM⟩ : ∃ M, L - z = M := ⟨_, rfl⟩
          have hMi : (L : Int) - (z : Int) = (M : Int) := by omega
          obtain ⟨y, hy⟩ : ∃ y, szR M x = y := ⟨_, rfl⟩
          have hyb : y ≤ 2000000 := by have h1 := (sz_ok x M).2; have h2 := Hw.out x hmem; omega
          have HC := hide (ih x hmem w3 ok _ M (rx.kept B4.out) (Hw.out x hmem) (by omega))
          rw [hy] at HC
          have Hn := hide (show szL L (z + y) (l.drop (i + 1)) = RES by rw [← Hz.out, drop_at hxl, szL, if_pos hzL, hM, hy])
          clear hx hxl rx hxe hmem hy hM
          go_wp2_with fail
          with_reducible refine HC.out.mono ?_
          rintro e w4 ⟨rfl, hb4⟩
          have B6 := hide (B3.out.trans (hb4.mono B3.out.size))
          clear hb4
          go_wp2
          go_roundw
          case rel => exact ⟨i + 1, z + y, by omega, by go_num, by go_num, Hn.out, B6.out⟩
          case measure => simp [intOf]; omega
        · have hzL' : ¬ (z : Int) ≤ (L : Int) := by omega
          have Hn := hide (show (z : Int) = (RES : Int) by rw [← Hz.out, szL_stop (by omega)])
          go_wp2
          go_ret
          exact ⟨ret_int Hn.out, B4.out⟩
      · have hlt' : ¬ (i : Int) < (m : Int) := by omega
        have Hn := hide (show (z : Int) = (RES : Int) by rw [← Hz.out, List.drop_of_length_le (by rw [Hlen.out]; omega), szL])
        go_wp2
        go_ret
        exact ⟨ret_int Hn.out, B4.out⟩

theorem nd_next {a b : List Nd} {k : Nat} (h : a.take k = b.take k) {x y : Nd} (hx : a[k]? = some x) (hy : b[k]? = some y) (e : x = y) : a.take (k + 1) = b.take (k + 1) := by
  rw [takeN hx, takeN hy, h, e]
set_option maxRecDepth 100000 in
set_option maxHeartbeats 6400000 in
theorem rsame : ∀ (r : Nd) (W : World) (ok ok' : Nat → Prop) (v v' : Value) (r' : Nd), NdV W ok v r → NdV W ok' v' r' → ∀ q : Bool, (q = true ↔ r = r') →
    Calls Tryz.prog 26 #[v, v'] W fun e w' => e = .returned (.bool q) ∧ Below W.heap.size W w' := by
  intro r
  induction r using Nd.ind with
  | h k g l ih =>
    intro W ok ok' v v' r' hv hv' q hq
    cases hv with
    | mk _ _ B m d vs _ hvs hlen hk hg hr =>
    cases hv' with
    | mk k' g' B' m' d' vs' l' hvs' hlen' hk' hg' hr' =>
    have Hno := hide (show (¬ k = k' ∨ ¬ g = g' ∨ ¬ l = l') → q = false from fun h => by
      cases q with
      | false => rfl
      | true =>
        have e := hq.1 rfl
        injection e with e1 e2 e3
        rcases h with h | h | h
        · exact absurd e1 h
        · exact absurd e2 h
        · exact absurd e3 h)
    have Hyes := hide (show k = k' → g = g' → l = l' → q = true from fun h1 h2 h3 => hq.2 (by rw [h1, h2, h3]))
    have hmd := hvs.1
    have hdd := hvs.2.1
    have hmd' := hvs'.1
    have hdd' := hvs'.2.1
    have Hvs := hide hvs
    have Hvs' := hide hvs'
    have Hlen := hide hlen
    have Hlen' := hide hlen'
    have Hr := hide hr
    have Hr' := hide hr'
    have hB2 := bnew (bnew (Below.refl _ W) (.cells #[.int .i64 k, .int .i64 g, .slice B m d] 32)) (.cells #[.int .i64 k', .int .i64 g', .slice B' m' d'] 32)
    have BB := hide hB2
    have f1 := (tri3_new W (.int .i64 k) (.int .i64 g) (.slice B m d) 32).keep (bnew (Below.refl _ _) (.cells #[.int .i64 k', .int .i64 g', .slice B' m' d'] 32))
    have f2 := tri3_new (W.alloc (.cells #[.int .i64 k, .int .i64 g, .slice B m d] 32)) (.int .i64 k') (.int .i64 g') (.slice B' m' d') 32
    rw [show (W.alloc (.cells #[.int .i64 k, .int .i64 g, .slice B m d] 32)).heap.size = W.heap.size + 1 by simp] at f2
    have F1 := hide f1
    have F2 := hide f2
    clear hvs hvs' hr hr' hB2 f1 f2 hq
    by_cases ek : k = k'
    · have qk := int_eq ek
      by_cases eg : g = g'
      · have qg := int_eq eg
        by_cases em : m = m'
        · have qm : ((m : Int) != (m' : Int)) = false := int_eq (by omega)
          have Hfin := hide (Hyes.out ek eg)
          have Hbad := hide (show ¬ l = l' → q = false from fun h => Hno.out (Or.inr (Or.inr h)))
          have hmm : m' ≤ m := by omega
          have hmm2 : m ≤ m' := by omega
          obtain ⟨_, t0, t1, t2⟩ := F1.out
          obtain ⟨_, y0, y1, y2⟩ := F2.out
          clear ek eg em
          go_enter Tryz.func26, Tryz.ntmps26
          go_wp2
          obtain ⟨w2, hw2⟩ : ∃ w2, (W.alloc (.cells #[.int .i64 k, .int .i64 g, .slice B m d] 32)).alloc (.cells #[.int .i64 k', .int .i64 g', .slice B' m' d'] 32) = w2 := ⟨_, rfl⟩
          have G1 := hide F1.out
          have G2 := hide F2.out
          have B2 := hide BB.out
          rw [hw2] at G1 G2 B2 ⊢
          clear hw2 t0 t1 t2 y0 y1 y2 F1 F2 BB
          go_loopw [5] (fun x wr => ∃ i : Nat, i ≤ m ∧ x = .int .i64 (i : Int) ∧ l.take i = l'.take i ∧ Below w2.heap.size w2 wr) (fun x _ => m - (intOf x).toNat)
          case atStart => exact ⟨0, Nat.zero_le _, rfl, rfl, Below.refl _ _⟩
          case round =>
            obtain ⟨i, hi, rfl, hm, hbel⟩ := hrel
            obtain ⟨w3, hw3⟩ : ∃ w3, w3 = wr := ⟨wr, rfl⟩
            subst hw3
            obtain ⟨_, t0, t1, t2⟩ := G1.out.keep hbel
            obtain ⟨_, y0, y1, y2⟩ := G2.out.keep hbel
            have Hm := hide hm
            have B3 := hide hbel
            have B4 := hide (B2.out.trans (hbel.mono B2.out.size))
            clear hm
            by_cases hlt : i < m
            · obtain ⟨gb, o, c0, c1, c2, rfl, hx, x0, x1, x2⟩ := (Hvs.out.below B4.out).at_ hlt
              obtain ⟨gb', o', e0, e1, e2, rfl, hy, z0, z1, z2⟩ := (Hvs'.out.below B4.out).at_ (show i < m' by omega)
              have hil : i < l.length := by rw [Hlen.out]; exact hlt
              have hxl := List.getElem?_eq_getElem hil
              have hil' : i < l'.length := by rw [Hlen'.out]; omega
              have hyl := List.getElem?_eq_getElem hil'
              have rx := Hr.out i _ _ hx hxl
              have ry := Hr'.out i _ _ hy hyl
              obtain ⟨x, hxe⟩ : ∃ x, l[i] = x := ⟨_, rfl⟩
              obtain ⟨y, hye⟩ : ∃ y, l'[i] = y := ⟨_, rfl⟩
              rw [hxe] at hxl rx
              rw [hye] at hyl ry
              have hmem : x ∈ l := List.mem_of_getElem? hxl
              have hbd : Below W.heap.size W w3.drew := B4.out.trans ((bel_drew w3).mono B4.out.size)
              have HI := hide (ih x hmem w3.drew ok ok' _ _ y (rx.kept hbd) (ry.kept hbd))
              have him : (i : Int) < (m : Int) := by omega
              have him' : (i : Int) < (m' : Int) := by omega
              cases hs : sameN x y with
              | true =>
                have Hn := hide (nd_next Hm.out hxl hyl ((sameN_iff x y).1 hs))
                have HC := hide (HI.out true (by rw [← sameN_iff, hs]))
                clear hs hxe hye hx hy hxl hyl rx ry hmem hbd HI hbel
                go_wp2
                go_still_tail 10, (by kernel_rfl)
                change wpList _ _ _ _ _ w3.drew
                go_wp2_with fail
                with_reducible refine HC.out.mono ?_
                rintro e w4 ⟨rfl, hb4⟩
                have B5 := hide (B3.out.trans ((bel_drew w3).mono B3.out.size))
                have B6 := hide (B5.out.trans (hb4.mono B5.out.size))
                clear hb4
                go_wp2
                go_roundw
                case rel => exact ⟨i + 1, by omega, by go_num, Hn.out, B6.out⟩
                case measure => simp [intOf]; omega
              | false =>
                have hne : ¬ x = y := fun e => by rw [(sameN_iff x y).2 e] at hs; cases hs
                have Hn := hide (Hbad.out fun e => hne (by
                  rw [e, hyl] at hxl
                  exact (Option.some.inj hxl).symm))
                have HC := hide (HI.out false (by rw [← sameN_iff, hs]))
                clear hs hxe hye hx hy hxl hyl rx ry hmem hbd HI hbel hne
                go_wp2
                go_still_tail 10, (by kernel_rfl)
                change wpList _ _ _ _ _ w3.drew
                go_wp2_with fail
                with_reducible refine HC.out.mono ?_
                rintro e w4 ⟨rfl, hb4⟩
                have B5 := hide (B4.out.trans ((bel_drew w3).mono B4.out.size))
                have B6 := hide (B5.out.trans (hb4.mono B5.out.size))
                clear hb4
                go_wp2
                go_ret
                exact ⟨ret_bool Hn.out.symm, B6.out⟩
            · have hall := Hm.out
              rw [List.take_of_length_le (by rw [Hlen.out]; omega), List.take_of_length_le (by rw [Hlen'.out]; omega)] at hall
              have Hn := hide (Hfin.out hall)
              clear hall hbel
              go_wp2
              go_ret
              exact ⟨ret_bool Hn.out.symm, B4.out⟩
        · have qm : ((m : Int) != (m' : Int)) = true := int_ne (by omega)
          have Hn := hide (Hno.out (Or.inr (Or.inr fun e => em (by rw [← hlen, ← hlen', e]))))
          obtain ⟨_, t0, t1, t2⟩ := F1.out
          obtain ⟨_, y0, y1, y2⟩ := F2.out
          clear ek eg em
          go_enter Tryz.func26, Tryz.ntmps26
          go_wp2
          go_ret
          exact ⟨ret_bool Hn.out.symm, BB.out⟩
      · have qg := int_ne eg
        have Hn := hide (Hno.out (Or.inr (Or.inl eg)))
        obtain ⟨_, t0, t1, t2⟩ := F1.out
        obtain ⟨_, y0, y1, y2⟩ := F2.out
        clear ek eg
        go_enter Tryz.func26, Tryz.ntmps26
        go_wp2
        go_ret
        exact ⟨ret_bool Hn.out.symm, BB.out⟩
    · have qk := int_ne ek
      have Hn := hide (Hno.out (Or.inl ek))
      obtain ⟨_, t0, t1, t2⟩ := F1.out
      obtain ⟨_, y0, y1, y2⟩ := F2.out
      clear ek
      go_enter Tryz.func26, Tryz.ntmps26
      go_wp2
      go_ret
      exact ⟨ret_bool Hn.out.symm, BB.out⟩

end Go.Proofs.YtlnbjdlooghpeaaGreatDoor
