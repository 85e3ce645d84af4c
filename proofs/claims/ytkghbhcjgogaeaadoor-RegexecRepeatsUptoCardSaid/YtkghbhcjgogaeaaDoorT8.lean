/- Layer 9: law 8 (Repeats) over the contracts. -/
import Derived.Test.YtkghbhcjgogaeaaDoorGv
import Derived.Test.YtkghbhcjgogaeaaDoorTC
import Derived.Test.YtkghbhcjgogaeaaDoorU2
import Derived.Test.YtkghbhcjgogaeaaDoorT7
import Derived.BigQuiet
import Derived.Deep.Cut
import Derived.Deep.DeepCutAuto
import Derived.Deep.RegionHeld3
import Derived.IntWalk
namespace Go.Proofs.YtkghbhcjgogaeaaDoor
open Go.RowKit

/-- Block b holds three cells. -/
def Thr (w : World) (b : Nat) (x y z : Value) : Prop := b < w.heap.size ∧ w.cell? ⟨b, 0, none⟩ = some x ∧ w.cell? ⟨b, 1, none⟩ = some y ∧ w.cell? ⟨b, 2, none⟩ = some z
theorem Thr.keep {w w' : World} {b : Nat} {x y z : Value} (h : Thr w b x y z) (hb : Below w.heap.size w w') : Thr w' b x y z :=
  ⟨Nat.lt_of_lt_of_le h.1 hb.size, (hb.cell (p := ⟨b, 0, none⟩) h.1).trans h.2.1, (hb.cell (p := ⟨b, 1, none⟩) h.1).trans h.2.2.1, (hb.cell (p := ⟨b, 2, none⟩) h.1).trans h.2.2.2⟩
theorem thr_new (w : World) (x y z : Value) (T : TypeId) : Thr (w.alloc (.cells #[x, y, z] T)) w.heap.size x y z := by
  refine ⟨by simp, ?_, ?_, ?_⟩ <;> (rw [World.cell?_alloc_mark]; rfl)

/-- Between the rounds: what was gathered, and the ends of n copies. -/
def R8 (xl wr : World) (r : Rx) (s : List UInt8) (at_ least : Int) (n : Nat) (lv av : Value) : Prop :=
  Below xl.heap.size xl wr ∧ Own wr xl.heap.size 3 av (numCells (natI (AL r s at_ least n))) ∧ ∃ A c, lv = .slice A (LL r s at_ n).length c ∧ Lies wr av A (LL r s at_ n).length c (numCells (natI (LL r s at_ n)))
/-- Fresh ints, above an older world's memory. -/
theorem grew_new {w w' : World} {l : List Int} {e : Ending} {N H : Nat} (h : GrewI w l e w') (hH : H ≤ w.heap.size) (hN : l.length = N) : ∃ A c, e = .returned (.slice A N c) ∧ Sl w' A N c (numCells l) ∧ (∀ ad, A = some ad → H ≤ ad.block) ∧ Below w.heap.size w w' := by
  subst hN
  obtain ⟨v, rfl, ho, hb⟩ := h
  obtain ⟨A, m, c, rfl, rfl, hs⟩ := ho.slI
  exact ⟨A, c, rfl, hs, fun ad e => Nat.le_trans hH (by subst e; exact (ho.lt ad.block rfl).1), hb⟩
theorem nxt_add_len {r : Rx} (h0 : rightR r = 0) (s : List UInt8) (L : List Nat) (q k : Nat) : (addAll (nxt r s L) ((endsA r s (q : Int)).take k)).length ≤ s.length + 1 := by
  refine nodup_le _ s.length (addAll_nodup _ (nxt_nodup r s L)) fun y hy => ?_
  have key : ∀ (q : Nat), y ∈ endsA r s (q : Int) → y ≤ s.length := fun q h => by
    obtain ⟨k1, k2, k3⟩ := (endsA_mem h0 s (q : Int) y).1 h
    have := mt_le r s _ y (by omega) k3
    omega
  rcases (addAll_mem _ _ y).1 hy with hy | hy
  · obtain ⟨q', -, hy⟩ := (nxt_mem r s L y).1 hy
    exact key q' hy
  · exact key q (List.mem_of_mem_take hy)
set_option maxRecDepth 100000 in
set_option maxHeartbeats 12800000 in
theorem law8 (A : AliveC) {ok : Nat → Prop} {v : Value} {r : Rx} (s : ByteArray) (hs : s.size ≤ 9223372036854775807) (hsz : sizeR r ≤ 900000) (hd : depthR r ≤ 900000) (at_ least most : Int) (wt : -9223372036854775808 ≤ at_ ∧ at_ ≤ 9223372036854775807)
    (wl : -9223372036854775808 ≤ least ∧ least ≤ 9223372036854775807) (wm : -9223372036854775808 ≤ most ∧ most ≤ 9223372036854775807) (w : World) (hv : RxV w ok v r) (hT : HasT w) :
    Calls Tryd.prog 8 #[v, .string s, .agg #[.int .i64 at_, .int .i64 least, .int .i64 most]] w fun e w' => e = .returned (.bool true) ∧ Below w.heap.size w w' := by
  obtain ⟨qa, ya, za, Aa, Da, na, ca, ma, da, rfl⟩ := rxv_shape hv
  have hb1 := bnew (Below.refl _ w) (.cells #[.int .i64 qa, .slice Aa na ca, .int .i64 ya, .int .i64 za, .slice Da ma da] 25)
  have hb2 := bnew hb1 (.cells #[.int .i64 at_, .int .i64 least, .int .i64 most] 45)
  have HA := hide (A _ (hT.below hb2))
  have Ta := hide (hT.below hb2)
  have Ra := hide (hv.any.kept hb2)
  have Fa := hide ((five_new w (.int .i64 qa) (.slice Aa na ca) (.int .i64 ya) (.int .i64 za) (.slice Da ma da) 25).keep (bnew (Below.refl _ _) (.cells #[.int .i64 at_, .int .i64 least, .int .i64 most] 45)))
  have hth := thr_new (w.alloc (.cells #[.int .i64 qa, .slice Aa na ca, .int .i64 ya, .int .i64 za, .slice Da ma da] 25)) (.int .i64 at_) (.int .i64 least) (.int .i64 most) 45
  rw [World.size_alloc] at hth
  have Th := hide hth
  have B := hide hb2
  have hsb : (s.size : Int) ≤ 9223372036854775807 := by omega
  have hzx : sizeR (timR least most r) ≤ 1000000 ∧ depthR (timR least most r) ≤ 1000000 := by
    unfold timR sizeR depthR
    unfold sizeL sizeL depthL depthL
    omega
  obtain ⟨qx, hqx⟩ : ∃ qx, rightR (timR least most r) = qx := ⟨_, rfl⟩
  have HRx := hide (fun (W : World) (v : Value) (h : RxV W anyB v (timR least most r)) => (hqx ▸ rright24 h hzx.1 hzx.2 : Calls Tryd.prog 24 #[v] W fun e w' => e = .returned (.int .i64 qx) ∧ Below W.heap.size W w'))
  clear hv hT hb1 hb2 hth A
  go_enter Tryd.func8, Tryd.ntmps8
  go_wp2_with fail
  with_reducible refine HA.out.mono ?_
  rintro e w1 ⟨rfl, hb⟩
  replace B := hide (bgo B.out hb)
  replace Ta := hide (Ta.out.below hb)
  replace Ra := hide (Ra.out.kept hb)
  replace Fa := hide (Fa.out.keep hb)
  replace Th := hide (Th.out.keep hb)
  clear hb HA
  obtain ⟨-, i0, i1, i2⟩ := Th.out
  go_wp2_with fail
  go_quiet (fail)
  have hbd : Below w1.heap.size w1 (w1.drewN nq) := bdr (Below.refl _ _) _
  obtain ⟨w2, hw2⟩ : ∃ w2, w1.drewN nq = w2 := ⟨_, rfl⟩
  rw [hw2] at hbd ⊢
  clear hw2 i0 i1 i2
  replace B := hide (bgo B.out hbd)
  replace Ta := hide (Ta.out.below hbd)
  replace Ra := hide (Ra.out.kept hbd)
  replace Fa := hide (Fa.out.keep hbd)
  replace Th := hide (Th.out.keep hbd)
  clear hbd
  obtain ⟨-, t0, t1, t2, t3, t4⟩ := Fa.out
  obtain ⟨hx, hbx⟩ := rep_box Ra.out least most wl wm
  go_upto_region 5 with fail
  obtain ⟨x3, hx3⟩ : ∃ x3, (w2.alloc (.cells #[.int .i64 qa, .slice Aa na ca, .int .i64 ya, .int .i64 za, .slice Da ma da] 25)).alloc (.cells #[.int .i64 4, .slice none 0 0, .int .i64 least, .int .i64 most, .slice (some ⟨w2.heap.size, 0, none⟩) 1 1] 25) = x3 := ⟨_, rfl⟩
  obtain ⟨p9, hp9⟩ : ∃ p9, w2.heap.size + 1 = p9 := ⟨_, rfl⟩
  obtain ⟨g9, hg9⟩ : ∃ g9, w2.heap.size = g9 := ⟨_, rfl⟩
  rw [hx3] at hx hbx ⊢
  rw [hp9] at hx ⊢
  rw [hg9] at hx ⊢
  clear t0 t1 t2 t3 t4
  replace B := hide (bgo B.out hbx)
  replace Ta := hide (Ta.out.below hbx)
  replace Ra := hide (Ra.out.kept hbx)
  replace Fa := hide (Fa.out.keep hbx)
  replace Th := hide (Th.out.keep hbx)
  have P9 := hide hx
  clear hx hbx hx3 hp9 hg9
  obtain ⟨-, i0, i1, i2, i3, i4⟩ := P9.out.five
  by_cases h6 : 40 < s.size
  · have h6' : (40 : Int) < (s.size : Int) := by omega
    go_wp2
    go_ret
    exact ⟨rfl, B.out⟩
  have h6' : ¬ (40 : Int) < (s.size : Int) := by omega
  have hs4 : s.size ≤ 40 := by omega
  have HC := hide (HRx.out x3 _ P9.out.rx)
  by_cases hx0 : qx = 0
  case neg =>
    have hxn : (qx != 0) = true := bne_iff_ne.2 hx0
    go_wp2_with fail
    with_reducible refine HC.out.mono ?_
    rintro e w3 ⟨rfl, hb⟩
    have B2 := hide (bgo B.out hb)
    clear hb i0 i1 i2 i3 i4
    go_wp2
    go_ret
    exact ⟨rfl, B2.out⟩
  have hxn : (qx != 0) = false := by rw [hx0]; rfl
  go_wp2_with fail
  with_reducible refine HC.out.mono ?_
  rintro e w3 ⟨rfl, hb⟩
  clear i0 i1 i2 i3 i4 HC
  replace B := hide (bgo B.out hb)
  replace Ta := hide (Ta.out.below hb)
  replace Ra := hide (Ra.out.kept hb)
  replace Fa := hide (Fa.out.keep hb)
  replace Th := hide (Th.out.keep hb)
  replace P9 := hide (P9.out.below hb)
  clear hb
  rw [hx0] at hqx
  obtain ⟨hr0, hl0, hl8, hm8⟩ := right_rep hqx
  clear hx0 HRx h6
  have hlen := strlen s
  obtain ⟨i0, hi, hz0, hz1, hz2⟩ := info_parts info3
  obtain ⟨-, j0, j1, j2⟩ := Th.out
  go_upto_region 8 with fail
  have hbx := bel_alloc w3 (.cells #[.int .i64 at_] 3)
  have hsl : Sl (w3.alloc (.cells #[.int .i64 at_] 3)) (some ⟨w3.heap.size, 0, none⟩) 1 1 (numCells [at_]) := lit_sl w3 #[.int .i64 at_] 3 (numCells [at_]) 1 rfl rfl (by omega)
  obtain ⟨x4, hx4⟩ : ∃ x4, w3.alloc (.cells #[.int .i64 at_] 3) = x4 := ⟨_, rfl⟩
  rw [hx4] at hbx hsl ⊢
  have hg4 : w3.heap.size < x4.heap.size := by rw [← hx4]; simp
  obtain ⟨g4, hg4'⟩ : ∃ g4, w3.heap.size = g4 := ⟨_, rfl⟩
  rw [hg4'] at hsl hg4 ⊢
  clear hx4 j0 j1 j2
  replace B := hide (bgo B.out hbx)
  replace Ta := hide (Ta.out.below hbx)
  replace Ra := hide (Ra.out.kept hbx)
  replace Fa := hide (Fa.out.keep hbx)
  replace Th := hide (Th.out.keep hbx)
  replace P9 := hide (P9.out.below hbx)
  clear hbx hg4'
  have SLl := hide hsl
  clear hsl
  obtain ⟨-, j0, j1, j2⟩ := Th.out
  obtain ⟨qi, hqi⟩ : ∃ qi, decide (at_ < 0 ∨ (s.size : Int) < at_) = qi := ⟨_, rfl⟩
  go_cut [52] (fun q wx => wx = x4 ∧ q = .bool qi)
  case first =>
    by_cases hneg : at_ < 0
    · have hd0 : decide (at_ < 0) = true := decide_eq_true hneg
      have hq := hide (show qi = true by rw [← hqi]; exact decide_eq_true (Or.inl hneg))
      clear hqi
      go_wp2
      go_meet
      exact ⟨rfl, by rw [hq.out]⟩
    · have hd0 : decide (at_ < 0) = false := decide_eq_false hneg
      have hq := hide (show qi = decide ((s.size : Int) < at_) by rw [← hqi]; exact decide_eq_decide.2 ⟨fun h => h.resolve_left hneg, Or.inr⟩)
      clear hqi
      go_wp2
      go_meet
      exact ⟨rfl, by rw [hq.out]⟩
  case rest =>
  obtain ⟨rfl, rfl⟩ := hcut
  go_upto_if 52 with fail
  go_cut [10] (fun u10 wx => wx = wc ∧ ∃ A c, u10 = .slice A (LL r s.data.toList at_ 0).length c ∧ Sl wx A (LL r s.data.toList at_ 0).length c (numCells (natI (LL r s.data.toList at_ 0))))
  case first =>
    cases qi with
    | true =>
      have hLL := hide (show LL r s.data.toList at_ 0 = [] by unfold LL; rw [if_pos (by rw [hlen]; exact of_decide_eq_true hqi)])
      clear hqi
      go_wp2
      go_meet
      refine ⟨rfl, none, 0, ?_, ?_⟩
      · rw [hLL.out]; rfl
      · rw [hLL.out]; exact Sl.nil _
    | false =>
      have hgt := of_decide_eq_false hqi
      have hLL := hide (show LL r s.data.toList at_ 0 = [at_.toNat] by unfold LL; rw [if_neg (by rw [hlen]; exact hgt)])
      have hnt := hide (show natI [at_.toNat] = [at_] by unfold natI; simp; omega)
      clear hqi
      go_wp2
      go_meet
      refine ⟨rfl, some ⟨g4, 0, none⟩, 1, ?_, ?_⟩
      · rw [hLL.out]; rfl
      · rw [hLL.out, hnt.out]; exact SLl.out
  case rest =>
  obtain ⟨rfl, A0, c0, rfl, hsl0⟩ := hcut
  have SL0 := hide hsl0
  clear hsl0 hqi SLl j0 j1 j2
  obtain ⟨K, hK⟩ : ∃ K, uptoN least most s.data.toList.length = K := ⟨_, rfl⟩
  have hK49 : K ≤ 49 := by
    rw [← hK]
    unfold uptoN
    split <;> omega
  have hKa := hide (show most < 0 → least + (s.size : Int) + 1 = (K : Int) from fun h => by rw [← hK]; unfold uptoN; rw [if_pos h]; omega)
  have hKb := hide (show ¬ most < 0 → most = (K : Int) from fun h => by rw [← hK]; unfold uptoN; rw [if_neg h]; omega)
  have HK := hide hK
  clear hK
  go_upto_if 55 with fail
  go_cut [11] (fun u wx => wx = wc ∧ u = .int .i64 (K : Int))
  case first =>
    by_cases hm0 : most < 0
    · have hd0 : decide (most < 0) = true := decide_eq_true hm0
      have hKe := hKa.out hm0
      have hw1 : IntKind.i64.wrap (least + (s.size : Int)) = least + (s.size : Int) := IntWalk.i64_in _ (by omega)
      have hw2 : IntKind.i64.wrap (least + (s.size : Int) + 1) = least + (s.size : Int) + 1 := IntWalk.i64_in _ (by omega)
      go_wp2
      go_meet
      exact ⟨rfl, rfl⟩
    · have hd0 : decide (most < 0) = false := decide_eq_false hm0
      have hKe := hide (hKb.out hm0)
      go_wp2
      go_meet
      exact ⟨rfl, by rw [hKe.out]⟩
  case rest =>
  obtain ⟨rfl, rfl⟩ := hcut
  clear hKa hKb
  obtain ⟨xl, hxl⟩ : ∃ xl, xl = wc := ⟨wc, rfl⟩
  have HLm := hide (fun (n : Nat) => (show (LL r s.data.toList at_ n).length ≤ 41 from by
    have := nodup_le _ s.data.toList.length (LL_nodup r s.data.toList at_ n) (fun y hy => LL_le hr0 _ _ n y hy)
    omega))
  have HAm := hide (fun (n i : Nat) => (show (addAll (AL r s.data.toList at_ least n) ((LL r s.data.toList at_ n).take i)).length ≤ 41 from by
    have := nodup_le _ s.data.toList.length (addAll_nodup ((LL r s.data.toList at_ n).take i) (AL_nodup r s.data.toList at_ least n)) (fun y hy => by
      rcases (addAll_mem _ _ y).1 hy with hy | hy
      · obtain ⟨m, -, -, hy⟩ := (AL_mem _ _ _ _ y n).1 hy
        exact LL_le hr0 _ _ m y hy
      · exact LL_le hr0 _ _ n y (List.mem_of_mem_take hy))
    omega))
  have HNm := hide (fun (L : List Nat) (q k : Nat) => (show (addAll (nxt r s.data.toList L) ((endsA r s.data.toList (q : Int)).take k)).length ≤ 41 from by
    have := nxt_add_len hr0 s.data.toList L q k
    omega))
  subst hxl
  go_wp2_with fail
  go_loopw [10, 12, 13, 14, 15, 16, 17, 18] (fun lv av y _ _ _ _ _ wr => ∃ n : Nat, n ≤ K + 1 ∧ y = .int .i64 (n : Int) ∧ R8 xl wr r s.data.toList at_ least n lv av) (fun _ _ y _ _ _ _ _ _ => K + 1 - (intOf y).toNat)
  case atStart => exact ⟨0, Nat.zero_le _, rfl, Below.refl _ _, World.ownsRow_nil _ _ _ _, A0, c0, rfl, SL0.out, fun _ ad _ e => by cases e⟩
  case round =>
    obtain ⟨n, hn, rfl, hbel, hown, A, c, rfl, hlie⟩ := hrel
    obtain ⟨xn, hxn2⟩ : ∃ xn, xn = wr := ⟨wr, rfl⟩
    subst hxn2
    obtain ⟨M, hM⟩ : ∃ M, (LL r s.data.toList at_ n).length = M := ⟨_, rfl⟩
    rw [hM] at hlie ⊢
    have hM41 : M ≤ 41 := by rw [← hM]; exact HLm.out n
    have HM := hide hM
    have HB := hide hbel
    have HO := hide hown
    have HL := hide hlie
    clear hbel hown hlie hM
    by_cases hnK : n ≤ K
    · have hnK' : (n : Int) ≤ (K : Int) := by omega
      by_cases hln : least ≤ (n : Int)
      · have hd0 : decide (least ≤ (n : Int)) = true := decide_eq_true hln
        have HAn := hide (show AL r s.data.toList at_ least (n + 1) = addAll (AL r s.data.toList at_ least n) (LL r s.data.toList at_ n) from by rw [AL, if_pos hln])
        go_wp2_with fail
        go_loopw [12, 14] (fun av2 y wr2 => ∃ i : Nat, i ≤ M ∧ y = .int .i64 (i : Int) ∧ Below xl.heap.size xl wr2 ∧ Own wr2 xl.heap.size 3 av2 (numCells (natI (addAll (AL r s.data.toList at_ least n) ((LL r s.data.toList at_ n).take i)))) ∧ Lies wr2 av2 A M c (numCells (natI (LL r s.data.toList at_ n)))) (fun _ y _ => M - (intOf y).toNat)
        case atStart => exact ⟨0, Nat.zero_le _, rfl, HB.out, by rw [List.take_zero]; exact HO.out, HL.out⟩
        case round =>
          obtain ⟨i, hi2, rfl, hbel, hown, hlie⟩ := hrel
          obtain ⟨x2, hx2⟩ : ∃ x2, x2 = wr := ⟨wr, rfl⟩
          subst hx2
          obtain ⟨LQ, hLQ⟩ : ∃ LQ, addAll (AL r s.data.toList at_ least n) ((LL r s.data.toList at_ n).take i) = LQ := ⟨_, rfl⟩
          rw [hLQ] at hown
          have hLQl : LQ.length ≤ 41 := by rw [← hLQ]; exact HAm.out n i
          have hib : (i : Int) ≤ 41 := by omega
          by_cases hlt : i < M
          · have hlt' : (i : Int) < (M : Int) := by omega
            obtain ⟨q, hq⟩ : ∃ q, (LL r s.data.toList at_ n)[i]? = some q := ⟨_, List.getElem?_eq_getElem (by rw [HM.out]; exact hlt)⟩
            obtain ⟨ad, z, hA, hz, hcz⟩ := num_cell hlie.1.reads hlt
            subst hA
            obtain rfl : z = (q : Int) := by
              unfold natI at hz
              rw [List.getElem?_map, hq] at hz
              exact (Option.some.inj hz).symm
            have hnx := addAll_next (L := AL r s.data.toList at_ least n) hq
            rw [hLQ] at hnx
            obtain ⟨A2, m2, c2, rfl, hm2, hsl2⟩ := hown.slI
            rw [natI_len] at hm2
            obtain ⟨bq, hbq⟩ : ∃ bq, decide (q ∈ LQ) = bq := ⟨_, rfl⟩
            have HH := hide (has_nat LQ q bq hbq x2 A2 m2 c2 (by omega) hsl2)
            have hxs : (numCells (natI LQ)).length ≤ 41 := by rw [num_len, natI_len]; exact hLQl
            have HB2 := hide hbel
            have HO2 := hide hown
            have HL2 := hide hlie
            have HS2 := hide hbel.size
            cases bq with
            | true =>
              have Hn := hide (show addAll (AL r s.data.toList at_ least n) ((LL r s.data.toList at_ n).take (i + 1)) = LQ by rw [hnx]; unfold addU; rw [if_pos (of_decide_eq_true hbq)])
              clear hbel hown hlie hsl2 hLQ hLQl hq hz hnx hbq hm2
              go_wp2_with fail
              with_reducible refine HH.out.mono ?_
              rintro e w9 ⟨rfl, rfl⟩
              go_wp2
              go_roundw
              case rel => exact ⟨i + 1, by omega, by go_num, HB2.out, by rw [Hn.out]; exact HO2.out, HL2.out⟩
              case measure => simp [intOf]; omega
            | false =>
              have Hn := hide (show addAll (AL r s.data.toList at_ least n) ((LL r s.data.toList at_ n).take (i + 1)) = LQ ++ [q] by rw [hnx]; unfold addU; rw [if_neg (of_decide_eq_false hbq)])
              clear hbel hown hlie hsl2 hLQ hLQl hq hz hnx hbq hm2
              go_wp2_with fail
              with_reducible refine HH.out.mono ?_
              rintro e w9 ⟨rfl, rfl⟩
              go_wp2_with (at_builtin; refine wp_push_far rfl (.tmp 82) (.tmp 87) 28 rfl 3 i0 _ 8 Tryd.underlying28 hi hz0 hz1 hz2 rfl xl.heap.size _ (numCells (natI LQ)) rfl _ _ rfl HO2.out HS2.out _ rfl rfl (by omega) (by unfold maxLen; omega) _ ?_)
              intro v' w5 ho5 hb5 hf5
              have HO5 := hide (show Own w5 xl.heap.size 3 v' (numCells (natI (LQ ++ [q]))) by
                have e : numCells (natI (LQ ++ [q])) = numCells (natI LQ) ++ [.int .i64 (q : Int)] := by simp [numCells, natI]
                rw [e]; exact ho5)
              have HB5 := hide (HB2.out.trans hb5)
              have HL5 := hide (HL2.out.far hf5)
              clear ho5 hb5 hf5
              go_wp2
              go_roundw
              case rel => exact ⟨i + 1, by omega, by go_num, HB5.out, by rw [Hn.out]; exact HO5.out, HL5.out⟩
              case measure => simp [intOf]; omega
          · obtain rfl : i = M := by omega
            have hlt' : ¬ (i : Int) < (i : Int) := by omega
            have e : (LL r s.data.toList at_ n).take i = LL r s.data.toList at_ n := List.take_of_length_le (by rw [HM.out]; exact Nat.le_refl _)
            rw [e] at hLQ
            have hx : AL r s.data.toList at_ least (n + 1) = LQ := by rw [HAn.out, hLQ]
            rw [← hx] at hown
            have HO3 := hide hown
            have HB2 := hide hbel
            have HL2 := hide hlie
            have HS2 := hide hbel.size
            clear hbel hown hlie hLQ hLQl hx e
            go_wp2_with fail
            go_loopw [15, 16, 17, 18] (fun nv y _ _ wr3 => ∃ j : Nat, j ≤ i ∧ y = .int .i64 (j : Int) ∧ Below x2.heap.size x2 wr3 ∧ Own wr3 x2.heap.size 3 nv (numCells (natI (nxt r s.data.toList ((LL r s.data.toList at_ n).take j))))) (fun _ y _ _ _ => i - (intOf y).toNat)
            case atStart => exact ⟨0, Nat.zero_le _, rfl, Below.refl _ _, by rw [List.take_zero]; exact World.ownsRow_nil _ _ _ _⟩
            case round =>
              obtain ⟨j, hj, rfl, hbel, hown⟩ := hrel
              obtain ⟨x4, hx4⟩ : ∃ x4, x4 = wr := ⟨wr, rfl⟩
              subst hx4
              by_cases hlj : j < i
              · skip
                have hlj' : (j : Int) < (i : Int) := by omega
                have hjb : (j : Int) ≤ 41 := by omega
                obtain ⟨q, hq⟩ : ∃ q, (LL r s.data.toList at_ n)[j]? = some q := ⟨_, List.getElem?_eq_getElem (by rw [HM.out]; exact hlj)⟩
                obtain ⟨ad, z, hA, hz, hcz⟩ := num_cell (HL2.out.1.below hbel).reads hlj
                subst hA
                obtain rfl : z = (q : Int) := by
                  unfold natI at hz
                  rw [List.getElem?_map, hq] at hz
                  exact (Option.some.inj hz).symm
                have hnx := nxt_next (r := r) (s := s.data.toList) hq
                have hnl := fun (k : Nat) => HNm.out ((LL r s.data.toList at_ n).take j) q k
                obtain ⟨NQ, hNQ⟩ : ∃ NQ, nxt r s.data.toList ((LL r s.data.toList at_ n).take j) = NQ := ⟨_, rfl⟩
                obtain ⟨EQ, hEQ⟩ : ∃ EQ, endsA r s.data.toList (q : Int) = EQ := ⟨_, rfl⟩
                obtain ⟨ME, hME⟩ : ∃ ME, EQ.length = ME := ⟨_, rfl⟩
                have HEq := hide (fun (W : World) (h0 : Below x4.heap.size x4 W) (h : RxV W anyB (.agg #[.int .i64 qa, .slice Aa na ca, .int .i64 ya, .int .i64 za, .slice Da ma da]) r) (hT : HasT W) => (ends12 s (by omega) r (by omega) (by omega) (q : Int) W anyB _ h hT).mono (R' := fun e w' => ∃ A c, e = .returned (.slice A ME c) ∧ Sl w' A ME c (numCells (natI EQ)) ∧ (∀ ad, A = some ad → x4.heap.size ≤ ad.block) ∧ Below W.heap.size W w') (fun e w' h => by rw [hEQ] at h; exact grew_new h h0.size (by rw [natI_len]; exact hME)))
                have hME41 : ME ≤ 41 := by rw [← hME, ← hEQ]; have := endsA_len r s.data.toList (q : Int); omega
                rw [hNQ, hEQ] at hnx
                simp only [hNQ, hEQ] at hnl
                rw [hNQ] at hown
                have HNl := hide hnl
                have HNx := hide hnx
                have HME := hide hME
                have Fj := hide (Fa.out.keep (bgo HB2.out hbel))
                have Tj := hide (Ta.out.below (bgo HB2.out hbel))
                have Rj := hide (Ra.out.kept (bgo HB2.out hbel))
                have HBj := hide hbel
                have HOj := hide hown
                have HSj := hide hbel.size
                clear hbel hown hnx hnl hME hNQ hEQ hq hz
                go_wp2_with fail
                obtain ⟨x, hx⟩ : ∃ x, x = x4 := ⟨_, rfl⟩
                subst hx
                have HK := hide (show ∀ X : World, Below x.heap.size x X → (X.cell? ⟨w.heap.size, 0, none⟩ = some (.int .i64 qa) ∧ X.cell? ⟨w.heap.size, 1, none⟩ = some (.slice Aa na ca) ∧ X.cell? ⟨w.heap.size, 2, none⟩ = some (.int .i64 ya) ∧ X.cell? ⟨w.heap.size, 3, none⟩ = some (.int .i64 za) ∧ X.cell? ⟨w.heap.size, 4, none⟩ = some (.slice Da ma da) ∧ X.cell? (ad.add j) = some (.int .i64 (q : Int))) ∧ Below x.heap.size x X from fun X hb => by
                  obtain ⟨-, t0, t1, t2, t3, t4⟩ := Fj.out.keep hb
                  exact ⟨⟨t0, t1, t2, t3, t4, (hb.cell (World.block_lt_of_cell? _ _ hcz)).trans hcz⟩, hb⟩)
                have HS0 := hide (bel_drew x)
                have HKs := hide (show ∀ X Y : World, (X.cell? ⟨w.heap.size, 0, none⟩ = some (.int .i64 qa) ∧ X.cell? ⟨w.heap.size, 1, none⟩ = some (.slice Aa na ca) ∧ X.cell? ⟨w.heap.size, 2, none⟩ = some (.int .i64 ya) ∧ X.cell? ⟨w.heap.size, 3, none⟩ = some (.int .i64 za) ∧ X.cell? ⟨w.heap.size, 4, none⟩ = some (.slice Da ma da) ∧ X.cell? (ad.add j) = some (.int .i64 (q : Int))) ∧ Below x.heap.size x X → Below X.heap.size X Y → (Y.cell? ⟨w.heap.size, 0, none⟩ = some (.int .i64 qa) ∧ Y.cell? ⟨w.heap.size, 1, none⟩ = some (.slice Aa na ca) ∧ Y.cell? ⟨w.heap.size, 2, none⟩ = some (.int .i64 ya) ∧ Y.cell? ⟨w.heap.size, 3, none⟩ = some (.int .i64 za) ∧ Y.cell? ⟨w.heap.size, 4, none⟩ = some (.slice Da ma da) ∧ Y.cell? (ad.add j) = some (.int .i64 (q : Int))) ∧ Below x.heap.size x Y from fun X Y h hb => HK.out Y (bgo h.2 hb))
                have HKb := hide (show ∀ X : World, (X.cell? ⟨w.heap.size, 0, none⟩ = some (.int .i64 qa) ∧ X.cell? ⟨w.heap.size, 1, none⟩ = some (.slice Aa na ca) ∧ X.cell? ⟨w.heap.size, 2, none⟩ = some (.int .i64 ya) ∧ X.cell? ⟨w.heap.size, 3, none⟩ = some (.int .i64 za) ∧ X.cell? ⟨w.heap.size, 4, none⟩ = some (.slice Da ma da) ∧ X.cell? (ad.add j) = some (.int .i64 (q : Int))) ∧ Below x.heap.size x X → Below x.heap.size x X from fun X h => h.2)
                have HTa := hide (show ∀ X : World, (X.cell? ⟨w.heap.size, 0, none⟩ = some (.int .i64 qa) ∧ X.cell? ⟨w.heap.size, 1, none⟩ = some (.slice Aa na ca) ∧ X.cell? ⟨w.heap.size, 2, none⟩ = some (.int .i64 ya) ∧ X.cell? ⟨w.heap.size, 3, none⟩ = some (.int .i64 za) ∧ X.cell? ⟨w.heap.size, 4, none⟩ = some (.slice Da ma da) ∧ X.cell? (ad.add j) = some (.int .i64 (q : Int))) ∧ Below x.heap.size x X → HasT X from fun X h => Tj.out.below h.2)
                have HRa := hide (show ∀ X : World, (X.cell? ⟨w.heap.size, 0, none⟩ = some (.int .i64 qa) ∧ X.cell? ⟨w.heap.size, 1, none⟩ = some (.slice Aa na ca) ∧ X.cell? ⟨w.heap.size, 2, none⟩ = some (.int .i64 ya) ∧ X.cell? ⟨w.heap.size, 3, none⟩ = some (.int .i64 za) ∧ X.cell? ⟨w.heap.size, 4, none⟩ = some (.slice Da ma da) ∧ X.cell? (ad.add j) = some (.int .i64 (q : Int))) ∧ Below x.heap.size x X → RxV X anyB (.agg #[.int .i64 qa, .slice Aa na ca, .int .i64 ya, .int .i64 za, .slice Da ma da]) r from fun X h => Rj.out.kept h.2)
                go_region_held3 (fun w' => (w'.cell? ⟨w.heap.size, 0, none⟩ = some (.int .i64 qa) ∧ w'.cell? ⟨w.heap.size, 1, none⟩ = some (.slice Aa na ca) ∧ w'.cell? ⟨w.heap.size, 2, none⟩ = some (.int .i64 ya) ∧ w'.cell? ⟨w.heap.size, 3, none⟩ = some (.int .i64 za) ∧ w'.cell? ⟨w.heap.size, 4, none⟩ = some (.slice Da ma da) ∧ w'.cell? (ad.add j) = some (.int .i64 (q : Int))) ∧ Below x.heap.size x w')
                  (first | exact HK.out _ HS0.out | exact HKs.out _ _ (by assumption) hb4)
                  (first | (go_at_call 12; (with_reducible refine (HEq.out _ (HKb.out _ ?_) (HRa.out _ ?_) (HTa.out _ ?_)).mono ?_); assumption; assumption; assumption; rintro e w9 ⟨AE, cE, rfl, hsE, hgE, hb4⟩))
                have hX := HKb.out _ (by assumption)
                clear HK HS0 HKs HKb HTa HRa HEq
                have HO9 := hide (HOj.out.below hX)
                have HB9 := hide (HBj.out.trans (hX.mono HSj.out))
                have HL9 := hide (Lies.new HOj.out hsE hgE)
                clear hX hsE hgE hb4 hcz Fj Tj Rj HBj HOj
                go_wp2_with fail
                go_loopw [15, 18] (fun nv2 y wr4 => ∃ k : Nat, k ≤ ME ∧ y = .int .i64 (k : Int) ∧ Below x2.heap.size x2 wr4 ∧ Own wr4 x2.heap.size 3 nv2 (numCells (natI (addAll NQ (EQ.take k)))) ∧ Lies wr4 nv2 AE ME cE (numCells (natI EQ))) (fun _ y _ => ME - (intOf y).toNat)
                case atStart => exact ⟨0, Nat.zero_le _, rfl, HB9.out, by rw [List.take_zero]; exact HO9.out, HL9.out⟩
                case round =>
                  obtain ⟨k, hk, rfl, hbel, hown, hlie⟩ := hrel
                  obtain ⟨x5, hx5⟩ : ∃ x5, x5 = wr := ⟨wr, rfl⟩
                  subst hx5
                  obtain ⟨LQ2, hLQ2⟩ : ∃ LQ2, addAll NQ (EQ.take k) = LQ2 := ⟨_, rfl⟩
                  rw [hLQ2] at hown
                  have hLQ2l : LQ2.length ≤ 41 := by rw [← hLQ2]; exact HNl.out k
                  have hkb : (k : Int) ≤ 41 := by omega
                  by_cases hlk : k < ME
                  · have hlk' : (k : Int) < (ME : Int) := by omega
                    obtain ⟨q2, hq2⟩ : ∃ q2, EQ[k]? = some q2 := ⟨_, List.getElem?_eq_getElem (by rw [HME.out]; exact hlk)⟩
                    obtain ⟨ad2, z2, hA2, hz2', hcz2⟩ := num_cell hlie.1.reads hlk
                    subst hA2
                    obtain rfl : z2 = (q2 : Int) := by
                      unfold natI at hz2'
                      rw [List.getElem?_map, hq2] at hz2'
                      exact (Option.some.inj hz2').symm
                    have hnx := addAll_next (L := NQ) hq2
                    rw [hLQ2] at hnx
                    obtain ⟨A6, m6, c6, rfl, hm6, hsl6⟩ := hown.slI
                    rw [natI_len] at hm6
                    obtain ⟨bq, hbq⟩ : ∃ bq, decide (q2 ∈ LQ2) = bq := ⟨_, rfl⟩
                    have HH := hide (has_nat LQ2 q2 bq hbq x5 A6 m6 c6 (by omega) hsl6)
                    have hxs : (numCells (natI LQ2)).length ≤ 41 := by rw [num_len, natI_len]; exact hLQ2l
                    have HB5 := hide hbel
                    have HO5 := hide hown
                    have HL5 := hide hlie
                    have HS5 := hide hbel.size
                    cases bq with
                    | true =>
                      have Hn := hide (show addAll NQ (EQ.take (k + 1)) = LQ2 by rw [hnx]; unfold addU; rw [if_pos (of_decide_eq_true hbq)])
                      clear hbel hown hlie hsl6 hLQ2 hLQ2l hq2 hz2' hnx hbq hm6
                      go_wp2_with fail
                      with_reducible refine HH.out.mono ?_
                      rintro e w8 ⟨rfl, rfl⟩
                      go_wp2
                      go_roundw
                      case rel => exact ⟨k + 1, by omega, by go_num, HB5.out, by rw [Hn.out]; exact HO5.out, HL5.out⟩
                      case measure => simp [intOf]; omega
                    | false =>
                      have Hn := hide (show addAll NQ (EQ.take (k + 1)) = LQ2 ++ [q2] by rw [hnx]; unfold addU; rw [if_neg (of_decide_eq_false hbq)])
                      clear hbel hown hlie hsl6 hLQ2 hLQ2l hq2 hz2' hnx hbq hm6
                      go_wp2_with fail
                      with_reducible refine HH.out.mono ?_
                      rintro e w8 ⟨rfl, rfl⟩
                      go_wp2_with (at_builtin; refine wp_push_far rfl (.tmp 115) (.tmp 120) 28 rfl 3 i0 _ 8 Tryd.underlying28 hi hz0 hz1 hz2 rfl x2.heap.size _ (numCells (natI LQ2)) rfl _ _ rfl HO5.out HS5.out _ rfl rfl (by omega) (by unfold maxLen; omega) _ ?_)
                      intro v' w7 ho7 hb7 hf7
                      have HO7 := hide (show Own w7 x2.heap.size 3 v' (numCells (natI (LQ2 ++ [q2]))) by
                        have e : numCells (natI (LQ2 ++ [q2])) = numCells (natI LQ2) ++ [.int .i64 (q2 : Int)] := by simp [numCells, natI]
                        rw [e]; exact ho7)
                      have HB7 := hide (HB5.out.trans hb7)
                      have HL7 := hide (HL5.out.far hf7)
                      clear ho7 hb7 hf7
                      go_wp2
                      go_roundw
                      case rel => exact ⟨k + 1, by omega, by go_num, HB7.out, by rw [Hn.out]; exact HO7.out, HL7.out⟩
                      case measure => simp [intOf]; omega
                  · obtain rfl : k = ME := by omega
                    have hlk' : ¬ (k : Int) < (k : Int) := by omega
                    have e : EQ.take k = EQ := List.take_of_length_le (by rw [HME.out]; exact Nat.le_refl _)
                    rw [e] at hLQ2
                    have hx : nxt r s.data.toList ((LL r s.data.toList at_ n).take (j + 1)) = LQ2 := by rw [HNx.out, hLQ2]
                    rw [← hx] at hown
                    have HO6 := hide hown
                    have HB6 := hide hbel
                    clear hbel hown hlie hLQ2 hLQ2l hx e
                    go_wp2_with fail
                    go_roundw
                    case rel => exact ⟨j + 1, by omega, by go_num, HB6.out, HO6.out⟩
                    case measure => simp [intOf]; omega
              · obtain rfl : j = i := by omega
                have hlj' : ¬ (j : Int) < (j : Int) := by omega
                have e : (LL r s.data.toList at_ n).take j = LL r s.data.toList at_ n := List.take_of_length_le (by rw [HM.out]; exact Nat.le_refl _)
                rw [e] at hown
                obtain ⟨A5, m5, c5, rfl, hm5, hsl5⟩ := hown.slI
                rw [natI_len] at hm5
                subst hm5
                have HL5 := hide (Lies.new HO3.out hsl5 (fun ad e => by subst e; exact (hown.lt ad.block rfl).1))
                have HB5 := hide (HB2.out.trans (hbel.mono HS2.out))
                have HO5 := hide (HO3.out.below hbel)
                clear hbel hown hsl5 e
                go_wp2_with fail
                go_roundw
                case rel => exact ⟨n + 1, by omega, by go_num, HB5.out, HO5.out, A5, c5, rfl, HL5.out⟩
                case measure => simp [intOf]; omega
      · have hd0 : decide (least ≤ (n : Int)) = false := decide_eq_false hln
        have HAn := hide (show AL r s.data.toList at_ least (n + 1) = AL r s.data.toList at_ least n from by rw [AL, if_neg hln])
        have hO := HO.out
        rw [← HAn.out] at hO
        have HO3 := hide hO
        have HB2 := hide HB.out
        have HL2 := hide HL.out
        have HS2 := hide HB.out.size
        clear hO
        go_wp2_with fail
        go_loopw [15, 16, 17, 18] (fun nv y _ _ wr3 => ∃ j : Nat, j ≤ M ∧ y = .int .i64 (j : Int) ∧ Below xn.heap.size xn wr3 ∧ Own wr3 xn.heap.size 3 nv (numCells (natI (nxt r s.data.toList ((LL r s.data.toList at_ n).take j))))) (fun _ y _ _ _ => M - (intOf y).toNat)
        case atStart => exact ⟨0, Nat.zero_le _, rfl, Below.refl _ _, by rw [List.take_zero]; exact World.ownsRow_nil _ _ _ _⟩
        case round =>
          obtain ⟨j, hj, rfl, hbel, hown⟩ := hrel
          obtain ⟨x4, hx4⟩ : ∃ x4, x4 = wr := ⟨wr, rfl⟩
          subst hx4
          by_cases hlj : j < M
          · skip
            have hlj' : (j : Int) < (M : Int) := by omega
            have hjb : (j : Int) ≤ 41 := by omega
            obtain ⟨q, hq⟩ : ∃ q, (LL r s.data.toList at_ n)[j]? = some q := ⟨_, List.getElem?_eq_getElem (by rw [HM.out]; exact hlj)⟩
            obtain ⟨ad, z, hA, hz, hcz⟩ := num_cell (HL2.out.1.below hbel).reads hlj
            subst hA
            obtain rfl : z = (q : Int) := by
              unfold natI at hz
              rw [List.getElem?_map, hq] at hz
              exact (Option.some.inj hz).symm
            have hnx := nxt_next (r := r) (s := s.data.toList) hq
            have hnl := fun (k : Nat) => HNm.out ((LL r s.data.toList at_ n).take j) q k
            obtain ⟨NQ, hNQ⟩ : ∃ NQ, nxt r s.data.toList ((LL r s.data.toList at_ n).take j) = NQ := ⟨_, rfl⟩
            obtain ⟨EQ, hEQ⟩ : ∃ EQ, endsA r s.data.toList (q : Int) = EQ := ⟨_, rfl⟩
            obtain ⟨ME, hME⟩ : ∃ ME, EQ.length = ME := ⟨_, rfl⟩
            have HEq := hide (fun (W : World) (h0 : Below x4.heap.size x4 W) (h : RxV W anyB (.agg #[.int .i64 qa, .slice Aa na ca, .int .i64 ya, .int .i64 za, .slice Da ma da]) r) (hT : HasT W) => (ends12 s (by omega) r (by omega) (by omega) (q : Int) W anyB _ h hT).mono (R' := fun e w' => ∃ A c, e = .returned (.slice A ME c) ∧ Sl w' A ME c (numCells (natI EQ)) ∧ (∀ ad, A = some ad → x4.heap.size ≤ ad.block) ∧ Below W.heap.size W w') (fun e w' h => by rw [hEQ] at h; exact grew_new h h0.size (by rw [natI_len]; exact hME)))
            have hME41 : ME ≤ 41 := by rw [← hME, ← hEQ]; have := endsA_len r s.data.toList (q : Int); omega
            rw [hNQ, hEQ] at hnx
            simp only [hNQ, hEQ] at hnl
            rw [hNQ] at hown
            have HNl := hide hnl
            have HNx := hide hnx
            have HME := hide hME
            have Fj := hide (Fa.out.keep (bgo HB2.out hbel))
            have Tj := hide (Ta.out.below (bgo HB2.out hbel))
            have Rj := hide (Ra.out.kept (bgo HB2.out hbel))
            have HBj := hide hbel
            have HOj := hide hown
            have HSj := hide hbel.size
            clear hbel hown hnx hnl hME hNQ hEQ hq hz
            go_wp2_with fail
            obtain ⟨x, hx⟩ : ∃ x, x = x4 := ⟨_, rfl⟩
            subst hx
            have HK := hide (show ∀ X : World, Below x.heap.size x X → (X.cell? ⟨w.heap.size, 0, none⟩ = some (.int .i64 qa) ∧ X.cell? ⟨w.heap.size, 1, none⟩ = some (.slice Aa na ca) ∧ X.cell? ⟨w.heap.size, 2, none⟩ = some (.int .i64 ya) ∧ X.cell? ⟨w.heap.size, 3, none⟩ = some (.int .i64 za) ∧ X.cell? ⟨w.heap.size, 4, none⟩ = some (.slice Da ma da) ∧ X.cell? (ad.add j) = some (.int .i64 (q : Int))) ∧ Below x.heap.size x X from fun X hb => by
              obtain ⟨-, t0, t1, t2, t3, t4⟩ := Fj.out.keep hb
              exact ⟨⟨t0, t1, t2, t3, t4, (hb.cell (World.block_lt_of_cell? _ _ hcz)).trans hcz⟩, hb⟩)
            have HS0 := hide (bel_drew x)
            have HKs := hide (show ∀ X Y : World, (X.cell? ⟨w.heap.size, 0, none⟩ = some (.int .i64 qa) ∧ X.cell? ⟨w.heap.size, 1, none⟩ = some (.slice Aa na ca) ∧ X.cell? ⟨w.heap.size, 2, none⟩ = some (.int .i64 ya) ∧ X.cell? ⟨w.heap.size, 3, none⟩ = some (.int .i64 za) ∧ X.cell? ⟨w.heap.size, 4, none⟩ = some (.slice Da ma da) ∧ X.cell? (ad.add j) = some (.int .i64 (q : Int))) ∧ Below x.heap.size x X → Below X.heap.size X Y → (Y.cell? ⟨w.heap.size, 0, none⟩ = some (.int .i64 qa) ∧ Y.cell? ⟨w.heap.size, 1, none⟩ = some (.slice Aa na ca) ∧ Y.cell? ⟨w.heap.size, 2, none⟩ = some (.int .i64 ya) ∧ Y.cell? ⟨w.heap.size, 3, none⟩ = some (.int .i64 za) ∧ Y.cell? ⟨w.heap.size, 4, none⟩ = some (.slice Da ma da) ∧ Y.cell? (ad.add j) = some (.int .i64 (q : Int))) ∧ Below x.heap.size x Y from fun X Y h hb => HK.out Y (bgo h.2 hb))
            have HKb := hide (show ∀ X : World, (X.cell? ⟨w.heap.size, 0, none⟩ = some (.int .i64 qa) ∧ X.cell? ⟨w.heap.size, 1, none⟩ = some (.slice Aa na ca) ∧ X.cell? ⟨w.heap.size, 2, none⟩ = some (.int .i64 ya) ∧ X.cell? ⟨w.heap.size, 3, none⟩ = some (.int .i64 za) ∧ X.cell? ⟨w.heap.size, 4, none⟩ = some (.slice Da ma da) ∧ X.cell? (ad.add j) = some (.int .i64 (q : Int))) ∧ Below x.heap.size x X → Below x.heap.size x X from fun X h => h.2)
            have HTa := hide (show ∀ X : World, (X.cell? ⟨w.heap.size, 0, none⟩ = some (.int .i64 qa) ∧ X.cell? ⟨w.heap.size, 1, none⟩ = some (.slice Aa na ca) ∧ X.cell? ⟨w.heap.size, 2, none⟩ = some (.int .i64 ya) ∧ X.cell? ⟨w.heap.size, 3, none⟩ = some (.int .i64 za) ∧ X.cell? ⟨w.heap.size, 4, none⟩ = some (.slice Da ma da) ∧ X.cell? (ad.add j) = some (.int .i64 (q : Int))) ∧ Below x.heap.size x X → HasT X from fun X h => Tj.out.below h.2)
            have HRa := hide (show ∀ X : World, (X.cell? ⟨w.heap.size, 0, none⟩ = some (.int .i64 qa) ∧ X.cell? ⟨w.heap.size, 1, none⟩ = some (.slice Aa na ca) ∧ X.cell? ⟨w.heap.size, 2, none⟩ = some (.int .i64 ya) ∧ X.cell? ⟨w.heap.size, 3, none⟩ = some (.int .i64 za) ∧ X.cell? ⟨w.heap.size, 4, none⟩ = some (.slice Da ma da) ∧ X.cell? (ad.add j) = some (.int .i64 (q : Int))) ∧ Below x.heap.size x X → RxV X anyB (.agg #[.int .i64 qa, .slice Aa na ca, .int .i64 ya, .int .i64 za, .slice Da ma da]) r from fun X h => Rj.out.kept h.2)
            go_region_held3 (fun w' => (w'.cell? ⟨w.heap.size, 0, none⟩ = some (.int .i64 qa) ∧ w'.cell? ⟨w.heap.size, 1, none⟩ = some (.slice Aa na ca) ∧ w'.cell? ⟨w.heap.size, 2, none⟩ = some (.int .i64 ya) ∧ w'.cell? ⟨w.heap.size, 3, none⟩ = some (.int .i64 za) ∧ w'.cell? ⟨w.heap.size, 4, none⟩ = some (.slice Da ma da) ∧ w'.cell? (ad.add j) = some (.int .i64 (q : Int))) ∧ Below x.heap.size x w')
              (first | exact HK.out _ HS0.out | exact HKs.out _ _ (by assumption) hb4)
              (first | (go_at_call 12; (with_reducible refine (HEq.out _ (HKb.out _ ?_) (HRa.out _ ?_) (HTa.out _ ?_)).mono ?_); assumption; assumption; assumption; rintro e w9 ⟨AE, cE, rfl, hsE, hgE, hb4⟩))
            have hX := HKb.out _ (by assumption)
            clear HK HS0 HKs HKb HTa HRa HEq
            have HO9 := hide (HOj.out.below hX)
            have HB9 := hide (HBj.out.trans (hX.mono HSj.out))
            have HL9 := hide (Lies.new HOj.out hsE hgE)
            clear hX hsE hgE hb4 hcz Fj Tj Rj HBj HOj
            go_wp2_with fail
            go_loopw [15, 18] (fun nv2 y wr4 => ∃ k : Nat, k ≤ ME ∧ y = .int .i64 (k : Int) ∧ Below xn.heap.size xn wr4 ∧ Own wr4 xn.heap.size 3 nv2 (numCells (natI (addAll NQ (EQ.take k)))) ∧ Lies wr4 nv2 AE ME cE (numCells (natI EQ))) (fun _ y _ => ME - (intOf y).toNat)
            case atStart => exact ⟨0, Nat.zero_le _, rfl, HB9.out, by rw [List.take_zero]; exact HO9.out, HL9.out⟩
            case round =>
              obtain ⟨k, hk, rfl, hbel, hown, hlie⟩ := hrel
              obtain ⟨x5, hx5⟩ : ∃ x5, x5 = wr := ⟨wr, rfl⟩
              subst hx5
              obtain ⟨LQ2, hLQ2⟩ : ∃ LQ2, addAll NQ (EQ.take k) = LQ2 := ⟨_, rfl⟩
              rw [hLQ2] at hown
              have hLQ2l : LQ2.length ≤ 41 := by rw [← hLQ2]; exact HNl.out k
              have hkb : (k : Int) ≤ 41 := by omega
              by_cases hlk : k < ME
              · have hlk' : (k : Int) < (ME : Int) := by omega
                obtain ⟨q2, hq2⟩ : ∃ q2, EQ[k]? = some q2 := ⟨_, List.getElem?_eq_getElem (by rw [HME.out]; exact hlk)⟩
                obtain ⟨ad2, z2, hA2, hz2', hcz2⟩ := num_cell hlie.1.reads hlk
                subst hA2
                obtain rfl : z2 = (q2 : Int) := by
                  unfold natI at hz2'
                  rw [List.getElem?_map, hq2] at hz2'
                  exact (Option.some.inj hz2').symm
                have hnx := addAll_next (L := NQ) hq2
                rw [hLQ2] at hnx
                obtain ⟨A6, m6, c6, rfl, hm6, hsl6⟩ := hown.slI
                rw [natI_len] at hm6
                obtain ⟨bq, hbq⟩ : ∃ bq, decide (q2 ∈ LQ2) = bq := ⟨_, rfl⟩
                have HH := hide (has_nat LQ2 q2 bq hbq x5 A6 m6 c6 (by omega) hsl6)
                have hxs : (numCells (natI LQ2)).length ≤ 41 := by rw [num_len, natI_len]; exact hLQ2l
                have HB5 := hide hbel
                have HO5 := hide hown
                have HL5 := hide hlie
                have HS5 := hide hbel.size
                cases bq with
                | true =>
                  have Hn := hide (show addAll NQ (EQ.take (k + 1)) = LQ2 by rw [hnx]; unfold addU; rw [if_pos (of_decide_eq_true hbq)])
                  clear hbel hown hlie hsl6 hLQ2 hLQ2l hq2 hz2' hnx hbq hm6
                  go_wp2_with fail
                  with_reducible refine HH.out.mono ?_
                  rintro e w8 ⟨rfl, rfl⟩
                  go_wp2
                  go_roundw
                  case rel => exact ⟨k + 1, by omega, by go_num, HB5.out, by rw [Hn.out]; exact HO5.out, HL5.out⟩
                  case measure => simp [intOf]; omega
                | false =>
                  have Hn := hide (show addAll NQ (EQ.take (k + 1)) = LQ2 ++ [q2] by rw [hnx]; unfold addU; rw [if_neg (of_decide_eq_false hbq)])
                  clear hbel hown hlie hsl6 hLQ2 hLQ2l hq2 hz2' hnx hbq hm6
                  go_wp2_with fail
                  with_reducible refine HH.out.mono ?_
                  rintro e w8 ⟨rfl, rfl⟩
                  go_wp2_with (at_builtin; refine wp_push_far rfl (.tmp 115) (.tmp 120) 28 rfl 3 i0 _ 8 Tryd.underlying28 hi hz0 hz1 hz2 rfl xn.heap.size _ (numCells (natI LQ2)) rfl _ _ rfl HO5.out HS5.out _ rfl rfl (by omega) (by unfold maxLen; omega) _ ?_)
                  intro v' w7 ho7 hb7 hf7
                  have HO7 := hide (show Own w7 xn.heap.size 3 v' (numCells (natI (LQ2 ++ [q2]))) by
                    have e : numCells (natI (LQ2 ++ [q2])) = numCells (natI LQ2) ++ [.int .i64 (q2 : Int)] := by simp [numCells, natI]
                    rw [e]; exact ho7)
                  have HB7 := hide (HB5.out.trans hb7)
                  have HL7 := hide (HL5.out.far hf7)
                  clear ho7 hb7 hf7
                  go_wp2
                  go_roundw
                  case rel => exact ⟨k + 1, by omega, by go_num, HB7.out, by rw [Hn.out]; exact HO7.out, HL7.out⟩
                  case measure => simp [intOf]; omega
              · obtain rfl : k = ME := by omega
                have hlk' : ¬ (k : Int) < (k : Int) := by omega
                have e : EQ.take k = EQ := List.take_of_length_le (by rw [HME.out]; exact Nat.le_refl _)
                rw [e] at hLQ2
                have hx : nxt r s.data.toList ((LL r s.data.toList at_ n).take (j + 1)) = LQ2 := by rw [HNx.out, hLQ2]
                rw [← hx] at hown
                have HO6 := hide hown
                have HB6 := hide hbel
                clear hbel hown hlie hLQ2 hLQ2l hx e
                go_wp2_with fail
                go_roundw
                case rel => exact ⟨j + 1, by omega, by go_num, HB6.out, HO6.out⟩
                case measure => simp [intOf]; omega
          · obtain rfl : j = M := by omega
            have hlj' : ¬ (j : Int) < (j : Int) := by omega
            have e : (LL r s.data.toList at_ n).take j = LL r s.data.toList at_ n := List.take_of_length_le (by rw [HM.out]; exact Nat.le_refl _)
            rw [e] at hown
            obtain ⟨A5, m5, c5, rfl, hm5, hsl5⟩ := hown.slI
            rw [natI_len] at hm5
            subst hm5
            have HL5 := hide (Lies.new HO3.out hsl5 (fun ad e => by subst e; exact (hown.lt ad.block rfl).1))
            have HB5 := hide (HB2.out.trans (hbel.mono HS2.out))
            have HO5 := hide (HO3.out.below hbel)
            clear hbel hown hsl5 e
            go_wp2_with fail
            go_roundw
            case rel => exact ⟨n + 1, by omega, by go_num, HB5.out, HO5.out, A5, c5, rfl, HL5.out⟩
            case measure => simp [intOf]; omega
    · have hnK' : ¬ (n : Int) ≤ (K : Int) := by omega
      have hnk : n = K + 1 := by omega
      have hgl := gather_len hqx s.data.toList at_
      have hga := fun y => gather hqx s.data.toList at_ y
      simp only [HK.out, ← hnk] at hgl hga
      obtain ⟨A7, m7, c7, rfl, hm7, hsl7⟩ := HO.out.slI
      rw [natI_len, ← hgl] at hm7
      obtain ⟨EX, hEX⟩ : ∃ EX, endsA (timR least most r) s.data.toList at_ = EX := ⟨_, rfl⟩
      obtain ⟨AX, hAX⟩ : ∃ AX, AL r s.data.toList at_ least n = AX := ⟨_, rfl⟩
      rw [hEX, hAX] at hgl
      simp only [hEX, hAX] at hga
      rw [hAX] at hsl7
      rw [hEX] at hm7
      obtain ⟨ME, hME⟩ : ∃ ME, EX.length = ME := ⟨_, rfl⟩
      have hME41 : ME ≤ 41 := by rw [← hME, ← hEX]; have := endsA_len (timR least most r) s.data.toList at_; omega
      rw [hME] at hm7
      subst hm7
      have HEx := hide (fun (W : World) (v : Value) (h : RxV W anyB v (timR least most r)) (hT : HasT W) => (ends12 s (by omega) _ hzx.1 hzx.2 at_ W anyB v h hT).mono (R' := fun e w' => ∃ A c, e = .returned (.slice A m7 c) ∧ Sl w' A m7 c (numCells (natI EX)) ∧ Below W.heap.size W w') (fun e w' h => by rw [hEX] at h; exact grew_n h (by rw [natI_len]; exact hME)))
      have HME := hide hME
      have HGA := hide hga
      have HSL := hide hsl7
      have Bn := hide (bgo B.out HB.out)
      have Pn := hide (P9.out.below HB.out)
      have Tn := hide (Ta.out.below HB.out)
      have Thn := hide (Th.out.keep HB.out)
      have hnn : (m7 != m7) = false := by simp
      have hni : ((m7 : Int) != (m7 : Int)) = false := by simp
      clear hgl hga hsl7 hEX hAX hME hnk
      obtain ⟨-, t0, t1, t2, t3, t4⟩ := Pn.out.five
      obtain ⟨-, j0, j1, j2⟩ := Thn.out
      go_wp2_with fail
      with_reducible refine (HEx.out xn _ Pn.out.rx Tn.out).mono ?_
      rintro e w9 ⟨AE, cE, rfl, hsE, hX⟩
      clear t0 t1 t2 t3 t4 j0 j1 j2 HEx
      have B9 := hide (bgo Bn.out hX)
      have SE := hide hsE
      have SL9 := hide (HSL.out.below hX)
      clear hX hsE
      obtain ⟨x9, hx9⟩ : ∃ x9, x9 = w9 := ⟨w9, rfl⟩
      subst hx9
      go_wp2_with fail
      go_loopw [20] (fun y wr => ∃ i : Nat, i ≤ m7 ∧ y = .int .i64 (i : Int) ∧ x9 = wr) (fun y _ => m7 - (intOf y).toNat)
      case atStart => exact ⟨0, Nat.zero_le _, rfl, rfl⟩
      case round =>
        obtain ⟨i, hi2, rfl, rfl⟩ := hrel
        have hib : (i : Int) ≤ 41 := by omega
        by_cases hlt : i < m7
        · have hlt' : (i : Int) < (m7 : Int) := by omega
          obtain ⟨q, hq⟩ : ∃ q, EX[i]? = some q := ⟨_, List.getElem?_eq_getElem (by rw [HME.out]; exact hlt)⟩
          obtain ⟨ad, z, hA, hz, hcz⟩ := num_cell SE.out.reads hlt
          subst hA
          obtain rfl : z = (q : Int) := by
            unfold natI at hz
            rw [List.getElem?_map, hq] at hz
            exact (Option.some.inj hz).symm
          have HH := hide (has_nat AX q true (decide_eq_true ((HGA.out q).2 (List.mem_of_getElem? hq))) x9 A7 m7 c7 (by omega) SL9.out)
          clear hq hz
          go_wp2_with fail
          with_reducible refine HH.out.mono ?_
          rintro e w8 ⟨rfl, rfl⟩
          go_wp2
          go_roundw
          case rel => exact ⟨i + 1, by omega, by go_num, trivial⟩
          case measure => simp [intOf]; omega
        · obtain rfl : i = m7 := by omega
          have hlt' : ¬ (i : Int) < (i : Int) := by omega
          go_wp2
          go_ret
          exact ⟨rfl, B9.out⟩
end Go.Proofs.YtkghbhcjgogaeaaDoor
