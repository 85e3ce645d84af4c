/- Layer 10: walk of the reference: simple. -/
import Derived.Test.YtlnbjdlooghpeaaQi
import Derived.Deep.DeepCutAuto
namespace Go.Proofs.Ytlnbjdlooghpeaa
open Go.RowKit

theorem NdV.far {w w' : World} {ok : Nat → Prop} {v v' u : Value} {x : Nd} (h : NdV w (fun g => ok g ∧ v.ownBlock ≠ some g) u x) (hf : Far w w' v v') : NdV w' (fun g => ok g ∧ v'.ownBlock ≠ some g) u x :=
  h.map (fun p hp hlt => World.cell?_of_block (hf.2 p.block hlt hp.2).1) fun g hg hlt => ⟨hg.1, (hf.2 g hlt hg.2).2⟩
theorem Tri3.far {w w' : World} {b : Nat} {c0 c1 c2 v v' : Value} (h : Tri3 w b c0 c1 c2) (hn : v.ownBlock ≠ some b) (hf : Far w w' v v') : Tri3 w' b c0 c1 c2 ∧ v'.ownBlock ≠ some b := by
  obtain ⟨h0, h1, h2, h3⟩ := h
  obtain ⟨k1, k2⟩ := hf.2 b h0 hn
  have key : ∀ k : Nat, w'.cell? ⟨b, k, none⟩ = w.cell? ⟨b, k, none⟩ := fun k => World.cell?_of_block k1
  exact ⟨⟨Nat.lt_of_lt_of_le h0 hf.1, (key _).trans h1, (key _).trans h2, (key _).trans h3⟩, k2⟩
theorem simpL_next {k : Int} {l : List Nd} {i : Nat} {x : Nd} (h : l[i]? = some x) : simpL k [] (l.take (i + 1)) = addN k (simpL k [] (l.take i)) (simpN x) := by
  rw [simpL_eq, simpL_eq, takeN h, List.foldl_append]
  rfl
theorem onces_next {xs l : List Nd} {i : Nat} {x : Nd} (h : xs[i]? = some x) : (xs.take (i + 1)).foldl onceN l = onceN ((xs.take i).foldl onceN l) x := by
  rw [takeN h, List.foldl_append]
  rfl
theorem simpL_len (k : Int) (l : List Nd) (i : Nat) : (simpL k [] (l.take i)).length ≤ sizeNL l := by
  have h1 := simpL_size k (l.take i) [] fun n _ => simp_size n
  have h2 := sizeNL_take l i
  have h3 := sizeNL_len (simpL k [] (l.take i))
  rw [show sizeNL [] = 0 from by rw [sizeNL]] at h1
  omega
theorem once_grows (l : List Nd) (x : Nd) : l.length ≤ (onceN l x).length := by
  unfold onceN
  split
  · exact Nat.le_refl _
  · simp
theorem onces_grow : ∀ (xs l : List Nd), l.length ≤ (xs.foldl onceN l).length
  | [], _ => Nat.le_refl _
  | x :: xs, l => Nat.le_trans (once_grows l x) (onces_grow xs (onceN l x))
theorem onces_part (xs l : List Nd) (j : Nat) : ((xs.take j).foldl onceN l).length ≤ (xs.foldl onceN l).length := by
  have e : xs.foldl onceN l = (xs.drop j).foldl onceN ((xs.take j).foldl onceN l) := by rw [← List.foldl_append, List.take_append_drop]
  rw [e]
  exact onces_grow _ _
/-- A condition in old memory of which ok holds, or in new. -/
def GotM (W : World) (ok : Nat → Prop) (n : Nd) (e : Ending) (w' : World) : Prop := ∃ v, e = .returned v ∧ NdV w' (fun g => ok g ∨ W.heap.size ≤ g) v n ∧ Below W.heap.size W w'
theorem ndN_mk (n : Nd) : n = .mk n.kind n.gram n.subs := by cases n; rfl

set_option maxRecDepth 100000 in
set_option maxHeartbeats 12800000 in
theorem rsimple : ∀ (r : Nd) (W : World) (ok : Nat → Prop) (v : Value), NdV W ok v r → sizeN r ≤ 1000000 → Calls Try.prog 38 #[v] W (GotM W ok (simpN r)) := by
  intro r
  induction r using Nd.ind with
  | h k g l ih =>
    intro W ok v hv hsz
    rw [sizeN_mk] at hsz
    have hv0 := hv.old
    cases hv with
    | mk _ _ B m d vs _ hvs hlen hk hg hr =>
    have hmd := hvs.1
    have hdd := hvs.2.1
    have Hvs := hide (hvs.map (ok' := fun g => ok g ∧ g < W.heap.size) (fun _ _ _ => rfl) fun _ h hl => ⟨h, hl⟩)
    have Hlen := hide hlen
    have Hr := hide (fun i v x h1 h2 => (hr i v x h1 h2).old)
    have hml : m ≤ 1000000 := by have := sizeNL_len l; omega
    obtain ⟨h0, hh0⟩ : ∃ h0, W.heap.size = h0 := ⟨_, rfl⟩
    have hf0 := (triF_new W (.int .i64 k) (.int .i64 g) (.slice B m d) 35).keep (bel_alloc _ (.cells #[.int .i64 0, .int .i64 0, .slice none 0 0] 35))
    have hf1 := triF_new (W.alloc (.cells #[.int .i64 k, .int .i64 g, .slice B m d] 35)) (.int .i64 0) (.int .i64 0) (.slice none 0 0) 35
    have hbb := bnew (bel_alloc W (.cells #[.int .i64 k, .int .i64 g, .slice B m d] 35)) (.cells #[.int .i64 0, .int .i64 0, .slice none 0 0] 35)
    have hsz1 : (W.alloc (.cells #[.int .i64 k, .int .i64 g, .slice B m d] 35)).heap.size = h0 + 1 := by simp [hh0]
    have hsz2 : ((W.alloc (.cells #[.int .i64 k, .int .i64 g, .slice B m d] 35)).alloc (.cells #[.int .i64 0, .int .i64 0, .slice none 0 0] 35)).heap.size = h0 + 2 := by simp [hh0]
    rw [hsz1] at hf1
    rw [hh0] at hf0
    have HV := hide (hv0.kept hbb)
    obtain ⟨w1, hw1⟩ : ∃ w1, (W.alloc (.cells #[.int .i64 k, .int .i64 g, .slice B m d] 35)).alloc (.cells #[.int .i64 0, .int .i64 0, .slice none 0 0] 35) = w1 := ⟨_, rfl⟩
    rw [hw1] at hf1 hf0 hbb hsz2 HV
    have F0 := hide hf0
    have F1 := hide hf1
    have BB := hide hbb
    have Hh0 := hide hh0
    have Hw1 := hide hw1
    have Hz2 := hide hsz2
    have Hih := hide (fun x hx W ok v (h : NdV W ok v x) => ih x hx W ok v h (by have := sizeNL_mem hx; omega))
    have hln := simpL_len k l
    have Hln := hide (fun i => show (simpL k [] (l.take i)).length ≤ 1000000 by have := hln i; omega)
    clear hvs hlen hr hv0 ih hf0 hf1 hbb hsz1 hsz2 hln
    obtain ⟨⟨-, t0, t1, t2⟩, -⟩ := F0.out
    obtain ⟨⟨-, y0, y1, y2⟩, e0, e1, e2⟩ := F1.out
    by_cases hop : k = 4 ∨ k = 5
    case neg =>
      have h4' := int_ne (show k ≠ 4 by omega)
      have h5' := int_ne (show k ≠ 5 by omega)
      rw [simp_leaf hop]
      clear hop hw1 hh0
      go_enter Try.func38, Try.ntmps38
      go_upto_region 1 with fail
      rw [Hw1.out, Hh0.out]
      go_wp2
      exact bodyPost_ret (res_box rfl _ _ (h0 + 1) _ _ _ rfl (put3_tri F1.out _ _ _)) rfl ⟨_, rfl, put3_ndv HV.out (fun h => by have := h.2; rw [Hh0.out] at this; omega) (fun g hg => Or.inl hg.1), put3_below BB.out (by rw [Hh0.out]; omega)⟩
    rw [simp_op hop]
    have hskr : 1 ≤ skipK k ∧ skipK k ≤ 2 := by unfold skipK; split <;> omega
    have henr : 1 ≤ endK k ∧ endK k ≤ 2 := by unfold endK; split <;> omega
    obtain ⟨sk, hsk⟩ : ∃ sk, skipK k = sk := ⟨_, rfl⟩
    obtain ⟨en, hen⟩ : ∃ en, endK k = en := ⟨_, rfl⟩
    have Hsk := hide hsk
    have Hen := hide hen
    rw [hsk] at hskr
    rw [hen] at henr
    have Hop := hide hop
    have hk45 : 4 ≤ k ∧ k ≤ 5 := by omega
    have Hguard := hide (show k = 5 ∨ k = 4 by omega)
    clear hop hw1 hh0 hsk hen
    go_enter Try.func38, Try.ntmps38
    go_upto_region 1 with fail
    rw [Hw1.out, Hh0.out]
    go_cut [17] (fun q wx => w1 = wx ∧ q = .bool false)
    case first =>
      rcases Hguard.out with h5 | h4
      · have h5' := int_eq h5
        have h4' := int_ne (show k ≠ 4 by omega)
        go_wp2
        go_meet
        exact ⟨rfl, rfl⟩
      · have h4' := int_eq h4
        go_wp2
        go_meet
        exact ⟨rfl, rfl⟩
    case rest =>
    obtain ⟨rfl, rfl⟩ := hcut
    go_upto_if 21 with fail
    go_cut [3, 4] (fun a3 a4 wx => w1 = wx ∧ a3 = .int .i64 sk ∧ a4 = .int .i64 en)
    case first =>
      rcases Hguard.out with h5 | h4
      · have h5' := int_beq h5
        have Hs := hide (show (2 : Int) = sk by rw [← Hsk.out, h5]; rfl)
        have He := hide (show (1 : Int) = en by rw [← Hen.out, h5]; rfl)
        clear h5
        go_wp2
        go_meet
        exact ⟨rfl, by rw [Hs.out], by rw [He.out]⟩
      · have h4' := int_nbeq (show k ≠ 5 by omega)
        have Hs := hide (show (1 : Int) = sk by rw [← Hsk.out, h4]; rfl)
        have He := hide (show (2 : Int) = en by rw [← Hen.out, h4]; rfl)
        clear h4
        go_wp2
        go_meet
        exact ⟨rfl, by rw [Hs.out], by rw [He.out]⟩
    case rest =>
    obtain ⟨rfl, rfl, rfl⟩ := hcut
    clear t0 t1 t2 y0 y1 y2 e0 e1 e2
    go_wp2
    obtain ⟨okR, hokR⟩ : ∃ okR : Nat → Prop, (fun g => (ok g ∧ g < W.heap.size) ∨ h0 + 2 ≤ g) = okR := ⟨_, rfl⟩
    have HokR := hide hokR
    clear hokR
    go_loopw [5, 6, 7, 8] (fun v5 u6 _ _ wr => ∃ i : Nat, i ≤ m ∧ u6 = .int .i64 (i : Int) ∧ OwnN wr (h0 + 2) okR v5 (simpL k [] (l.take i)) ∧ Below (h0 + 2) w1 wr) (fun _ u6 _ _ _ => m - (intOf u6).toNat)
    case atStart => exact ⟨0, Nat.zero_le _, rfl, by rw [List.take_zero, simpL]; exact OwnN.nil _ _ _, Below.refl _ _⟩
    case round =>
      obtain ⟨i, hi, rfl, hown, hbel⟩ := hrel
      obtain ⟨w3, hw3⟩ : ∃ w3, w3 = wr := ⟨wr, rfl⟩
      subst hw3
      have HO := hide hown
      have B3 := hide hbel
      have F03 := hide (F0.out.at_ hbel (by omega))
      have F13 := hide (F1.out.at_ hbel (by omega))
      have BW := hide (show Below W.heap.size W w3 from BB.out.trans (hbel.mono (by rw [Hh0.out]; omega)))
      have hs3 := hbel.size
      rw [Hz2.out] at hs3
      have hib : (i : Int) ≤ 1000000 := by omega
      clear hown hbel
      obtain ⟨⟨-, t0, t1, t2⟩, -⟩ := F03.out
      by_cases hlt : i < m
      · have hlt' : (i : Int) < (m : Int) := by omega
        obtain ⟨b, o, c0, c1, c2, rfl, hx, x0, x1, x2⟩ := (Hvs.out.below BW.out).at_ hlt
        have hil : i < l.length := by rw [Hlen.out]; exact hlt
        have hxl := List.getElem?_eq_getElem hil
        have rx := Hr.out i _ _ hx hxl
        obtain ⟨x, hxe⟩ : ∃ x, l[i] = x := ⟨_, rfl⟩
        rw [hxe] at hxl rx
        have hmem : x ∈ l := List.mem_of_getElem? hxl
        have HC := hide (Hih.out x hmem w3 _ _ (rx.kept BW.out))
        have Hnx := hide (simpL_next (k := k) hxl)
        obtain ⟨acc, hacc⟩ : ∃ acc, simpL k [] (l.take i) = acc := ⟨_, rfl⟩
        have hal := Hln.out i
        have hal1 := Hln.out (i + 1)
        obtain ⟨X, hX⟩ : ∃ X, simpN x = X := ⟨_, rfl⟩
        have hXs : sizeN X ≤ 1000000 := by rw [← hX]; have h1 := simp_size x; have h2 := sizeNL_mem hmem; omega
        rw [hacc, hX] at Hnx
        rw [hacc] at hal
        have HO' := HO.out
        rw [hacc] at HO'
        have HO := hide HO'
        rw [hX] at HC
        clear hx hxl rx hxe hmem HO' hacc hX
        go_wp2_with fail
        with_reducible refine HC.out.mono ?_
        rintro e w4 ⟨v4, rfl, hnd, hb4⟩
        obtain ⟨kx, gx, Bx, mx, dx, rfl, hkx, hgx, hmx, hmdx, hddx, hkxr, -⟩ := ndv_shape hnd
        have hbo : ∀ gg, u5.ownBlock = some gg → h0 + 2 ≤ gg ∧ gg < w3.heap.size := fun gg hg => HO.out.lt hg
        have ND := hide (show NdV w4 (fun g => okR g ∧ u5.ownBlock ≠ some g) (.agg #[.int .i64 kx, .int .i64 gx, .slice Bx mx dx]) X from hnd.weak fun gg hg => by
          rw [← HokR.out]
          rcases hg with hg | hg
          · exact ⟨Or.inl hg, fun e => by have := hbo gg e; have := hg.2; rw [Hh0.out] at this; omega⟩
          · exact ⟨Or.inr (by omega), fun e => by have := hbo gg e; omega⟩)
        have O4 := hide (HO.out.below hb4)
        have B4 := hide (B3.out.trans (hb4.mono hs3))
        have F04 := hide (F03.out.keep hb4)
        have hs4 := hb4.size
        have Hkx := hide hkx
        have Hmx := hide hmx
        have hmx6 : mx ≤ 1000000 := by have h1 := sizeNL_len X.subs; have h2 := subs_size X; omega
        clear hnd hkx hgx hmx hb4 HC
        have hbx := bel_alloc w4 (.cells #[.int .i64 kx, .int .i64 gx, .slice Bx mx dx] 35)
        have T7 := hide (tri3_new w4 (.int .i64 kx) (.int .i64 gx) (.slice Bx mx dx) 35)
        have O5 := hide (O4.out.below hbx)
        have ND5 := hide (ND.out.kept hbx)
        have B5 := hide (B4.out.alloc (Nat.le_trans hs3 hs4) (.cells #[.int .i64 kx, .int .i64 gx, .slice Bx mx dx] 35))
        have F05 := hide (F04.out.keep hbx)
        have hno7 : u5.ownBlock ≠ some w4.heap.size := fun e => by have := hbo _ e; omega
        have Hno7 := hide hno7
        clear hbx hbo hno7 t0 t1 t2 x0 x1 x2
        go_upto_region 13 with fail
        obtain ⟨x5, hx5⟩ : ∃ x5, w4.alloc (.cells #[.int .i64 kx, .int .i64 gx, .slice Bx mx dx] 35) = x5 := ⟨_, rfl⟩
        obtain ⟨b7, hb7⟩ : ∃ b7, w4.heap.size = b7 := ⟨_, rfl⟩
        have hs5 : h0 + 2 ≤ x5.heap.size := by rw [← hx5]; simp; omega
        have hb72 : h0 + 2 ≤ b7 := by omega
        rw [hx5] at T7 O5 ND5 B5 F05 ⊢
        rw [hb7] at T7 Hno7 ⊢
        clear hx5 hb7 hs4
        obtain ⟨⟨-, t0, t1, t2⟩, -⟩ := F05.out
        obtain ⟨-, s0, s1, s2⟩ := T7.out
        by_cases hkk : kx = k
        · have hkk' := int_beq hkk
          have Had := hide (show simpL k [] (l.take (i + 1)) = X.subs.foldl onceN acc by rw [Hnx.out]; unfold addN; rw [if_pos (by rw [← Hkx.out]; exact hkk)])
          have hpart := fun j => onces_part X.subs acc j
          rw [← Had.out] at hpart
          have Hpart := hide (fun j => show ((X.subs.take j).foldl onceN acc).length ≤ 1000000 from Nat.le_trans (hpart j) hal1)
          clear hpart hkk
          go_wp2
          go_loopw [5, 8] (fun v5 u8 wr => ∃ j : Nat, j ≤ mx ∧ u8 = .int .i64 (j : Int) ∧ OwnN wr (h0 + 2) okR v5 ((X.subs.take j).foldl onceN acc) ∧ Tri3 wr b7 (.int .i64 kx) (.int .i64 gx) (.slice Bx mx dx) ∧ v5.ownBlock ≠ some b7 ∧ NdV wr (fun g => okR g ∧ v5.ownBlock ≠ some g) (.agg #[.int .i64 kx, .int .i64 gx, .slice Bx mx dx]) X ∧ Below (h0 + 2) w1 wr) (fun _ u8 _ => mx - (intOf u8).toNat)
          case atStart => exact ⟨0, Nat.zero_le _, rfl, O5.out, T7.out, Hno7.out, ND5.out, B5.out⟩
          case round =>
            obtain ⟨j, hj, rfl, hown, htri, hno, hnd, hbel⟩ := hrel
            obtain ⟨w6, hw6⟩ : ∃ w6, w6 = wr := ⟨wr, rfl⟩
            subst hw6
            have O6 := hide hown
            have T6 := hide htri
            have N6 := hide hno
            have D6 := hide hnd
            have B6 := hide hbel
            have hjb : (j : Int) ≤ 1000000 := by omega
            have hs6 : h0 + 2 ≤ w6.heap.size := by have := htri.1; omega
            obtain ⟨-, z0, z1, z2⟩ := htri
            clear hown hno hbel
            by_cases hjt : j < mx
            · have hjt' : (j : Int) < (mx : Int) := by omega
              obtain ⟨bb, oo, d0, d1, d2, y, rfl, hy, hyv, q0, q1, q2⟩ := ndv_sub hnd hjt
              have HC := hide (ronce O6.out hs6 (Hpart.out j) hyv)
              have Hn := hide (onces_next (l := acc) hy)
              clear hy hyv hnd
              go_wp2_with fail
              with_reducible refine HC.out.mono ?_
              rintro e w7 ⟨v7, rfl, ho7, hb7, hf7⟩
              obtain ⟨A7, m7, dd7, vs7, rfl, -, -, -⟩ := ho7.s
              have O7 := hide ho7
              have T7' := hide (T6.out.far N6.out hf7)
              have D7 := hide (D6.out.far hf7)
              have B7 := hide (B6.out.trans hb7)
              clear ho7 hb7 hf7 HC
              go_wp2
              go_roundw
              case rel => exact ⟨j + 1, by omega, by go_num, by rw [Hn.out]; exact O7.out, T7'.out.1, T7'.out.2, D7.out, B7.out⟩
              case measure => simp [intOf]; omega
            · have hjt' : ¬ (j : Int) < (mx : Int) := by omega
              have hall := O6.out
              rw [takeA X.subs (by rw [← Hmx.out]; omega), ← Had.out] at hall
              have OE := hide hall
              clear hall hnd
              go_wp2
              go_roundw
              case rel => exact ⟨i + 1, by omega, by go_num, OE.out, B6.out⟩
              case measure => simp [intOf]; omega
        · have hkk' := int_nbeq hkk
          by_cases hks : kx = sk
          · have hks' := int_eq hks
            have Had := hide (show simpL k [] (l.take (i + 1)) = acc by rw [Hnx.out]; unfold addN; rw [if_neg (by rw [← Hkx.out]; exact hkk), if_pos (by rw [← Hkx.out, Hsk.out]; exact hks)])
            clear hks hkk
            go_wp2
            go_roundw
            case rel => exact ⟨i + 1, by omega, by go_num, by rw [Had.out]; exact O5.out, B5.out⟩
            case measure => simp [intOf]; omega
          · have hks' := int_ne hks
            have Had := hide (show simpL k [] (l.take (i + 1)) = onceN acc X by rw [Hnx.out]; unfold addN; rw [if_neg (by rw [← Hkx.out]; exact hkk), if_neg (by rw [← Hkx.out, Hsk.out]; exact hks)])
            have HC := hide (ronce O5.out hs5 hal ND5.out)
            clear hks hkk
            go_wp2_with fail
            with_reducible refine HC.out.mono ?_
            rintro e w7 ⟨v7, rfl, ho7, hb7, hf7⟩
            obtain ⟨A7, m7, dd7, vs7, rfl, -, -, -⟩ := ho7.s
            have O7 := hide ho7
            have B7 := hide (B5.out.trans hb7)
            clear ho7 hb7 hf7 HC
            go_wp2
            go_roundw
            case rel => exact ⟨i + 1, by omega, by go_num, by rw [Had.out]; exact O7.out, B7.out⟩
            case measure => simp [intOf]; omega
      · have hlt' : ¬ (i : Int) < (m : Int) := by omega
        have hO := HO.out
        rw [takeA l (by rw [Hlen.out]; omega)] at hO
        have hrl := Hln.out i
        rw [takeA l (by rw [Hlen.out]; omega)] at hrl
        obtain ⟨r, hr⟩ : ∃ r, simpL k [] l = r := ⟨_, rfl⟩
        rw [hr] at hO hrl
        have Hres := hide (show closeN k (simpL k [] l) = if r.any (fun x => decide (x.kind = en)) = true then .mk en 0 [] else if r.length = 0 then .mk sk 0 [] else if r.length = 1 then r.headD (.mk 1 0 []) else .mk k 0 r by
          rw [hr]; unfold closeN; rw [Hen.out, Hsk.out])
        obtain ⟨A5, m5, d5, vs5, rfl, hm5, hns5, -⟩ := hO.s
        have hmd5 := hns5.1
        have hdd5 := hns5.2.1
        have Hm5 := hide hm5
        have OR := hide hO
        have hm56 : m5 ≤ 1000000 := by omega
        have F1W := hide (fun (w : World) (hb : Below w3.heap.size w3 w) => F13.out.keep hb)
        clear hO hr hns5 hm5
        have Hno1 := hide (show ¬ okR (h0 + 1) by rw [← HokR.out]; rintro (h | h); (have := h.2; rw [Hh0.out] at this; omega); omega)
        have Hup := hide (show ∀ gg, okR gg → (ok gg ∨ W.heap.size ≤ gg) by
          rw [← HokR.out]
          rintro gg (h | h)
          · exact Or.inl h.1
          · exact Or.inr (by rw [Hh0.out]; omega))
        obtain ⟨⟨-, y0, y1, y2⟩, e0, e1, e2⟩ := F13.out
        go_wp2
        go_loopw [9] (fun u9 wr => ∃ j : Nat, j ≤ m5 ∧ u9 = .int .i64 (j : Int) ∧ (∀ y ∈ r.take j, ¬ y.kind = en) ∧ w3 = wr) (fun u9 _ => m5 - (intOf u9).toNat)
        case atStart => exact ⟨0, Nat.zero_le _, rfl, by simp, rfl⟩
        case round =>
          obtain ⟨j, hj, rfl, hne, rfl⟩ := hrel
          have Hne := hide hne
          have hjb : (j : Int) ≤ 1000000 := by omega
          clear hne
          by_cases hjt : j < m5
          · have hjt' : (j : Int) < (m5 : Int) := by omega
            obtain ⟨bb, oo, d0, d1, d2, y, rfl, hy, hyv, q0, q1, q2⟩ := OR.out.get hjt
            obtain ⟨ky, gy, By, my, dy, e, hky, -⟩ := ndv_shape hyv
            injection e with e
            injection e with e
            simp only [List.cons.injEq, and_true] at e
            obtain ⟨rfl, rfl, rfl⟩ := e
            have Hky := hide hky
            have Hy := hide hy
            clear hky hy hyv
            by_cases hke : ky = en
            · have hke' := int_beq hke
              have Hr2 := hide (show closeN k (simpL k [] l) = .mk en 0 [] by rw [Hres.out, if_pos (List.any_eq_true.2 ⟨y, List.mem_of_getElem? Hy.out, by rw [decide_eq_true_eq, ← Hky.out]; exact hke⟩)])
              clear hke
              go_wp2
              exact bodyPost_ret (res_box rfl _ _ (h0 + 1) _ _ _ rfl (put3_tri F13.out (.int .i64 en) (.int .i64 0) (.slice none 0 0))) rfl ⟨_, rfl, by rw [Hr2.out]; exact ndv_leaf en 0 (by omega) (by omega), put3_below BW.out (by rw [Hh0.out]; omega)⟩
            · have hke' := int_nbeq hke
              have Hn := hide (show ∀ z ∈ r.take (j + 1), ¬ z.kind = en by
                intro z hz
                rw [takeN Hy.out, List.mem_append, List.mem_singleton] at hz
                rcases hz with hz | rfl
                · exact Hne.out z hz
                · rw [← Hky.out]; exact hke)
              clear hke
              go_wp2
              go_roundw
              case rel => exact ⟨j + 1, by omega, by go_num, Hn.out, trivial⟩
              case measure => simp [intOf]; omega
          · have hjt' : ¬ (j : Int) < (m5 : Int) := by omega
            have hall := Hne.out
            rw [takeA r (by rw [← Hm5.out]; omega)] at hall
            have hres := Hres.out
            rw [if_neg (by rw [List.any_eq_true]; rintro ⟨y, hy, h⟩; exact hall y hy (by simpa using h))] at hres
            clear hall
            by_cases hm0 : m5 = 0
            · have hm0' := int_beq (show (m5 : Int) = 0 by omega)
              have Hr2 := hide (show closeN k (simpL k [] l) = .mk sk 0 [] by rw [hres, if_pos (by rw [← Hm5.out]; exact hm0)])
              clear hm0 hres
              go_wp2
              exact bodyPost_ret (res_box rfl _ _ (h0 + 1) _ _ _ rfl (put3_tri F13.out (.int .i64 sk) (.int .i64 0) (.slice none 0 0))) rfl ⟨_, rfl, by rw [Hr2.out]; exact ndv_leaf sk 0 (by omega) (by omega), put3_below BW.out (by rw [Hh0.out]; omega)⟩
            · have hm0' := int_nbeq (show ¬ (m5 : Int) = 0 by omega)
              by_cases hm1 : m5 = 1
              · have hm1' := int_beq (show (m5 : Int) = 1 by omega)
                obtain ⟨bb, oo, d0, d1, d2, y, rfl, hy, hyv, q0, q1, q2⟩ := OR.out.get (show 0 < m5 by omega)
                have h01 : (0 : Int) < (m5 : Int) := by omega
                have Hr2 := hide (show closeN k (simpL k [] l) = y by
                  rw [hres, if_neg (by rw [← Hm5.out]; exact hm0), if_pos (by rw [← Hm5.out]; exact hm1)]
                  match r, hy with
                  | z :: r', hy => simp at hy; subst hy; rfl)
                have YV := hide hyv
                obtain ⟨ky, gy, By, my, dy, e, -⟩ := ndv_shape hyv
                injection e with e
                injection e with e
                simp only [List.cons.injEq, and_true] at e
                obtain ⟨rfl, rfl, rfl⟩ := e
                simp only [Nat.zero_mul, Nat.add_zero] at q0 q1 q2
                clear hm0 hm1 hres hy hyv
                go_wp2
                exact bodyPost_ret (res_box rfl _ _ (h0 + 1) _ _ _ rfl (put3_tri F13.out (.int .i64 ky) (.int .i64 gy) (.slice By my dy))) rfl ⟨_, rfl, by rw [Hr2.out]; exact put3_ndv YV.out (fun h => Hno1.out h.1) (fun gg h => Hup.out gg h.1), put3_below BW.out (by rw [Hh0.out]; omega)⟩
              · have hm1' := int_nbeq (show ¬ (m5 : Int) = 1 by omega)
                have Hr2 := hide (show closeN k (simpL k [] l) = .mk k 0 r by rw [hres, if_neg (by rw [← Hm5.out]; exact hm0), if_neg (by rw [← Hm5.out]; exact hm1)])
                have hndk := OR.out.nd k (by omega)
                have NK := hide (show NdV w3 okR (.agg #[.int .i64 k, .int .i64 0, .slice A5 m5 d5]) (.mk k 0 r) from hndk.weak fun gg h => by
                  rcases h with h | h
                  · exact h
                  · rw [← HokR.out]; exact Or.inr h)
                clear hm0 hm1 hres hndk
                go_wp2
                exact bodyPost_ret (res_box rfl _ _ (h0 + 1) _ _ _ rfl (put3_tri F13.out (.int .i64 k) (.int .i64 0) (.slice A5 m5 d5))) rfl ⟨_, rfl, by rw [Hr2.out]; exact put3_ndv NK.out Hno1.out Hup.out, put3_below BW.out (by rw [Hh0.out]; omega)⟩
end Go.Proofs.Ytlnbjdlooghpeaa
