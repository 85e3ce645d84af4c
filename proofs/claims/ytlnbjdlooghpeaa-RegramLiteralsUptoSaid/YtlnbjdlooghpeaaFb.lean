/- The program's regex.Fold: canonical ranges of a closure, the other case of a set's bytes, Fold. -/
import Derived.Test.YtlnbjdlooghpeaaFa
import Derived.Deep.RegionHeld3
import Derived.Deep.RegionWith
namespace Go.Proofs.Ytlnbjdlooghpeaa
open Go.RowKit


theorem cont_yes {g : Nat → Bool} {i : Nat} (h0 : 0 < i) (hi : i ≤ 256) (h : g (i - 1) = true) : ∃ m r, rgN g i = m ++ [r] ∧ r.2.toNat + 1 = i := by
  obtain ⟨j, rfl⟩ : ∃ j, i = j + 1 := ⟨i - 1, by omega⟩
  simp only [Nat.add_sub_cancel] at h
  have hv : (UInt8.ofNat j).toNat = j := by simp; omega
  have e : rgN g (j + 1) = addB (rgN g j) j := by show (if g j = true then _ else _) = _; rw [if_pos h]
  rw [e]
  rcases List.eq_nil_or_concat (rgN g j) with hnil | ⟨m, r, hmr⟩
  · exact ⟨[], (UInt8.ofNat j, UInt8.ofNat j), by rw [addB_none j hnil]; rfl, by simp only [hv]⟩
  · rw [List.concat_eq_append] at hmr
    rw [hmr]
    by_cases he : r.2.toNat + 1 = j
    · exact ⟨m, (r.1, UInt8.ofNat j), by rw [addB_yes m r j he], by simp only [hv]⟩
    · exact ⟨m ++ [r], (UInt8.ofNat j, UInt8.ofNat j), by rw [addB_no m r j he], by simp only [hv]⟩
theorem cont_no {g : Nat → Bool} {i : Nat} (hi : i < 256) (h : i = 0 ∨ g (i - 1) = false) (hg : g i = true) : rgN g (i + 1) = rgN g i ++ [(UInt8.ofNat i, UInt8.ofNat i)] := by
  have e : rgN g (i + 1) = addB (rgN g i) i := by show (if g i = true then _ else _) = _; rw [if_pos hg]
  rw [e]
  rcases List.eq_nil_or_concat (rgN g i) with hnil | ⟨m, r, hmr⟩
  · rw [addB_none i hnil, hnil]; rfl
  · rw [List.concat_eq_append] at hmr
    have hmem : r ∈ rgN g i := by rw [hmr]; simp
    obtain ⟨h1, h2⟩ := rgN_has g r.2 i (by omega)
    have h3 := h2 r hmem
    by_cases he : r.2.toNat + 1 = i
    · exfalso
      have hh : hasS (rgN g i) r.2 = true := by
        unfold hasS
        rw [List.any_eq_true]
        exact ⟨r, hmem, by simp [UInt8.le_iff_toNat_le, h3.1]⟩
      rw [h1] at hh
      simp at hh
      rcases h with h | h
      · omega
      · rw [show r.2.toNat = i - 1 by omega, h] at hh
        exact absurd hh.2 (by simp)
    · rw [hmr, addB_no m r i he]
theorem cont_set {g : Nat → Bool} {i : Nat} {m : List (UInt8 × UInt8)} {r : UInt8 × UInt8} (hg : g i = true) (hmr : rgN g i = m ++ [r]) (he : r.2.toNat + 1 = i) : rgN g (i + 1) = m ++ [(r.1, UInt8.ofNat i)] := by
  have e : rgN g (i + 1) = addB (rgN g i) i := by show (if g i = true then _ else _) = _; rw [if_pos hg]
  rw [e, hmr, addB_yes m r i he]
theorem cont_skip {g : Nat → Bool} {i : Nat} (hg : g i = false) : rgN g (i + 1) = rgN g i := by show (if g i = true then _ else _) = _; rw [hg]; rfl

set_option maxRecDepth 100000 in
set_option maxHeartbeats 6400000 in
theorem canon47 (N : Nat) (caps : Array Value) (f : UInt8 → Bool) (W : World)
    (hcf : ∀ (xs : Array Value) (W : World), (callFunc N xs).run Try.prog W = .ok (.enter N xs) W)
    (hp : ∀ (W' : World) (c : UInt8) (z : Int), z = (c.toNat : Int) → Below W.heap.size W W' → Calls Try.prog N (#[.int .u8 z] ++ caps) W' fun e w' => e = .returned (.bool (f c)) ∧ Below W'.heap.size W' w') :
    Calls Try.prog 43 #[.func (.func N) #[] caps] W (GotR W (rgN (fun i => f (UInt8.ofNat i)) 256)) := by
  obtain ⟨i0, hi, hz0, hz1, hz2⟩ := info_parts infoR
  obtain ⟨g, hg⟩ : ∃ g : Nat → Bool, (fun i => f (UInt8.ofNat i)) = g := ⟨_, rfl⟩
  have Hp := hide (show ∀ (W' : World) (i : Nat), i < 256 → Below W.heap.size W W' → Calls Try.prog N (#[.int .u8 (i : Int)] ++ caps) W' fun e w' => e = .returned (.bool (g i)) ∧ Below W'.heap.size W' w' from fun W' i hi hb => by
    have := hp W' (UInt8.ofNat i) (i : Int) (by simp; omega) hb
    rw [← hg]
    exact this)
  rw [hg]
  have Hnil := hide (show OwnR W W.heap.size (.slice none 0 0) [] from World.ownsRow_nil _ _ _ _)
  clear hp hg
  go_enter Try.func43, Try.ntmps43
  go_wp2
  go_loopw [3, 4, 7] (fun v b x wr => ∃ (i : Nat) (q : Bool), i ≤ 256 ∧ x = .int .i64 (i : Int) ∧ b = .bool q ∧ (q = true → 0 < i ∧ g (i - 1) = true) ∧ (q = false → i = 0 ∨ g (i - 1) = false) ∧ OwnR wr W.heap.size v (rgN g i) ∧ Below W.heap.size W wr) (fun _ _ x _ => 256 - (intOf x).toNat)
  case atStart => exact ⟨0, false, Nat.zero_le _, rfl, rfl, fun h => (by cases h), fun _ => Or.inl rfl, Hnil.out, Below.refl _ _⟩
  case round =>
    obtain ⟨i, q, hi1, rfl, rfl, hq1, hq2, ho, hb⟩ := hrel
    obtain ⟨w2, hw2⟩ : ∃ w2, w2 = wr := ⟨wr, rfl⟩
    subst hw2
    obtain ⟨v, hvv⟩ : ∃ v, v = u3 := ⟨u3, rfl⟩
    subst hvv
    have B := hide hb
    by_cases hlt : i < 256
    · have hlt' : (i : Int) < 256 := by omega
      have HC := hide (Hp.out w2 i hlt hb)
      have hln := rgN_len g i
      have hx : ((UInt8.ofNat i).toNat : Int) = (i : Int) := by simp; omega
      have Hx := hide hx
      clear hx
      cases hgi : g i with
      | false =>
        rw [hgi] at HC
        have Hn := hide (cont_skip hgi)
        have Hg := hide hgi
        have O := hide ho
        clear hgi hq1 hq2 ho hb
        go_wp2_with fail
        with_reducible refine HC.out.mono ?_
        rintro e w' ⟨rfl, hb'⟩
        have O' := hide (show OwnR w' W.heap.size v (rgN g (i + 1)) by rw [Hn.out]; exact O.out.below hb')
        have B' := hide (bgo B.out hb')
        clear hb'
        go_wp2
        go_roundw
        case rel => exact ⟨i + 1, false, by omega, by go_num, rfl, fun h => (by cases h), fun _ => Or.inr (by simpa using Hg.out), O'.out, B'.out⟩
        case measure => simp [intOf]; omega
      | true =>
        rw [hgi] at HC
        have Hg := hide hgi
        cases q with
        | false =>
          have Hn := hide (cont_no hlt (hq2 rfl) hgi)
          obtain ⟨l, hl⟩ : ∃ l, rgN g i = l := ⟨_, rfl⟩
          rw [hl] at ho hln Hn
          have O := hide ho
          clear hgi hq1 hq2 ho hb hl
          go_wp2_with fail
          with_reducible refine HC.out.mono ?_
          rintro e w' ⟨rfl, hb'⟩
          have O' := hide (O.out.below hb')
          have hbw := bgo B.out hb'
          have B' := hide hbw
          have hsz := hbw.size
          clear hb' hbw
          go_wp2_with (at_builtin; refine wp_push_rg rfl (.tmp 12) (.tmp 16) 22 rfl i0 (.agg #[.int .u8 0, .int .u8 0]) 2 Try.underlying22 hi hz0 hz1 hz2 rfl W.heap.size _ l rfl _ (UInt8.ofNat i, UInt8.ofNat i) _ _ Hx.out.symm Hx.out.symm O'.out hsz _ rfl rfl (by omega) (by unfold maxLen; omega) _ ?_)
          intro v' w5 ho5 hb5
          rw [← Hn.out] at ho5
          have O5 := hide ho5
          have B5 := hide (B'.out.trans hb5)
          clear ho5 hb5
          go_wp2
          go_roundw
          case rel => exact ⟨i + 1, true, by omega, by go_num, rfl, fun _ => ⟨by omega, by simpa using Hg.out⟩, fun h => (by cases h), O5.out, B5.out⟩
          case measure => simp [intOf]; omega
        | true =>
          obtain ⟨h0, h1⟩ := hq1 rfl
          obtain ⟨m, r, hmr, hr⟩ := cont_yes h0 (by omega) h1
          have Hn := hide (cont_set hgi hmr hr)
          rw [hmr] at ho hln
          have O := hide ho
          obtain ⟨j, hj⟩ : ∃ j, m.length = j := ⟨_, rfl⟩
          have Hj := hide hj
          have hjl : j + 1 ≤ i := by rw [List.length_append] at hln; simp at hln; omega
          clear hgi hq1 hq2 ho hb hmr h1 hr hj hln
          go_wp2_with fail
          with_reducible refine HC.out.mono ?_
          rintro e w' ⟨rfl, hb'⟩
          have ho := O.out.below hb'
          have B' := hide (bgo B.out hb')
          have how : w'.ownsRow W.heap.size 61 2 v (j + 1) (rgCells (m ++ [r])) := by
            have : OwnR w' W.heap.size v (m ++ [r]) := ho
            unfold OwnR at this
            rw [List.length_append, Hj.out] at this
            exact this
          obtain ⟨gg, cap, rfl, hgB, hgl⟩ := how.form (by omega)
          have hc := how.cellAt (j * 2 + 1) (by omega)
          have hfz := how.frozenAt (j * 2 + 1)
          have hgt := (rgCells_get (m ++ [r]) j r (by rw [← Hj.out]; simp)).2
          rw [hgt] at hc
          have hcap : j + 1 ≤ cap ∧ cap ≤ 9223372036854775807 := by
            obtain ⟨A1, n1, c1, e1, hn1, hs1⟩ := ho.s
            simp only [Value.slice.injEq] at e1
            obtain ⟨rfl, rfl, rfl⟩ := e1
            exact ⟨hs1.1, hs1.2.1⟩
          obtain ⟨hcap1, hcap2⟩ := hcap
          have O5 := row_set how (j * 2 + 1) (.int .u8 (i : Int))
          have e5 : (rgCells (m ++ [r])).set (j * 2 + 1) (.int .u8 (i : Int)) = rgCells (m ++ [(r.1, UInt8.ofNat i)]) := by
            have := rgCells_set m r.1 r.2 (UInt8.ofNat i)
            rw [Hj.out, Hx.out] at this
            exact this
          rw [e5] at O5
          have O6 := hide (show OwnR (w'.setCell ⟨gg, j * 2 + 1, none⟩ (.int .u8 (i : Int))) W.heap.size (.slice (some ⟨gg, 0, none⟩) (j + 1) cap) (rgN g (i + 1)) by
            unfold OwnR
            rw [Hn.out, List.length_append, Hj.out]
            exact O5)
          have B6 := hide (B'.out.setCell (show W.heap.size ≤ (⟨gg, j * 2 + 1, none⟩ : Addr).block from hgB) (.int .u8 (i : Int)))
          clear ho how hgt O5 e5 O hb'
          go_wp2
          go_roundw
          case rel => exact ⟨i + 1, true, by omega, by go_num, rfl, fun _ => ⟨by omega, by simpa using Hg.out⟩, fun h => (by cases h), O6.out, B6.out⟩
          case measure => simp [intOf]; omega
    · have e256 : i = 256 := by omega
      rw [e256] at ho
      have HO := hide ho
      have hge : ¬ (i : Int) < 256 := by omega
      clear ho hb hq1 hq2 e256 hlt
      go_wp2
      go_ret
      exact ⟨v, rfl, HO.out, B.out⟩



theorem run48 (xs : Array Value) (W : World) : (callFunc 44 xs).run Try.prog W = .ok (.enter 44 xs) W := by kernel_rfl
set_option maxRecDepth 100000 in
set_option maxHeartbeats 6400000 in
theorem fold48 {W : World} {ok : Nat → Prop} {A : Option Addr} {n d : Nat} {set : List (UInt8 × UInt8)} (x : UInt8) (z : Int) (hz : z = (x.toNat : Int)) (b : Nat) (hc : W.cell? ⟨b, 1, none⟩ = some (.slice A n d)) (h : RgS W ok A n d set) :
    Calls Try.prog 44 #[.int .u8 z, .pointer (some ⟨b, 0, none⟩)] W fun e w' => e = .returned (.bool (hasS set x || hasS set (other x))) ∧ Below W.heap.size W w' := by
  subst hz
  have hlt : b < W.heap.size := World.block_lt_of_cell? _ _ hc
  have Hc := hide (show ∀ X, Below W.heap.size W X → X.cell? ⟨b, 1, none⟩ = some (.slice A n d) from fun X hb => (hb.cell (p := ⟨b, 1, none⟩) hlt).trans hc)
  have H1 := hide (fun X (hb : Below W.heap.size W X) => phas72 (h.below hb) x _ rfl)
  have H2 := hide (fun X (hb : Below W.heap.size W X) => phas72 (h.below hb) (other x) _ rfl)
  obtain ⟨p, hp⟩ : ∃ p, hasS set x = p := ⟨_, rfl⟩
  obtain ⟨q, hq⟩ : ∃ q, hasS set (other x) = q := ⟨_, rfl⟩
  rw [hp] at H1
  rw [hq] at H2
  rw [hp, hq]
  have HO := hide (fun X => other49 x X)
  obtain ⟨y, hy⟩ : ∃ y, other x = y := ⟨_, rfl⟩
  rw [hy] at H2 HO
  clear hp hq hlt h hy
  have HK := hide (show ∀ X, Below W.heap.size W X → X.cell? ⟨b, 1, none⟩ = some (.slice A n d) ∧ Below W.heap.size W X from fun X hb => ⟨Hc.out X hb, hb⟩)
  have HKs := hide (show ∀ X Y, (X.cell? ⟨b, 1, none⟩ = some (.slice A n d) ∧ Below W.heap.size W X) → Below X.heap.size X Y → Y.cell? ⟨b, 1, none⟩ = some (.slice A n d) ∧ Below W.heap.size W Y from fun X Y h hb => HK.out Y (bgo h.2 hb))
  have HK0 := hide (show ∀ X, (X.cell? ⟨b, 1, none⟩ = some (.slice A n d) ∧ Below W.heap.size W X) → Below W.heap.size W X from fun X h => h.2)
  have HS0 := hide (bel_drew W)
  clear Hc
  cases p with
  | true =>
    go_enter Try.func44, Try.ntmps44
    go_wp2_with fail
    first
      | (go_region_with (first
          | (go_at_call 45; refine (H1.out _ ?_).mono ?_; (first | exact HS0.out | exact Below.refl _ _); rintro e w4 ⟨rfl, hb4⟩)))
      | fail
    all_goals
      have Bf := bgo HS0.out hb4
      go_wp2
      go_ret
      exact ⟨rfl, Bf⟩
  | false =>
    go_enter Try.func44, Try.ntmps44
    go_wp2_with fail
    first
      | (go_region_held3 (fun w' => w'.cell? ⟨b, 1, none⟩ = some (.slice A n d) ∧ Below W.heap.size W w')
          (first | assumption | exact HK.out _ HS0.out | exact HKs.out _ _ (by assumption) hb4)
          (first
            | (go_at_call 46; with_reducible refine (HO.out _).mono ?_; rintro e w5 ⟨rfl, rfl⟩)
            | (go_at_call 45; with_reducible refine (H1.out _ (HK0.out _ ?_)).mono ?_; assumption; rintro e w4 ⟨rfl, hb4⟩)
            | (go_at_call 45; with_reducible refine (H2.out _ (HK0.out _ ?_)).mono ?_; assumption; rintro e w4 ⟨rfl, hb4⟩)))
      | fail
    all_goals
      have Bf := HK0.out _ (by assumption)
      go_wp2
      go_ret
      exact ⟨rfl, Bf⟩



theorem other_oth (c : UInt8) : other c = othB c := rfl
theorem canon_fold (set : List (UInt8 × UInt8)) : rgN (fun i => hasS set (UInt8.ofNat i) || hasS set (other (UInt8.ofNat i))) 256 = foldSet set := by
  have h := fun i (hi : i < 256) => has_foldSet set (UInt8.ofNat i)
  unfold foldSet at h ⊢
  refine rgN_congr 256 fun i hi => ?_
  have hv : (UInt8.ofNat i).toNat = i := by simp; omega
  have h2 := h i hi
  rw [(rgN_has _ _ 256 (Nat.le_refl _)).1, hv, decide_eq_true hi, Bool.true_and] at h2
  rw [h2]
  rfl
theorem canon_nil : rgN (fun i => hasS [] (UInt8.ofNat i) || hasS [] (other (UInt8.ofNat i))) 256 = [] := by
  have : ∀ n, rgN (fun i => hasS [] (UInt8.ofNat i) || hasS [] (other (UInt8.ofNat i))) n = [] := by
    intro n
    induction n with
    | zero => rfl
    | succ n ih => exact (cont_skip (by rfl)).trans ih
  exact this 256
theorem foldL_app : ∀ (l : List Rx) (x : Rx), foldL (l ++ [x]) = foldL l ++ [foldR x]
  | [], x => rfl
  | y :: l, x => by simp only [List.cons_append, foldL, foldL_app l x]
theorem rxv_agg_set {W : World} {k a b : Int} {v : Value} {set : List (UInt8 × UInt8)} {xs : List Rx} {B : Nat} {u : Value} (hu : OwnR W B u set) (hx : OwnX W B v xs)
    (hk : -9223372036854775808 ≤ k ∧ k ≤ 9223372036854775807) (ha : -9223372036854775808 ≤ a ∧ a ≤ 9223372036854775807) (hb : -9223372036854775808 ≤ b ∧ b ≤ 9223372036854775807) :
    RxV W (fun g => B ≤ g) (.agg #[.int .i64 k, u, .int .i64 a, .int .i64 b, v]) (.mk k set a b xs) := by
  obtain ⟨A, n, c, rfl, _, hs⟩ := hu.s
  obtain ⟨A', m, d, vs, rfl, hm, hvs, hr⟩ := hx.s
  exact .mk k a b A A' n c m d set vs xs hs hvs hm.symm hk ha hb hr

set_option maxRecDepth 100000 in
set_option maxHeartbeats 12800000 in
theorem pfold24 : ∀ (r : Rx) (W : World) (ok : Nat → Prop) (v : Value), RxV W ok v r → nodeR r = 0 → sizeR r ≤ 1000000 → Calls Try.prog 24 #[v] W fun e w' => ∃ v', e = .returned v' ∧ RxV w' (fun g => W.heap.size ≤ g) v' (foldR r) ∧ Below W.heap.size W w' := by
  intro r
  induction r using Rx.ind with
  | h k s a b l ih =>
    intro W ok v hv hnode hsz
    obtain ⟨i0, hi, hz0, hz1, hz2⟩ := info_parts infoX
    cases hv with
    | mk _ _ _ A B n c m d _ vs _ hset hvs hlen hk ha hb hr =>
    have hmd := hvs.1
    have hdd := hvs.2.1
    obtain ⟨hf, _, hsub⟩ := node_ok hnode
    have hml : m ≤ 1000000 := by have := sizeL_len l; unfold sizeR at hsz; omega
    have hszl : sizeL l ≤ 1000000 := by unfold sizeR at hsz; omega
    have Hres := hide (show foldR (.mk k s a b l) = .mk k (rgN (fun i => hasS s (UInt8.ofNat i) || hasS s (other (UInt8.ofNat i))) 256) a b (foldL l) by
      unfold foldR
      congr 1
      by_cases h1 : k = 1
      · rw [if_pos h1, canon_fold]
      · have := (fields_of hf).2.1
        rw [if_neg h1]
        have hs : s = [] := by
          cases s with
          | nil => rfl
          | cons x t => exact absurd (this.2 (by simp)) h1
        rw [hs, canon_nil])
    obtain ⟨w1, hw1⟩ : ∃ w1, W.alloc (.cells #[.int .i64 k, .slice A n c, .int .i64 a, .int .i64 b, .slice B m d] 25) = w1 := ⟨_, rfl⟩
    have hs1 : w1.heap.size = W.heap.size + 1 := by rw [← hw1]; simp
    have hB1 : Below W.heap.size W w1 := by rw [← hw1]; exact bnew (Below.refl _ W) _
    obtain ⟨w0, hw0⟩ : ∃ w0, w1.alloc (.cells #[.int .i64 0, .slice none 0 0, .int .i64 0, .int .i64 0, .slice none 0 0] 25) = w0 := ⟨_, rfl⟩
    have hb10 : Below w1.heap.size w1 w0 := by rw [← hw0]; exact bnew (Below.refl _ w1) _
    have hs0 : w0.heap.size = W.heap.size + 2 := by rw [← hw0]; simp [hs1]
    have hF : Five w0 W.heap.size (.int .i64 k) (.slice A n c) (.int .i64 a) (.int .i64 b) (.slice B m d) := by
      have := five_new W (.int .i64 k) (.slice A n c) (.int .i64 a) (.int .i64 b) (.slice B m d) 25
      rw [hw1] at this
      exact this.keep hb10
    have hG : FiveF w0 w1.heap.size (.int .i64 0) (.slice none 0 0) (.int .i64 0) (.int .i64 0) (.slice none 0 0) := by
      have := fiveF_new w1 (.int .i64 0) (.slice none 0 0) (.int .i64 0) (.int .i64 0) (.slice none 0 0) 25
      rw [hw0] at this
      exact this
    have Hs1 := hide hs1
    have hB0 : Below W.heap.size W w0 := bgo hB1 hb10
    have F := hide hF
    have G := hide hG
    have BB := hide hB0
    have Hs := hide ((SubsS.of hvs hlen hr).below hB0)
    have HS := hide (hset.below hB0)
    have Hlen := hide hlen
    have Hsub := hide hsub
    have hs0' : w0.heap.size ≤ W.heap.size + 2 := by omega
    have hs0p : W.heap.size + 2 ≤ w0.heap.size := by omega
    obtain ⟨_, t0, t1, t2, t3, t4⟩ := hF
    clear hset hvs hr hlen hnode hf hsub hB0 hB1 hb10 hG hs0 hs1 hsz
    go_enter Try.func24, Try.ntmps24
    go_wp2
    clear t0 t1 t2 t3 t4
    go_loopw [3, 10] (fun u x wr => ∃ i : Nat, i ≤ m ∧ x = .int .i64 (i : Int) ∧ OwnX wr (W.heap.size + 2) u (foldL (l.take i)) ∧ Below (W.heap.size + 2) w0 wr) (fun _ x _ => m - (intOf x).toNat)
    case atStart => exact ⟨0, Nat.zero_le _, rfl, OwnX.nil _ _, Below.refl _ _⟩
    case round =>
      obtain ⟨i, hi1, rfl, ho, hbel⟩ := hrel
      obtain ⟨w3, hw3⟩ : ∃ w3, w3 = wr := ⟨wr, rfl⟩
      subst hw3
      obtain ⟨u, huu⟩ : ∃ u, u = u3 := ⟨u3, rfl⟩
      subst huu
      have hbel0 := hbel.mono hs0'
      have hsz3 : W.heap.size + 2 ≤ w3.heap.size := Nat.le_trans hs0p hbel.size
      have B3 := hide hbel
      have O3 := hide ho
      have Fl := hide (show (foldL (l.take i)).length = i by rw [foldL_len, List.length_take, Hlen.out]; omega)
      by_cases hlt : i < m
      · have hlt' : (i : Int) < (m : Int) := by omega
        obtain ⟨x, g, o, q0, qA, qn, qc, q1, q2, qB, qm, qd, hxl, rfl, x0, x1, x2, x3, x4, rx⟩ := (Hs.out.below hbel0).at_ hlt
        have hmem : x ∈ l := List.mem_of_getElem? hxl
        have hb5 := bnew (Below.refl _ w3) (.cells #[.int .i64 q0, .slice qA qn qc, .int .i64 q1, .int .i64 q2, .slice qB qm qd] 25)
        have hfv := five_new w3 (.int .i64 q0) (.slice qA qn qc) (.int .i64 q1) (.int .i64 q2) (.slice qB qm qd) 25
        obtain ⟨-, y0, y1, y2, y3, y4⟩ := hfv
        have HC := hide (ih x hmem _ ok _ (rx.kept hb5) (Hsub.out x hmem) (by have := sizeL_mem hmem; omega))
        have Hn := hide (show foldL (l.take i) ++ [foldR x] = foldL (l.take (i + 1)) by rw [rx_take hxl, foldL_app])
        have O4 := hide (ho.below hb5)
        have B4 := hide (hbel.trans (hb5.mono hsz3))
        have hsz4 : (w3.alloc (.cells #[.int .i64 q0, .slice qA qn qc, .int .i64 q1, .int .i64 q2, .slice qB qm qd] 25)).heap.size = w3.heap.size + 1 := by simp
        have hul : ∀ g, u.ownBlock = some g → g < w3.heap.size := fun g hg => by
          obtain ⟨cs, vs, h1, _⟩ := ho
          exact (h1.lt g hg).2
        have Hul := hide hul
        have Hsz4 := hide hsz4
        clear hxl rx hmem hbel hbel0 ho hul hsz4 hb5
        go_wp2_with fail
        with_reducible refine HC.out.mono ?_
        rintro e w5 ⟨v5, rfl, hr5, hb5⟩
        obtain ⟨p0, pA, pn, pc, p1, p2, pB, pm, pd, rfl⟩ := hr5.nine
        have O5 := hide (O4.out.below hb5)
        have hsz5 : w3.heap.size + 1 ≤ w5.heap.size := by rw [← Hsz4.out]; exact hb5.size
        have B5 := hide (B4.out.trans (hb5.mono (by rw [Hsz4.out]; omega)))
        have hB5 : W.heap.size + 2 ≤ w5.heap.size := by omega
        have R5 := hide (hr5.map (fun _ _ _ => rfl) fun g hg _ => (⟨by rw [Hsz4.out] at hg; omega, fun e => by have := Hul.out g e; rw [Hsz4.out] at hg; omega⟩ : W.heap.size + 2 ≤ g ∧ u.ownBlock ≠ some g))
        clear hr5 hb5 y0 y1 y2 y3 y4 x0 x1 x2 x3 x4
        go_wp2_with (first
          | (at_builtin; refine wp_push_rx rfl (.tmp 14) (.tmp 17) 23 rfl i0 _ 72 Try.underlying23 hi hz0 hz1 hz2 rfl (W.heap.size + 2) u (foldL (l.take i)) rfl w5 _ _ _ _ _ (foldR x) O5.out hB5 _ rfl rfl R5.out (by rw [Fl.out]; omega) (by rw [Fl.out]; unfold maxLen; omega) ?_; intro v7 w7 hown7 hb7; rw [Hn.out] at hown7; have O7 := hide hown7; have B7 := hide (B5.out.trans hb7); clear hown7 hb7)
          | fail)
        go_roundw
        case rel => exact ⟨i + 1, by omega, by go_num, O7.out, B7.out⟩
        case measure => simp [intOf]; omega
      · have hlt' : ¬ (i : Int) < (m : Int) := by omega
        have hall : l.take i = l := List.take_of_length_le (by rw [Hlen.out]; omega)
        rw [hall] at ho
        have O4 := hide ho
        have hf3 := F.out.keep hbel0
        have HF3 := hide hf3
        have HC := hide (canon47 44 #[.pointer (some ⟨W.heap.size, 0, none⟩)] (fun x => hasS s x || hasS s (other x)) w3 run48 (fun W' c z hz hb' => fold48 c z hz W.heap.size (hf3.keep hb').2.2.1 ((HS.out.below hbel0).below hb')))
        clear hall ho hbel hbel0 hf3 O3
        go_wp2_with fail
        with_reducible refine HC.out.mono ?_
        rintro e w5 ⟨v5, rfl, ho5, hb5⟩
        have hf5 := HF3.out.keep hb5
        obtain ⟨-, t0, t1, t2, t3, t4⟩ := hf5
        have hB5 := B3.out.trans (hb5.mono hsz3)
        have hg5 := G.out.at_ hB5 (by rw [Hs1.out]; omega)
        have HG5 := hide hg5
        obtain ⟨⟨-, f1, f2, f3, f4, f5⟩, f6, f7, f8, f9, f10⟩ := hg5
        have RX := hide (rxv_agg_set (ho5.mono hsz3) (O4.out.below hb5) hk ha hb)
        obtain ⟨pA, pn, pc, rfl, -, -⟩ := ho5.s
        obtain ⟨oA, on, oc, ovs, rfl, -, -, -⟩ := O4.out.s
        have HBx := hide (BB.out.trans ((hB5).mono (Nat.le_add_right _ 2)))
        clear ho5 hb5 hB5 O4
        go_wp2
        exact bodyPost_ret (res_boxR rfl _ _ w1.heap.size _ _ _ _ _ rfl (put5_five HG5.out (.int .i64 k) (.slice pA pn pc) (.int .i64 a) (.int .i64 b) (.slice oA on oc))) rfl ⟨_, rfl, by rw [Hres.out]; exact put5_rxv RX.out (by rw [Hs1.out]; omega) _ (by omega), put5_below HBx.out (by rw [Hs1.out]; omega)⟩


/-- What the laws ask of it. -/
theorem foldC {W : World} {ok : Nat → Prop} {v : Value} {r : Rx} (h : RxV W ok v r) (hr : rightR r = 0) : Calls Try.prog 24 #[v] W fun e w' => ∃ v', e = .returned v' ∧ RxV w' (fun _ => True) v' (foldR r) ∧ Below W.heap.size W w' := by
  obtain ⟨h1, h2, -⟩ := right_node hr
  refine (pfold24 r W ok v h h1 (by omega)).mono ?_
  rintro e w' ⟨v', rfl, h3, h4⟩
  exact ⟨v', rfl, h3.map (fun _ _ _ => rfl) (fun _ _ _ => trivial), h4⟩
end Go.Proofs.Ytlnbjdlooghpeaa
