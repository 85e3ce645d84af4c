/- Walk of layer 5's reference: Unpack. -/
import Derived.Test.YtfljmnjcoagbmaaR7
namespace Go.Proofs.Ytfljmnjcoagbmaa
open Go.RowKit
open Go.Lib (byteCells)

theorem gl_len (l : List UInt8) : ∀ (k : Nat) (xs : List Int) (nxt : Nat) (ys : List Int) (i : Nat), gl l k xs nxt = (ys, i, 0) → ys.length = xs.length + k
  | 0, xs, nxt, ys, i, h => by
    simp only [gl, Prod.mk.injEq] at h
    rw [← h.1, Nat.add_zero]
  | k + 1, xs, nxt, ys, i, h => by
    unfold gl at h
    split at h
    · rename_i h1
      simp only [Prod.mk.injEq] at h
      exact absurd h.2.2 h1
    · split at h
      · simp at h
      · split at h
        · simp at h
        · have := gl_len l k _ _ ys i h
          rw [List.length_append] at this
          simp at this
          omega
theorem getL_len (l : List UInt8) (i most : Int) (xs : List Int) (nx : Nat) (h : getL l i most = (xs, nx, 0)) : (xs.length : Int) ≤ most := by
  unfold getL at h
  split at h
  · rename_i h1
    simp only [Prod.mk.injEq] at h
    exact absurd h.2.2 h1
  · split at h
    · simp at h
    · rename_i h2
      have := gl_len l _ _ _ xs nx h
      simp at this
      omega
theorem skip_pos (b : List UInt8) : ∀ (n : Nat) (i j : Int), 0 ≤ i → skipP b n i = some j → 0 ≤ j
  | 0, i, j, h, e => by simp only [skipP, Option.some.injEq] at e; omega
  | n + 1, i, j, h, e => by
    obtain ⟨⟨x, nx, er⟩, hg⟩ : ∃ g, getP b i = g := ⟨_, rfl⟩
    by_cases her : er = 0
    · subst her
      rw [skip_ok b n i x nx hg] at e
      exact skip_pos b n _ j (by omega) e
    · rw [skip_bad b n i x nx er hg her] at e
      cases e
theorem parts_bad (b : List UInt8) (k : Nat) (i : Int) (xs ys : List Int) (nx er : Nat) (hg : getL b i 16 = (ys, nx, er)) (he : er ≠ 0) : partsP b (k + 1) i xs = none := by
  show (if _ then none else partsP b k _ _) = none
  rw [hg, if_pos he]
theorem parts_ok (b : List UInt8) (k : Nat) (i : Int) (xs ys : List Int) (nx : Nat) (hg : getL b i 16 = (ys, nx, 0)) : partsP b (k + 1) i xs = partsP b k (nx : Int) (xs ++ ys) := by
  show (if _ then none else partsP b k _ _) = _
  rw [hg, if_neg (by simp)]
theorem Sl.conv {w : World} {A : Option Addr} {n c : Nat} {l : List UInt8} (h : Sl w A n c (byteCells l)) : (convert 30 9 (.slice A n c)).run Try.prog w = .ok (.string ⟨l.toArray⟩) w :=
  conv_run h.2.2.2 30 9 5 Try.underlying30 Try.underlying5 Try.underlying9 (fun e => by have := h.2.2.1 e; have := h.1; omega)

/-- What Unpack returns. -/
def unpR (r : Option (List Int)) : List Int × Nat := match r with | some l => (l, 0) | none => ([], 3)
def GotU (w : World) (r : List Int × Nat) (e : Ending) (w' : World) : Prop := ∃ v, e = .returned (.tuple #[v, .int .i64 (r.2 : Int)]) ∧ Own w' w.heap.size 3 v (numCells r.1) ∧ Below w.heap.size w w'
theorem GotU.none {w w' : World} {r : Option (List Int)} (hr : r = none) (hb : Below w.heap.size w w') : GotU w (unpR r) (.returned (.tuple #[.slice .none 0 0, .int .i64 3])) w' := by
  subst hr
  exact ⟨_, rfl, World.ownsRow_nil _ _ _ _, hb⟩

section
variable (cPut : ∀ (A : Option Addr) (n c : Nat) (l : List UInt8) (i : Int) (w : World), Sl w A n c (byteCells l) → i ≤ 9223372036854775807 → n ≤ 1000000000 → Calls Try.prog 42 #[.slice A n c, .int .i64 i] w (Grew w w.heap.size (l ++ enc i.toNat)))
variable (cPutL : ∀ (A A' : Option Addr) (n c n' c' : Nat) (b : List UInt8) (xs : List Int) (w : World), Sl w A n c (byteCells b) → Sl w A' n' c' (numCells xs) → n ≤ 10000000 → n' ≤ 10000000 → (∀ z ∈ xs, z ≤ 9223372036854775807) → Calls Try.prog 43 #[.slice A n c, .slice A' n' c'] w (PutL w (putL b xs)))
variable (cGet : ∀ (B : Nat) (A : Option Addr) (n c : Nat) (l : List UInt8) (w : World), Reads w B A n (byteCells l) → n ≤ c → c ≤ 9223372036854775807 → ∀ (i : Int) (x nx er : Nat), getP l i = (x, nx, er) →
    Calls Try.prog 47 #[.slice A n c, .int .i64 i] w fun e w' => e = .returned (.tuple #[.int .i64 (x : Int), .int .i64 (nx : Int), .int .i64 (er : Int)]) ∧ w = w')
variable (cGetL : ∀ (A : Option Addr) (n c : Nat) (l : List UInt8) (w : World), Sl w A n c (byteCells l) → n ≤ 1000000000 → ∀ (i most : Int), Calls Try.prog 49 #[.slice A n c, .int .i64 i, .int .i64 most] w (GotL w (getL l i most)))

include cPut cPutL cGet cGetL in
set_option maxRecDepth 20000 in
set_option maxHeartbeats 3200000 in
theorem runpack28 (A : Option Addr) (n c : Nat) (b : List UInt8) (w : World) (h : Sl w A n c (byteCells b)) (hn : n ≤ 100000000) :
    Calls Try.prog 28 #[.slice A n c] w (GotU w (unpR (unpackP b))) := by
  obtain ⟨i0, hi, hz0, hz1, hz2⟩ := info_parts infoI
  have hnc := h.1
  have hcc := h.2.1
  have Hlen := hide h.len
  have H := hide h
  have CPut := hide cPut
  have CPutL := hide cPutL
  have CGet := hide cGet
  have CGetL := hide cGetL
  clear h cPut cPutL cGet cGetL
  obtain ⟨⟨x, nx, er⟩, hg⟩ : ∃ g, getP b 0 = g := ⟨_, rfl⟩
  have Hg := hide hg
  by_cases her : er = 0
  · subst her
    by_cases hbig : 10000 < x
    · have hr : unpackP b = none := by unfold unpackP readP; rw [hg, if_pos (Or.inr hbig)]; rfl
      have Hr := hide hr
      have hbig' : (10000 : Int) < (x : Int) := by omega
      clear hg hr
      go_enter Try.func28, Try.ntmps28
      go_wp2_with fail
      with_reducible refine (CGet.out _ A n c b _ H.out.reads hnc hcc 0 x nx 0 Hg.out).mono ?_
      rintro e w' ⟨rfl, rfl⟩
      go_wp2
      go_ret2
      exact GotU.none Hr.out (Below.refl _ _)
    · obtain ⟨K, hK⟩ : ∃ K, (x + 15) / 16 = K := ⟨_, rfl⟩
      have hread : readP b = (skipP b (2 * K) (nx : Int)).bind fun i => partsP b K i [] := by
        unfold readP
        rw [hg, if_neg (by simp; omega), ← hK]
      have Hread := hide hread
      have hKb : K ≤ 626 := by omega
      have hK1 : ((x : Int) + 16 - 1) / 16 = (K : Int) := by omega
      have hK2 : ((x : Int) + 15) / 16 = (K : Int) := by omega
      obtain ⟨D, hD⟩ : ∃ D, 2 * K = D := ⟨_, rfl⟩
      have hDi : (2 : Int) * (K : Int) = (D : Int) := by omega
      rw [hD] at Hread
      have hDb : D ≤ 2000 := by omega
      clear hg hread hK hD
      go_enter Try.func28, Try.ntmps28
      go_wp2_with fail
      with_reducible refine (CGet.out _ A n c b _ H.out.reads hnc hcc 0 x nx 0 Hg.out).mono ?_
      rintro e w' ⟨rfl, rfl⟩
      go_wp2_with fail
      refine (rskip48 CGet.out _ A n c b _ H.out.reads hnc hcc (nx : Int) D (by omega)).mono ?_
      rintro e w' ⟨rfl, rfl⟩
      cases hsk : skipP b D (nx : Int) with
      | none =>
        have hr : unpackP b = none := by unfold unpackP; rw [Hread.out, hsk]; rfl
        have Hr := hide hr
        clear hr hsk
        show _
        rw [show skipV none = -1 from rfl]
        go_wp2
        go_ret2
        exact GotU.none Hr.out (Below.refl _ _)
      | some y0 =>
        have hy0 := skip_pos b D _ y0 (by omega) hsk
        rw [hsk] at Hread
        obtain ⟨R, hR⟩ : ∃ R, partsP b K y0 [] = R := ⟨_, rfl⟩
        have hrd : readP b = R := by rw [Hread.out, ← hR]; rfl
        have Hrd := hide hrd
        have HR := hide hR
        clear hsk hR hrd Hread
        rw [show skipV (some y0) = y0 from rfl]
        go_wp2
        go_loopw [5, 8, 9] (fun u v z wr => ∃ (t : Nat) (y : Int) (xs : List Int), t ≤ K ∧ z = .int .i64 t ∧ u = .int .i64 y ∧ xs.length ≤ 16 * t ∧ partsP b (K - t) y xs = R ∧ Own wr w.heap.size 3 v (numCells xs) ∧ Below w.heap.size w wr) (fun _ _ z _ => K - (intOf z).toNat)
        case atStart => exact ⟨0, y0, [], Nat.zero_le _, rfl, rfl, by simp, HR.out, own_none w, bnew (Below.refl _ w) _⟩
        case round =>
          obtain ⟨t, y, xs, htK, rfl, rfl, hxl, hp, hown, hbel⟩ := hrel
          have hsz := hbel.size
          have Hb := hide hbel
          have Hown := hide hown
          have K1 := hide (H.out.below hbel)
          by_cases hlt : t < K
          · obtain ⟨⟨ys, ny, er⟩, hgl⟩ : ∃ g, getL b y 16 = g := ⟨_, rfl⟩
            have Hgl := hide hgl
            rw [show K - t = (K - (t + 1)) + 1 by omega] at hp
            have htK' : (t : Int) < (K : Int) := by omega
            by_cases her : er = 0
            · subst her
              have hyl := getL_len b y 16 ys ny hgl
              rw [parts_ok b _ y xs ys ny hgl] at hp
              have Hp := hide hp
              clear hp hgl hbel hown
              go_wp2_with fail
              refine (CGetL.out A n c b _ K1.out (by omega) y 16).mono ?_
              rw [Hgl.out]
              rintro e w2 ⟨v2, rfl, hown2, hb2⟩
              have hown2' : Own w2 wr.heap.size 3 v2 (numCells ys) := hown2
              obtain ⟨A2, m2, c2, rfl, hm2, hs2⟩ := hown2'.slI
              have hm2b : m2 ≤ 16 := by omega
              have S2 := hide hs2
              have Hown2 := hide (Hown.out.below hb2)
              have B2 := hide (Hb.out.trans (hb2.mono hsz))
              have hsz2 := B2.out.size
              have hnl : (numCells xs).length ≤ 20000 := by rw [num_len]; omega
              have Hxl2 := hide (show (xs ++ ys).length ≤ 16 * (t + 1) by rw [List.length_append]; omega)
              clear hown2 hown2' hm2 hs2 hb2 Hown Hb
              go_wp2_with (at_builtin; refine wp_join_far rfl (.tmp 53) (.tmp 54) 22 rfl 3 i0 (.int .i64 0) 8 Try.underlying22 hi hz0 hz1 hz2 rfl w.heap.size _ (numCells xs) rfl _ Hown2.out hsz2 A2 m2 c2 (numCells ys) rfl S2.out (nums_one _) (by omega) (by unfold maxLen; omega) ?_)
              intro v3 w3 hown3 hb3 _
              rw [← num_app] at hown3
              have Hown3 := hide hown3
              have B3 := hide (B2.out.trans hb3)
              clear hown3 hb3 Hown2 S2 B2
              go_wp2
              go_roundw
              case rel => exact ⟨t + 1, ny, xs ++ ys, by omega, by go_num, rfl, Hxl2.out, Hp.out, Hown3.out, B3.out⟩
              case measure => simp [intOf]; omega
            · rw [parts_bad b _ y xs ys ny er hgl her] at hp
              have hr : unpackP b = none := by unfold unpackP; rw [Hrd.out, ← hp]; rfl
              have Hr := hide hr
              have hei : ((er : Int) == 0) = false := beq_eq_false_iff_ne.2 (by omega)
              have hen : ((er : Int) != 0) = true := by rw [bne, hei]; rfl
              clear hp hgl hbel hown her hr
              go_wp2_with fail
              refine (CGetL.out A n c b _ K1.out (by omega) y 16).mono ?_
              rw [Hgl.out]
              rintro e w2 ⟨v2, rfl, -, hb2⟩
              have B2 := hide (Hb.out.trans (hb2.mono hsz))
              clear hb2
              go_wp2
              go_ret2
              exact GotU.none Hr.out B2.out
          · have htK2 : t = K := by omega
            rw [show K - t = 0 by omega] at hp
            have hrd : readP b = some xs := by rw [Hrd.out, ← hp]; rfl
            have htK' : ¬ (t : Int) < (K : Int) := by omega
            obtain ⟨A5, m5, c5, rfl, hm5, hs5⟩ := hown.slI
            have S5 := hide hs5
            have Hrd2 := hide hrd
            clear hp hrd hbel hm5 hs5 hown htK2
            cases hv : valP xs with
            | false =>
              have hr : unpackP b = none := by unfold unpackP; rw [Hrd2.out]; show (if _ then some xs else none) = none; rw [if_neg (by rw [hv]; simp)]
              have hpk : packR xs = ([], 1) := by unfold packR; rw [hv]; rfl
              have Hr := hide hr
              have Hpk := hide hpk
              clear hv hr hpk
              go_wp2_with fail
              refine (rpack23 CPut.out CPutL.out A5 m5 c5 xs _ S5.out).mono ?_
              rw [Hpk.out]
              rintro e w2 ⟨v2, rfl, -, hb2⟩
              have B2 := hide (Hb.out.trans (hb2.mono hsz))
              clear hb2
              go_wp2
              go_ret2
              exact GotU.none Hr.out B2.out
            | true =>
              have hpk : packR xs = (packP xs, 0) := by unfold packR; rw [hv]; rfl
              have hu : unpackP b = if packP xs = b then some xs else none := by
                unfold unpackP
                rw [Hrd2.out]
                show (if _ then some xs else none) = _
                rw [hv]
                simp
              have Hpk := hide hpk
              have Hu := hide hu
              clear hv hpk hu
              go_wp2_with fail
              refine (rpack23 CPut.out CPutL.out A5 m5 c5 xs _ S5.out).mono ?_
              rw [Hpk.out]
              rintro e w2 ⟨v2, rfl, hown2, hb2⟩
              have hown2' : Own w2 wr.heap.size 5 v2 (byteCells (packP xs)) := hown2
              obtain ⟨A6, m6, c6, rfl, -, hs6⟩ := hown2'.sl5
              have hB2 := Hb.out.trans (hb2.mono hsz)
              have B2 := hide hB2
              have cv1 := hs6.conv
              have cv2 := (H.out.below hB2).conv
              have Hown3 := hide (Hown.out.below hb2)
              clear hown2 hown2' hb2 hs6 hB2
              by_cases he : packP xs = b
              · have hr : unpackP b = some xs := by rw [Hu.out, if_pos he]
                have Hr := hide hr
                have hq : (packP xs == b) = true := by rw [he]; simp
                have hq2 : (packP xs != b) = false := by rw [bne, hq]; rfl
                clear hr he
                go_wp2
                go_ret2
                exact ⟨_, by rw [Hr.out]; rfl, by rw [Hr.out]; exact Hown3.out, B2.out⟩
              · have hr : unpackP b = none := by rw [Hu.out, if_neg he]
                have Hr := hide hr
                have hq : (packP xs == b) = false := beq_eq_false_iff_ne.2 he
                have hq2 : (packP xs != b) = true := by rw [bne, hq]; rfl
                clear hr he
                go_wp2
                go_ret2
                exact GotU.none Hr.out B2.out
  · have hr : unpackP b = none := by unfold unpackP readP; rw [hg, if_pos (Or.inl her)]; rfl
    have Hr := hide hr
    have hei : ((er : Int) == 0) = false := beq_eq_false_iff_ne.2 (by omega)
    have hen : ((er : Int) != 0) = true := by rw [bne, hei]; rfl
    clear hg hr her
    go_enter Try.func28, Try.ntmps28
    go_wp2_with fail
    with_reducible refine (CGet.out _ A n c b _ H.out.reads hnc hcc 0 x nx er Hg.out).mono ?_
    rintro e w' ⟨rfl, rfl⟩
    go_wp2
    go_ret2
    exact GotU.none Hr.out (Below.refl _ _)
end

end Go.Proofs.Ytfljmnjcoagbmaa
