/- Walk of layer 5's reference: Pack. -/
import Derived.Test.YtfljmnjcoagbmaaR6
namespace Go.Proofs.Ytfljmnjcoagbmaa
open Go.RowKit
open Go.Lib (byteCells)

theorem heads_len : ∀ cs : List (List Int), (∀ c ∈ cs, Good c) → (headsP cs).length ≤ 18 * cs.length
  | [], _ => by simp [headsP]
  | c :: cs, h => by
    have h1 := heads_len cs fun x hx => h x (by simp [hx])
    have hg := h c (by simp)
    have h2 := enc_len9' (c.getLastD 0).toNat (by have := last_good c hg; unfold big; omega)
    have h3 := enc_len9' (encL c).length (by have := encL_len c hg; unfold big; omega)
    show (enc _ ++ (enc _ ++ headsP cs)).length ≤ _
    rw [List.length_append, List.length_append, List.length_cons]
    omega
theorem bodies_len : ∀ cs : List (List Int), (∀ c ∈ cs, Good c) → (bodiesP cs).length ≤ 200 * cs.length
  | [], _ => by simp [bodiesP]
  | c :: cs, h => by
    have h1 := bodies_len cs fun x hx => h x (by simp [hx])
    have h2 := encL_len c (h c (by simp))
    show (encL c ++ bodiesP cs).length ≤ _
    rw [List.length_append, List.length_cons]
    omega
theorem heads_at (bs : List (List Int)) (j : Nat) (d : List Int) (h : bs[j]? = some d) : headsP (bs.take (j + 1)) = headsP (bs.take j) ++ (enc (d.getLastD 0).toNat ++ enc (encL d).length) := by
  rw [takeL_at bs j d h, heads_app]
  show _ ++ (_ ++ (_ ++ [])) = _
  rw [List.append_nil]
theorem bodies_at (bs : List (List Int)) (j : Nat) (d : List Int) (h : bs[j]? = some d) : bodiesP (bs.take (j + 1)) = bodiesP (bs.take j) ++ encL d := by
  rw [takeL_at bs j d h, bodies_app]
  show _ ++ (_ ++ []) = _
  rw [List.append_nil]
theorem take_min (l : List Int) (i E n : Nat) (hiE : i < E) (hE : E = i + 16 ∨ (E = n ∧ n ≤ i + 16)) (hl : l.length = n) : (l.drop i).take (E - i) = (l.drop i).take 16 := by
  rcases hE with h | ⟨h1, h2⟩
  · rw [show E - i = 16 by omega]
  · rw [List.take_of_length_le (by rw [List.length_drop]; omega), List.take_of_length_le (by rw [List.length_drop]; omega)]
theorem last_win (l : List Int) (i E E1 : Nat) (h : E1 + 1 = E) (hi : i < E) (hE : E ≤ l.length) : l[E1]? = some (((l.drop i).take (E - i)).getLastD 0) := by
  have hlen : ((l.drop i).take (E - i)).length = E - i := by rw [List.length_take, List.length_drop]; omega
  rw [List.getLastD_eq_getLast?, List.getLast?_eq_getElem?, hlen, List.getElem?_take, if_pos (by omega), List.getElem?_drop, show i + (E - i - 1) = E1 by omega]
  rw [List.getElem?_eq_getElem (by omega)]
  rfl
theorem own_noneB (w : World) : Own (w.alloc (.cells #[] 5)) w.heap.size 5 (.slice (some ⟨w.heap.size, 0, none⟩) 0 0) (byteCells []) :=
  World.ownsRow_lit (e := 5) (size := 1) (base := w.heap.size) w #[] 0 (Nat.le_refl _) (Nat.zero_le _) rfl
theorem infoB : (Try.prog.info? 5).map (fun i => (i.zero, i.size, i.bytes)) = some (some (.int .u8 0), 1, 1) := by kernel_rfl

/-- What Pack returns. -/
def packR (l : List Int) : List UInt8 × Nat := if valP l = true then (packP l, 0) else ([], 1)

section
variable (cPut : ∀ (A : Option Addr) (n c : Nat) (l : List UInt8) (i : Int) (w : World), Sl w A n c (byteCells l) → i ≤ 9223372036854775807 → n ≤ 1000000000 → Calls Try.prog 42 #[.slice A n c, .int .i64 i] w (Grew w w.heap.size (l ++ enc i.toNat)))
variable (cPutL : ∀ (A A' : Option Addr) (n c n' c' : Nat) (b : List UInt8) (xs : List Int) (w : World), Sl w A n c (byteCells b) → Sl w A' n' c' (numCells xs) → n ≤ 10000000 → n' ≤ 10000000 → (∀ z ∈ xs, z ≤ 9223372036854775807) → Calls Try.prog 43 #[.slice A n c, .slice A' n' c'] w (PutL w (putL b xs)))

include cPut cPutL in
set_option maxRecDepth 20000 in
set_option maxHeartbeats 6400000 in
theorem rpack23 (A : Option Addr) (n c : Nat) (l : List Int) (w : World) (h : Sl w A n c (numCells l)) :
    Calls Try.prog 23 #[.slice A n c] w (PutL w (packR l)) := by
  obtain ⟨i0, hi, hz0, hz1, hz2⟩ := info_parts infoB
  have hnc := h.1
  have hcc := h.2.1
  have Hlen := hide h.nlen
  have H := hide h
  have CPut := hide cPut
  have CPutL := hide cPutL
  clear h cPut cPutL
  cases hv : valP l with
  | false =>
    have hr : packR l = ([], 1) := by unfold packR; rw [hv]; rfl
    have Hr := hide hr
    have Hv := hide hv
    clear hv hr
    go_enter Try.func23, Try.ntmps23
    go_wp2_with fail
    refine (rvalid12 A n c l _ H.out).mono ?_
    rintro e w1 ⟨rfl, hd⟩
    rw [Hv.out]
    have B1 := hide (hd.below w.heap.size)
    clear hd
    go_wp2
    go_ret2
    exact ⟨_, by rw [Hr.out]; rfl, by rw [Hr.out]; exact World.ownsRow_nil _ _ _ _, B1.out⟩
  | true =>
    have hr : packR l = (packP l, 0) := by unfold packR; rw [hv]; rfl
    have hn := val_len l hv
    rw [Hlen.out] at hn
    have hgood := blocks_good l hv
    obtain ⟨bs, hbs⟩ : ∃ bs, blocksP l = bs := ⟨_, rfl⟩
    have hbl := blocks_len l
    rw [hbs] at hgood hbl
    rw [Hlen.out] at hbl
    have hpk : packP l = enc n ++ (headsP bs ++ bodiesP bs) := by unfold packP; rw [hbs, Hlen.out]
    have Hr := hide hr
    have Hv := hide hv
    have Hgood := hide hgood
    have Hbs := hide hbs
    have Hbl := hide hbl
    have Hpk := hide hpk
    have h9 := enc_len9' n (by unfold big; omega)
    clear hv hr hgood hbs hbl hpk
    go_enter Try.func23, Try.ntmps23
    go_wp2_with fail
    refine (rvalid12 A n c l _ H.out).mono ?_
    rintro e w1 ⟨rfl, hd⟩
    rw [Hv.out]
    have hB1 := hd.below w.heap.size
    have B1 := hide hB1
    have hsz1 := hB1.size
    clear hd hB1
    go_wp2_with fail
    refine (CPut.out none 0 0 [] (n : Int) _ (Sl.nil _) (by omega) (by decide)).mono ?_
    rintro e w2 ⟨v2, rfl, hown2, hb2⟩
    rw [List.nil_append, Int.toNat_natCast] at hown2
    have hst0 : ∀ g, Value.ownBlock (.slice (some ⟨w2.heap.size, 0, none⟩) 0 0) = some g → v2.ownBlock ≠ some g := fun g h1 h2 => by
      have := (hown2.lt g h2).2
      simp only [Value.ownBlock, Option.some.injEq] at h1
      omega
    have hB2 := B1.out.trans (hb2.mono hsz1)
    have Start1 := hide (Own.mono (hown2.below (bnew (Below.refl _ w2) (.cells #[] 5))) hsz1)
    have Start2 := hide (Own.mono (own_noneB w2) hB2.size)
    have Start3 := hide hst0
    have Start4 := hide (hB2.trans ((bnew (Below.refl _ w2) (.cells #[] 5)).mono hB2.size))
    clear hown2 hb2 hst0 hB2 B1
    go_wp2
    go_loopw [4, 5, 6] (fun u v x wr => ∃ j i : Nat, i = 16 * j ∧ i ≤ n + 16 ∧ j ≤ (n + 15) / 16 ∧ x = .int .i64 (i : Int) ∧ Own wr w.heap.size 5 u (byteCells (enc n ++ headsP (bs.take j))) ∧ Own wr w.heap.size 5 v (byteCells (bodiesP (bs.take j))) ∧ (∀ g, v.ownBlock = some g → u.ownBlock ≠ some g) ∧ Below w.heap.size w wr) (fun _ _ x _ => n + 32 - (intOf x).toNat)
    case atStart => exact ⟨0, 0, rfl, by omega, Nat.zero_le _, rfl, by rw [List.take_zero]; show Own _ _ _ _ (byteCells (enc n ++ [])); rw [List.append_nil]; exact Start1.out, Start2.out, Start3.out, Start4.out⟩
    case round =>
      clear Start1 Start2 Start3 Start4
      obtain ⟨j, i, hi16, hin, hjB, rfl, hh, hbd, hap, hbel⟩ := hrel
      obtain ⟨v, hvv⟩ : ∃ v, v = u5 := ⟨u5, rfl⟩
      subst hvv
      have hsz := hbel.size
      have Hi := hide hi16
      have Hb := hide hbel
      obtain ⟨A4, m4, c4, rfl, hm4, hs4⟩ := hh.sl5
      have HH := hide hh
      have HBd := hide hbd
      have SH := hide hs4
      have Hap := hide hap
      have hhl := heads_len (bs.take j) fun x hx => Hgood.out x (List.mem_of_mem_take hx)
      have hbodl0 := bodies_len (bs.take j) fun x hx => Hgood.out x (List.mem_of_mem_take hx)
      rw [List.length_take] at hhl hbodl0
      have hbodl : (bodiesP (bs.take j)).length ≤ 130000 := by omega
      have hm4b : (enc n ++ headsP (bs.take j)).length ≤ 12000 := by rw [List.length_append]; omega
      have hm4c : m4 ≤ 12000 := by omega
      by_cases hlt : i < n
      · have hjB2 : j < (n + 15) / 16 := by omega
        obtain ⟨d, hd⟩ : ∃ d, (l.drop (16 * j)).take 16 = d := ⟨_, rfl⟩
        have hbj : bs[j]? = some d := by rw [← Hbs.out, blocks_at l j (by rw [Hlen.out]; exact hjB2), hd]
        have hgd := Hgood.out d (List.mem_of_getElem? hbj)
        obtain ⟨la, hla⟩ : ∃ la, d.getLastD 0 = la := ⟨_, rfl⟩
        have hst1 := heads_at bs j d hbj
        rw [hla] at hst1
        have Hst1 := hide hst1
        have Hla := hide hla
        have Hst2 := hide (bodies_at bs j d hbj)
        clear hst1 hla hbj hh hbd hap hs4 hm4 hi16 hhl hbodl0
        by_cases hE : n < i + 16
        · have hE0 : (n : Int) < (i : Int) + 16 := by omega
          have hiE : i < n := by omega
          have hEn : n ≤ n := by omega
          have hic : i < c := by omega
          have hiE' : (i : Int) ≤ (n : Int) := by omega
          have hEc' : (n : Int) ≤ (c : Int) := by omega
          have hEc : n ≤ c := by omega
          have hcni : ¬ c = i := by omega
          have hwin := (H.out.below hbel).winI (k := i) (m := n) (by omega) hEn hic
          have hdE : (l.drop i).take (n - i) = d := by
            rw [Hi.out, ← hd]
            exact take_min l (16 * j) n n (by rw [← Hi.out]; exact hiE) (by have := Hi.out; have := Hi.out; omega) Hlen.out
          rw [hdE] at hwin
          have hdl : d.length = n - i := by rw [← hdE, List.length_take, List.length_drop, Hlen.out]; omega
          have Win := hide hwin
          obtain ⟨E1, hE1⟩ : ∃ E1, E1 + 1 = n := ⟨n - 1, by omega⟩
          have hE1i : (n : Int) - 1 = (E1 : Int) := by omega
          have hE1n : E1 < n := by omega
          have hE1n' : (E1 : Int) < (n : Int) := by omega
          have hpd : putL [] d = (encL d, 0) := by
            unfold putL
            rw [if_pos ((incr_up d (-1)).2 ⟨fun y hy => by have := ((val_iff d).1 hgd.2).2 y hy; omega, ((val_iff d).1 hgd.2).1⟩)]
            rfl
          have hd99 : ∀ z ∈ d, z ≤ 9223372036854775807 := fun z hz => by have := ((val_iff d).1 hgd.2).2 z hz; omega
          have hlast : l[E1]? = some la := by
            rw [← Hla.out, ← hdE]
            exact last_win l i n E1 hE1 hiE (by rw [Hlen.out]; exact hEn)
          have hel := encL_len d hgd
          have hlg := last_good d hgd
          rw [Hla.out] at hlg
          have Hpd := hide hpd
          have Hd99 := hide hd99
          have Hlast := hide hlast
          clear hwin hdE hE1 hpd hd99 hlast hd hgd hdl hbel
          go_wp2_with fail
          with_reducible refine (CPutL.out none _ 0 0 _ _ [] d _ (Sl.nil _) Win.out (by omega) (by omega) Hd99.out).mono ?_
          rw [Hpd.out]
          rintro e w2 ⟨v2, rfl, hown2, hb2⟩
          have hown2' : Own w2 wr.heap.size 5 v2 (byteCells (encL d)) := hown2
          obtain ⟨A8, m8, c8, rfl, hm8, hs8⟩ := hown2'.sl5
          have S8 := hide hs8
          have HH2 := hide (HH.out.below hb2)
          have HB2 := hide (HBd.out.below hb2)
          have B2 := hide (Hb.out.trans (hb2.mono hsz))
          have hsz2 := B2.out.size
          have SH2 := hide (SH.out.below hb2)
          have hlt2 := HB2.out.lt
          have Hlt2 := hide hlt2
          have Hm8 := hide hm8
          have hm8b : m8 ≤ 200 := by omega
          obtain ⟨ad, z, rfl, hz, hcell⟩ := num_cell (H.out.below B2.out).reads hE1n
          have hz2 := Hlast.out
          rw [hz] at hz2
          cases hz2
          clear hown2 hown2' hs8 hb2 hm8 hz hlt2 SH HH HBd
          go_wp2_with fail
          with_reducible refine (CPut.out A4 m4 c4 _ la _ SH2.out (by omega) (by omega)).mono ?_
          rintro e w3 ⟨v3, rfl, hown3, hb3⟩
          obtain ⟨A5, m5, c5, rfl, hm5, hs5⟩ := hown3.sl5
          have S5 := hide hs5
          have HB3 := hide (HB2.out.below hb3)
          have S83 := hide (S8.out.below hb3)
          have B3 := hide (B2.out.trans (hb3.mono hsz2))
          have hsz3 := B3.out.size
          have hsz23 := hb3.size
          have hm5b : m5 ≤ 20000 := by
            have h1 := enc_len9' la.toNat (by unfold big; omega)
            rw [hm5, List.length_append]
            omega
          clear hown3 hb3 hs5 hm5 SH2 HH2 HB2 S8
          go_wp2_with fail
          with_reducible refine (CPut.out A5 m5 c5 _ (m8 : Int) _ S5.out (by omega) (by omega)).mono ?_
          rintro e w4 ⟨v4, rfl, hown4, hb4⟩
          rw [Int.toNat_natCast, Hm8.out, List.append_assoc, List.append_assoc, ← Hst1.out] at hown4
          have Hown4 := hide (Own.mono hown4 hsz3)
          have hap4 : ∀ g, v4.ownBlock = some g → v.ownBlock ≠ some g := fun g h1 h2 => by
            have := (hown4.lt g h1).1
            have := (HB3.out.lt g h2).2
            omega
          have Hap4 := hide hap4
          have HB4 := hide (HB3.out.below hb4)
          have S84 := hide (S83.out.below hb4)
          have B4 := hide (B3.out.trans (hb4.mono hsz3))
          have hsz4 := B4.out.size
          have hbl : (byteCells (bodiesP (bs.take j))).length ≤ 130000 := by rw [bytes_size]; exact hbodl
          clear hown4 hb4 hap4 S5 HB3 S83 B3 B2
          go_wp2_with (at_builtin; refine wp_join_far rfl (.tmp 50) (.tmp 51) 30 rfl 5 i0 (.int .u8 0) 1 Try.underlying30 hi hz0 hz1 hz2 rfl w.heap.size _ (byteCells (bodiesP (bs.take j))) rfl _ HB4.out hsz4 A8 m8 c8 (byteCells (encL d)) rfl S84.out (bytes_one _) (by omega) (by unfold maxLen; omega) ?_)
          intro v5 w5 hown5 hb5 hf5
          rw [← Go.Lib.byteCells_append, ← Hst2.out] at hown5
          obtain ⟨hown6, hap6⟩ := Hown4.out.far hf5 Hap4.out
          have Hown5 := hide hown5
          have Hown6 := hide hown6
          have Hap6 := hide hap6
          have B5 := hide (B4.out.trans hb5)
          have hwi : IntKind.i64.wrap ((i : Int) + 16) = ((i + 16 : Nat) : Int) := by rw [IntWalk.i64_in _ (by omega)]; omega
          clear hown5 hb5 hf5 hown6 hap6 HB4 S84 B4 Hown4 Hap4
          go_wp2
          go_roundw
          case rel => exact ⟨j + 1, i + 16, by have := Hi.out; omega, by have := Hi.out; omega, by have := Hi.out; omega, by go_num, Hown6.out, Hown5.out, fun g h1 h2 => Hap6.out g h2 h1, B5.out⟩
          case measure => simp [intOf]; omega
        · obtain ⟨E, hEE⟩ : ∃ E, i + 16 = E := ⟨_, rfl⟩
          have hE0 : (i : Int) + 16 = (E : Int) := by omega
          have HEE := hide hEE
          have hiE : i < E := by omega
          have hEn : E ≤ n := by omega
          have hic : i < c := by omega
          have hiE' : (i : Int) ≤ (E : Int) := by omega
          have hEc' : (E : Int) ≤ (c : Int) := by omega
          have hEc : E ≤ c := by omega
          have hcni : ¬ c = i := by omega
          have hwin := (H.out.below hbel).winI (k := i) (m := E) (by omega) hEn hic
          have hdE : (l.drop i).take (E - i) = d := by
            rw [Hi.out, ← hd]
            exact take_min l (16 * j) E n (by rw [← Hi.out]; exact hiE) (by have := Hi.out; have := HEE.out; omega) Hlen.out
          rw [hdE] at hwin
          have hdl : d.length = E - i := by rw [← hdE, List.length_take, List.length_drop, Hlen.out]; omega
          have Win := hide hwin
          obtain ⟨E1, hE1⟩ : ∃ E1, E1 + 1 = E := ⟨E - 1, by omega⟩
          have hE1i : (E : Int) - 1 = (E1 : Int) := by omega
          have hE1n : E1 < n := by omega
          have hE1n' : (E1 : Int) < (n : Int) := by omega
          have hpd : putL [] d = (encL d, 0) := by
            unfold putL
            rw [if_pos ((incr_up d (-1)).2 ⟨fun y hy => by have := ((val_iff d).1 hgd.2).2 y hy; omega, ((val_iff d).1 hgd.2).1⟩)]
            rfl
          have hd99 : ∀ z ∈ d, z ≤ 9223372036854775807 := fun z hz => by have := ((val_iff d).1 hgd.2).2 z hz; omega
          have hlast : l[E1]? = some la := by
            rw [← Hla.out, ← hdE]
            exact last_win l i E E1 hE1 hiE (by rw [Hlen.out]; exact hEn)
          have hel := encL_len d hgd
          have hlg := last_good d hgd
          rw [Hla.out] at hlg
          have Hpd := hide hpd
          have Hd99 := hide hd99
          have Hlast := hide hlast
          clear hEE
          clear hwin hdE hE1 hpd hd99 hlast hd hgd hdl hbel
          go_wp2_with fail
          with_reducible refine (CPutL.out none _ 0 0 _ _ [] d _ (Sl.nil _) Win.out (by omega) (by omega) Hd99.out).mono ?_
          rw [Hpd.out]
          rintro e w2 ⟨v2, rfl, hown2, hb2⟩
          have hown2' : Own w2 wr.heap.size 5 v2 (byteCells (encL d)) := hown2
          obtain ⟨A8, m8, c8, rfl, hm8, hs8⟩ := hown2'.sl5
          have S8 := hide hs8
          have HH2 := hide (HH.out.below hb2)
          have HB2 := hide (HBd.out.below hb2)
          have B2 := hide (Hb.out.trans (hb2.mono hsz))
          have hsz2 := B2.out.size
          have SH2 := hide (SH.out.below hb2)
          have hlt2 := HB2.out.lt
          have Hlt2 := hide hlt2
          have Hm8 := hide hm8
          have hm8b : m8 ≤ 200 := by omega
          obtain ⟨ad, z, rfl, hz, hcell⟩ := num_cell (H.out.below B2.out).reads hE1n
          have hz2 := Hlast.out
          rw [hz] at hz2
          cases hz2
          clear hown2 hown2' hs8 hb2 hm8 hz hlt2 SH HH HBd
          go_wp2_with fail
          with_reducible refine (CPut.out A4 m4 c4 _ la _ SH2.out (by omega) (by omega)).mono ?_
          rintro e w3 ⟨v3, rfl, hown3, hb3⟩
          obtain ⟨A5, m5, c5, rfl, hm5, hs5⟩ := hown3.sl5
          have S5 := hide hs5
          have HB3 := hide (HB2.out.below hb3)
          have S83 := hide (S8.out.below hb3)
          have B3 := hide (B2.out.trans (hb3.mono hsz2))
          have hsz3 := B3.out.size
          have hsz23 := hb3.size
          have hm5b : m5 ≤ 20000 := by
            have h1 := enc_len9' la.toNat (by unfold big; omega)
            rw [hm5, List.length_append]
            omega
          clear hown3 hb3 hs5 hm5 SH2 HH2 HB2 S8
          go_wp2_with fail
          with_reducible refine (CPut.out A5 m5 c5 _ (m8 : Int) _ S5.out (by omega) (by omega)).mono ?_
          rintro e w4 ⟨v4, rfl, hown4, hb4⟩
          rw [Int.toNat_natCast, Hm8.out, List.append_assoc, List.append_assoc, ← Hst1.out] at hown4
          have Hown4 := hide (Own.mono hown4 hsz3)
          have hap4 : ∀ g, v4.ownBlock = some g → v.ownBlock ≠ some g := fun g h1 h2 => by
            have := (hown4.lt g h1).1
            have := (HB3.out.lt g h2).2
            omega
          have Hap4 := hide hap4
          have HB4 := hide (HB3.out.below hb4)
          have S84 := hide (S83.out.below hb4)
          have B4 := hide (B3.out.trans (hb4.mono hsz3))
          have hsz4 := B4.out.size
          have hbl : (byteCells (bodiesP (bs.take j))).length ≤ 130000 := by rw [bytes_size]; exact hbodl
          clear hown4 hb4 hap4 S5 HB3 S83 B3 B2
          go_wp2_with (at_builtin; refine wp_join_far rfl (.tmp 50) (.tmp 51) 30 rfl 5 i0 (.int .u8 0) 1 Try.underlying30 hi hz0 hz1 hz2 rfl w.heap.size _ (byteCells (bodiesP (bs.take j))) rfl _ HB4.out hsz4 A8 m8 c8 (byteCells (encL d)) rfl S84.out (bytes_one _) (by omega) (by unfold maxLen; omega) ?_)
          intro v5 w5 hown5 hb5 hf5
          rw [← Go.Lib.byteCells_append, ← Hst2.out] at hown5
          obtain ⟨hown6, hap6⟩ := Hown4.out.far hf5 Hap4.out
          have Hown5 := hide hown5
          have Hown6 := hide hown6
          have Hap6 := hide hap6
          have B5 := hide (B4.out.trans hb5)
          have hwi : IntKind.i64.wrap ((i : Int) + 16) = ((i + 16 : Nat) : Int) := by rw [IntWalk.i64_in _ (by omega)]; omega
          clear hown5 hb5 hf5 hown6 hap6 HB4 S84 B4 Hown4 Hap4
          go_wp2
          go_roundw
          case rel => exact ⟨j + 1, i + 16, by have := Hi.out; omega, by have := Hi.out; omega, by have := Hi.out; omega, by go_num, Hown6.out, Hown5.out, fun g h1 h2 => Hap6.out g h2 h1, B5.out⟩
          case measure => simp [intOf]; omega
      · have hjB3 : j = (n + 15) / 16 := by omega
        have hbsj : bs.take j = bs := List.take_of_length_le (by rw [Hbl.out, hjB3]; exact Nat.le_refl _)
        rw [hbsj] at hh hbd hs4 hbodl hm4b
        have SH3 := hide hs4
        have HH3 := hide hh
        have HB3 := hide hbd
        obtain ⟨A6, m6, c6, rfl, hm6, hs6⟩ := hbd.sl5
        have S6 := hide hs6
        have hm6b : m6 ≤ 130000 := by omega
        have hbl : (byteCells (enc n ++ headsP bs)).length ≤ 12000 := by rw [bytes_size]; exact hm4b
        clear hh hbd hs4 hs6 hm6 hap hbel hbsj hjB3 hhl hbodl0 hm4 SH HH HBd Hap hi16
        go_wp2_with (at_builtin; refine wp_join rfl (.tmp 53) (.tmp 54) 30 rfl 5 i0 (.int .u8 0) 1 Try.underlying30 hi hz0 hz1 hz2 rfl w.heap.size _ (byteCells (enc n ++ headsP bs)) rfl _ HH3.out hsz A6 m6 c6 (byteCells (bodiesP bs)) rfl S6.out (bytes_one _) (by omega) (by unfold maxLen; omega) ?_)
        intro v5 w5 hown5 hb5
        rw [← Go.Lib.byteCells_append, List.append_assoc, ← Hpk.out] at hown5
        have Hown5 := hide hown5
        have B5 := hide (Hb.out.trans hb5)
        clear hown5 hb5
        go_wp2
        go_ret2
        exact ⟨_, by rw [Hr.out]; rfl, by rw [Hr.out]; exact Hown5.out, B5.out⟩
end

end Go.Proofs.Ytfljmnjcoagbmaa
