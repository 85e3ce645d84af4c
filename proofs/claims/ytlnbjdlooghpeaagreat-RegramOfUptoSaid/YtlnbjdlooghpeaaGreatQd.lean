/- Layer 10: walks of the reference on lists of strings: both, product, Strings. -/
import Derived.Test.YtlnbjdlooghpeaaGreatQc
import Derived.Laws.Concat
namespace Go.Proofs.YtlnbjdlooghpeaaGreat
open Go.RowKit
open Go.Op (bytesLess)

/-- What a list of strings and whether it exists return as. -/
def GotO (W : World) (o : Option (List (List UInt8))) (e : Ending) (w' : World) : Prop := ∃ A n c, e = .returned (.tuple #[.slice A n c, .bool o.isSome]) ∧ (∀ p, o = some p → n = p.length ∧ Sl w' A n c (strCells p)) ∧ (o = none → n ≤ c ∧ c ≤ 9223372036854775807) ∧ Below W.heap.size W w'

set_option maxRecDepth 100000 in
set_option maxHeartbeats 6400000 in
theorem rboth {W : World} {Aa Ab : Option Addr} {na ca nb cb : Nat} {a b : List (List UInt8)} (ha : Sl W Aa na ca (strCells a)) (hb : Sl W Ab nb cb (strCells b)) (la : a.length ≤ 1000) (lb : b.length ≤ 1000) :
    Calls Tryz.prog 61 #[.slice Aa na ca, .slice Ab nb cb] W (GotO W (bothS a b)) := by
  have hnc := hb.1
  have hcc := hb.2.1
  have hnl := hb.nstr
  have Hnl := hide hnl
  have hn5 : nb ≤ 1000 := by omega
  have SA := hide ha
  have SB := hide hb
  have hna := hide (ha.nstr)
  clear ha hb hnl
  go_enter Tryz.func61, Tryz.ntmps61
  go_wp2
  go_loopw [0, 6] (fun v x wr => ∃ i : Nat, i ≤ nb ∧ x = .int .i64 (i : Int) ∧ (∃ A n c, v = .slice A n c ∧ n = (bothAt a b i).length ∧ Sl wr A n c (strCells (bothAt a b i))) ∧ Below W.heap.size W wr) (fun _ x _ => nb - (intOf x).toNat)
  case atStart => exact ⟨0, Nat.zero_le _, rfl, ⟨Aa, na, ca, rfl, by rw [bothAt_zero, hna.out], by rw [bothAt_zero]; exact SA.out⟩, Below.refl _ _⟩
  case round =>
    obtain ⟨i, hi, rfl, ⟨A, n, c, rfl, hn, hsl⟩, hbel⟩ := hrel
    obtain ⟨w3, hw3⟩ : ∃ w3, w3 = wr := ⟨wr, rfl⟩
    subst hw3
    have B3 := hide hbel
    have SB3 := hide (SB.out.below hbel)
    have S3 := hide hsl
    have hal := bothAt_len a b i
    have hib : (i : Int) ≤ 1000 := by omega
    have hn2 : n ≤ 2000 := by omega
    have Hn3 := hide hn
    have hnc3 := hsl.1
    have hcc3 := hsl.2.1
    clear hbel hsl hn
    by_cases hlt : i < nb
    · have hlt' : (i : Int) < (nb : Int) := by omega
      obtain ⟨ad, z, rfl, hz, hcz⟩ := str_cell SB3.out.reads hlt
      have Hnx := hide (bothAt_next (a := a) hz)
      have HC := hide (radd S3.out (by rw [← Hn3.out]; omega) z)
      clear hz hal
      go_wp2_with fail
      with_reducible refine HC.out.mono ?_
      rintro e w4 ⟨A4, n4, c4, rfl, hn4, hs4, hb4⟩
      have B4 := hide (bgo B3.out hb4)
      have S4 := hide hs4
      have Hn4 := hide hn4
      clear hb4 hs4 hn4
      go_wp2
      go_roundw
      case rel => exact ⟨i + 1, by omega, by go_num, ⟨A4, n4, c4, rfl, by rw [Hnx.out, Hn4.out], by rw [Hnx.out]; exact S4.out⟩, B4.out⟩
      case measure => simp [intOf]; omega
    · have hlt' : ¬ (i : Int) < (nb : Int) := by omega
      have hil : i = b.length := by rw [Hnl.out]; omega
      have hall : bothAt a b i = bothL a b := by rw [hil, bothAt_all]
      have S4 := S3.out
      have hn4 := Hn3.out
      rw [hall] at S4 hn4
      by_cases h8 : n ≤ 8
      · have h8' : (n : Int) ≤ 8 := by omega
        have Ho := hide (show bothS a b = some (bothL a b) by unfold bothS; rw [if_pos (by omega)])
        have S5 := hide S4
        have Hn5 := hide hn4
        clear hil hall S4 hn4 hal
        go_wp2
        go_ret2
        exact ⟨A, n, c, by rw [Ho.out]; rfl, fun p hp => by rw [Ho.out] at hp; cases hp; exact ⟨Hn5.out, S5.out⟩, fun hp => by rw [Ho.out] at hp; (cases hp), B3.out⟩
      · have h8' : ¬ (n : Int) ≤ 8 := by omega
        have Ho := hide (show bothS a b = none by unfold bothS; rw [if_neg (by omega)])
        clear hil hall S4 hn4 hal
        go_wp2
        go_ret2
        exact ⟨A, n, c, by rw [Ho.out]; rfl, fun p hp => by rw [Ho.out] at hp; (cases hp), fun _ => ⟨hnc3, hcc3⟩, B3.out⟩

set_option maxRecDepth 100000 in
set_option maxHeartbeats 6400000 in
theorem rproduct {W : World} {Aa Ab : Option Addr} {na ca nb cb : Nat} {a b : List (List UInt8)} (ha : Sl W Aa na ca (strCells a)) (hb : Sl W Ab nb cb (strCells b)) (la : a.length ≤ 100) (lb : b.length ≤ 100) (sa : ∀ x ∈ a, x.length ≤ 1000) (sb : ∀ x ∈ b, x.length ≤ 1000) :
    Calls Tryz.prog 60 #[.slice Aa na ca, .slice Ab nb cb] W (GotO W (prodS a b)) := by
  have hnca := ha.1
  have hcca := ha.2.1
  have hncb := hb.1
  have hccb := hb.2.1
  have hnla := ha.nstr
  have hnlb := hb.nstr
  have Hna := hide hnla
  have Hnb := hide hnlb
  have hna5 : na ≤ 100 := by omega
  have hnb5 : nb ≤ 100 := by omega
  have SA := hide ha
  have SB := hide hb
  have HsA := hide sa
  have HsB := hide sb
  clear ha hb hnla hnlb sa sb
  go_enter Tryz.func60, Tryz.ntmps60
  go_wp2
  go_loopw [6, 7, 8] (fun v x _ wr => ∃ i : Nat, i ≤ na ∧ x = .int .i64 (i : Int) ∧ shortAt a b i ∧ (∃ A n c, v = .slice A n c ∧ n = (prodAt a b i).length ∧ Sl wr A n c (strCells (prodAt a b i))) ∧ Below W.heap.size W wr) (fun _ x _ _ => na - (intOf x).toNat)
  case atStart => exact ⟨0, Nat.zero_le _, rfl, fun x hx => by simp at hx, ⟨none, 0, 0, rfl, by rw [prodAt_zero]; rfl, by rw [prodAt_zero]; exact Sl.nil _⟩, Below.refl _ _⟩
  case round =>
    obtain ⟨i, hi, rfl, hsh, ⟨A, n, c, rfl, hn, hsl⟩, hbel⟩ := hrel
    obtain ⟨w2, hw2⟩ : ∃ w2, w2 = wr := ⟨wr, rfl⟩
    subst hw2
    have B2 := hide hbel
    have S2 := hide hsl
    have Hn2 := hide hn
    have Hsh := hide hsh
    have hib : (i : Int) ≤ 100 := by omega
    have hnc2 := hsl.1
    have hcc2 := hsl.2.1
    have hpl := prodAt_len a b i
    have hmul : i * b.length ≤ 100 * 100 := Nat.mul_le_mul (by omega) lb
    have hn4 : n ≤ 10000 := by omega
    clear hbel hsl hn hsh hpl
    by_cases hlt : i < na
    · have hlt' : (i : Int) < (na : Int) := by omega
      obtain ⟨ad, x, hA, hx, hcx⟩ := str_cell (SA.out.below B2.out).reads hlt
      have Hx := hide hx
      have hxs := HsA.out x (List.mem_of_getElem? hx)
      have hxs' : (x.length : Int) ≤ 1000 := by omega
      clear hx hcx
      go_wp2
      go_loopw [6, 8] (fun v y wr => ∃ k : Nat, k ≤ nb ∧ y = .int .i64 (k : Int) ∧ (∀ z ∈ b.take k, x.length + z.length ≤ 16) ∧ (∃ A n c, v = .slice A n c ∧ n = (rowAt a b i x k).length ∧ Sl wr A n c (strCells (rowAt a b i x k))) ∧ Below W.heap.size W wr) (fun _ y _ => nb - (intOf y).toNat)
      case atStart => exact ⟨0, Nat.zero_le _, rfl, fun z hz => by simp at hz, ⟨A, n, c, rfl, by rw [rowAt_zero, Hn2.out], by rw [rowAt_zero]; exact S2.out⟩, B2.out⟩
      case round =>
        obtain ⟨k, hk, rfl, hsh, ⟨A3, n3, c3, rfl, hn3, hsl⟩, hbel⟩ := hrel
        obtain ⟨w3, hw3⟩ : ∃ w3, w3 = wr := ⟨wr, rfl⟩
        subst hw3
        have B3 := hide hbel
        have S3 := hide hsl
        have Hn3 := hide hn3
        have Hsh3 := hide hsh
        have hkb : (k : Int) ≤ 100 := by omega
        have hnc3 := hsl.1
        have hcc3 := hsl.2.1
        have hrl := rowAt_len a b i x k
        have hn5 : n3 ≤ 10100 := by omega
        clear hbel hsl hn3 hsh hrl
        obtain ⟨ad', x', hA', hx', hcx⟩ := str_cell (SA.out.below B3.out).reads hlt
        obtain rfl : x' = x := Option.some.inj (hx'.symm.trans Hx.out)
        rw [hA] at hA'
        cases hA'
        clear hx'
        by_cases hkt : k < nb
        · have hkt' : (k : Int) < (nb : Int) := by omega
          obtain ⟨ae, y, hB, hy, hcy⟩ := str_cell (SB.out.below B3.out).reads hkt
          have hys := HsB.out y (List.mem_of_getElem? hy)
          have hsz1 : (bsx x').size = x'.length := bsx_size x'
          have hsz2 : (bsx y).size = y.length := bsx_size y
          have hys' : (y.length : Int) ≤ 1000 := by omega
          subst hA hB
          by_cases h16 : 16 < x'.length + y.length
          · have h16' : (16 : Int) < (x'.length : Int) + (y.length : Int) := by omega
            have Ho := hide (prod_none Hx.out hy h16)
            clear hy
            go_wp2_with fail
            go_quiet (fail)
            go_wp2
            go_ret2
            exact ⟨none, 0, 0, by rw [Ho.out]; rfl, fun p hp => by rw [Ho.out] at hp; (cases hp), fun _ => ⟨by omega, by omega⟩, bdr B3.out _⟩
          · have h16' : ¬ (16 : Int) < (x'.length : Int) + (y.length : Int) := by omega
            have Hnx := hide (rowAt_next (a := a) (i := i) (x := x') hy)
            have Hsn := hide (short_row hy Hsh3.out (by omega))
            have HC := hide (show ∀ X : World, Below w3.heap.size w3 X → Calls Tryz.prog 72 #[.slice A3 n3 c3, .string (bsx x' ++ bsx y)] X (GotS X (addS (rowAt a b i x' k) (x' ++ y))) from fun X hb => by
              rw [bsx_app]
              exact radd (S3.out.below hb) (by rw [← Hn3.out]; omega) (x' ++ y))
            clear hy
            go_wp2_with fail
            go_quiet (fail)
            obtain ⟨x9, hx9⟩ : ∃ x9, w3.drewN nq = x9 := ⟨_, rfl⟩
            have hb9 : Below w3.heap.size w3 x9 := by rw [← hx9]; exact bdr (Below.refl _ _) _
            rw [hx9]
            have hcx9 := (hb9.cell (World.block_lt_of_cell? _ _ hcx)).trans hcx
            have hcy9 := (hb9.cell (World.block_lt_of_cell? _ _ hcy)).trans hcy
            have HB9 := hide (bgo hb9 (bel_drew x9))
            have hss1 : (bsx x').size ≤ 1000 := by omega
            have hss2 : (bsx y).size ≤ 1000 := by omega
            clear hx9 hb9 hcx hcy hsz1 hsz2
            obtain ⟨U1, hU1⟩ : ∃ U1, bsx x' = U1 := ⟨_, rfl⟩
            obtain ⟨U2, hU2⟩ : ∃ U2, bsx y = U2 := ⟨_, rfl⟩
            rw [hU1] at hcx9 hss1 ⊢
            rw [hU2] at hcy9 hss2 ⊢
            rw [hU1, hU2] at HC
            clear hU1 hU2
            have hcat : ∀ wx : World, (Op.stringOp .add U1 U2).run Tryz.prog wx = .ok (.string (U1 ++ U2)) wx := fun wx => run_string_add_sum wx _ _ (by omega)
            go_wp2
            go_still_tail 10, (by kernel_rfl)
            change wpList _ _ _ _ _ x9.drew
            go_wp2_with fail
            with_reducible refine (HC.out _ HB9.out).mono ?_
            rintro e w4 ⟨A4, n4, c4, rfl, hn4', hs4, hb4⟩
            have Hn5 := hide hn4'
            have hX := bgo HB9.out hb4
            clear hn4' HC HB9 hcx9 hcy9
            have B5 := hide (bgo B3.out hX)
            have S5 := hide hs4
            clear hX hs4 hb4
            go_wp2
            go_roundw
            case rel => exact ⟨k + 1, by omega, by go_num, Hsn.out, ⟨A4, n4, c4, rfl, by rw [Hnx.out, Hn5.out], by rw [Hnx.out]; exact S5.out⟩, B5.out⟩
            case measure => simp [intOf]; omega
        · have hkt' : ¬ (k : Int) < (nb : Int) := by omega
          have hkl : k = b.length := by rw [Hnb.out]; omega
          have hall : rowAt a b i x' k = prodAt a b (i + 1) := by rw [hkl]; exact rowAt_all Hx.out
          have hsh := Hsh3.out
          rw [hkl, List.take_length] at hsh
          have Hs := hide (short_next Hx.out Hsh.out hsh)
          have S4 := S3.out
          have hn4' := Hn3.out
          rw [hall] at S4 hn4'
          have S5 := hide S4
          have Hn5 := hide hn4'
          clear hkl hall hsh S4 hn4'
          go_wp2
          go_roundw
          case rel => exact ⟨i + 1, by omega, by go_num, Hs.out, ⟨A3, n3, c3, rfl, Hn5.out, S5.out⟩, B3.out⟩
          case measure => simp [intOf]; omega
    · have hlt' : ¬ (i : Int) < (na : Int) := by omega
      have hil : i = a.length := by rw [Hna.out]; omega
      have hall : prodAt a b i = prodL a b := by rw [hil, prodAt_all]
      have hsh := Hsh.out
      rw [hil] at hsh
      have hpi := prod_is hsh
      have S4 := S2.out
      have hn4' := Hn2.out
      rw [hall] at S4 hn4'
      by_cases h8 : n ≤ 8
      · have h8' : (n : Int) ≤ 8 := by omega
        have Ho := hide (show prodS a b = some (prodL a b) by rw [hpi, if_pos (by omega)])
        have S5 := hide S4
        have Hn5 := hide hn4'
        clear hil hall S4 hn4' hpi hsh
        go_wp2
        go_ret2
        exact ⟨A, n, c, by rw [Ho.out]; rfl, fun p hp => by rw [Ho.out] at hp; cases hp; exact ⟨Hn5.out, S5.out⟩, fun hp => by rw [Ho.out] at hp; (cases hp), B2.out⟩
      · have h8' : ¬ (n : Int) ≤ 8 := by omega
        have Ho := hide (show prodS a b = none by rw [hpi, if_neg (by omega)])
        clear hil hall S4 hn4' hpi hsh
        go_wp2
        go_ret2
        exact ⟨A, n, c, by rw [Ho.out]; rfl, fun p hp => by rw [Ho.out] at hp; (cases hp), fun _ => ⟨hnc2, hcc2⟩, B2.out⟩

set_option maxRecDepth 100000 in
set_option maxHeartbeats 6400000 in
theorem rStrings {W : World} {Aa Ab : Option Addr} {na ca nb cb : Nat} {a b : List (List UInt8)} (ha : Sl W Aa na ca (strCells a)) (hb : Sl W Ab nb cb (strCells b)) (q : Bool) (hq : decide (a = b) = q) (la : a.length ≤ 1000000) :
    Calls Tryz.prog 11 #[.slice Aa na ca, .slice Ab nb cb] W fun e w' => e = .returned (.bool q) ∧ Below W.heap.size W w' := by
  have hnca := ha.1
  have hcca := ha.2.1
  have hncb := hb.1
  have hccb := hb.2.1
  have hnla := ha.nstr
  have hnlb := hb.nstr
  have Hna := hide hnla
  have Hnb := hide hnlb
  have hna5 : na ≤ 1000000 := by omega
  have SA := hide ha
  have SB := hide hb
  have Hq := hide hq
  clear ha hb hq
  by_cases hm : na = nb
  case neg =>
    have hq := int_ne (show (na : Int) ≠ (nb : Int) by omega)
    have Hn := hide (show false = q by rw [← Hq.out, decide_eq_false fun e => hm (by rw [← hnla, ← hnlb, e])])
    clear hnla hnlb hm
    go_enter Tryz.func11, Tryz.ntmps11
    go_wp2
    go_ret
    exact ⟨ret_bool Hn.out, Below.refl _ _⟩
  subst hm
  have hq : ((na : Int) != (na : Int)) = false := by simp
  clear hnla hnlb
  go_enter Tryz.func11, Tryz.ntmps11
  go_wp2
  go_loopw [5] (fun x wr => ∃ i : Nat, i ≤ na ∧ x = .int .i64 (i : Int) ∧ a.take i = b.take i ∧ Below W.heap.size W wr) (fun x _ => na - (intOf x).toNat)
  case atStart => exact ⟨0, Nat.zero_le _, rfl, rfl, Below.refl _ _⟩
  case round =>
    obtain ⟨i, hi, rfl, hm, hbel⟩ := hrel
    obtain ⟨w3, hw3⟩ : ∃ w3, w3 = wr := ⟨wr, rfl⟩
    subst hw3
    have B3 := hide hbel
    have Hm := hide hm
    have hib : (i : Int) ≤ 1000000 := by omega
    clear hm
    by_cases hlt : i < na
    · have hlt' : (i : Int) < (na : Int) := by omega
      obtain ⟨ad, x, rfl, hx, hcx⟩ := str_cell (SA.out.below hbel).reads hlt
      obtain ⟨ae, y, rfl, hy, hcy⟩ := str_cell (SB.out.below hbel).reads hlt
      clear hbel
      by_cases he : x = y
      · have hse := str_eq he
        have Hn := hide (show a.take (i + 1) = b.take (i + 1) by rw [takeN hx, takeN hy, Hm.out, he])
        clear he hx hy
        go_wp2_with fail
        go_quiet (fail)
        go_wp2
        go_roundw
        case rel => exact ⟨i + 1, by omega, by go_num, Hn.out, bdr B3.out _⟩
        case measure => simp [intOf]; omega
      · have hse := str_ne he
        have Hn := hide (show false = q by
          rw [← Hq.out, decide_eq_false fun e => he (by rw [e, hy] at hx; exact (Option.some.inj hx).symm)])
        clear he hx hy
        go_wp2_with fail
        go_quiet (fail)
        go_wp2
        go_ret
        exact ⟨ret_bool Hn.out, bdr B3.out _⟩
    · have hlt' : ¬ (i : Int) < (na : Int) := by omega
      have hall := Hm.out
      rw [takeA a (by rw [Hna.out]; omega), takeA b (by rw [Hnb.out]; omega)] at hall
      have Hn := hide (show true = q by rw [← Hq.out, decide_eq_true hall])
      clear hall hbel
      go_wp2
      go_ret
      exact ⟨ret_bool Hn.out, B3.out⟩
end Go.Proofs.YtlnbjdlooghpeaaGreat
