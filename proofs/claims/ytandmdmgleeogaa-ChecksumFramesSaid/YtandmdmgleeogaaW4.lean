/- Walks: the reference's Get. -/
import Derived.Test.YtandmdmgleeogaaW3
namespace Go.Proofs.Ytandmdmgleeogaa
open Go.RowKit
open Go.Lib (byteCells)

theorem take_drop_at (l : List UInt8) (k m j : Nat) (hj : j < m) : ((l.drop k).take m)[j]? = l[k + j]? := by
  rw [List.getElem?_take_of_lt hj, List.getElem?_drop]
theorem take_drop_len (l : List UInt8) (k m : Nat) (h : k + m ≤ l.length) : ((l.drop k).take m).length = m := by
  rw [List.length_take, List.length_drop]; omega

theorem getP_dec (l : List UInt8) (k m : Nat) (h : k ≤ l.length) (hm : fnum (l.drop k) = m) (h0 : m ≠ 0) (x y : Nat) (hd : decP ((l.drop k).take m) = (x, y)) : getP l (k : Int) = if y = 0 then (x, k + m, 0) else (0, 0, y) := by
  by_cases he : y = 0
  · rw [if_pos he, getP_ok l k m h hm h0 (by rw [hd]; exact he), hd]
  · rw [if_neg he, getP_bad l k m h hm h0 (by rw [hd]; exact he), hd]

set_option maxRecDepth 20000 in
set_option maxHeartbeats 3200000 in
theorem rget31 (B : Nat) (A : Option Addr) (n c : Nat) (l : List UInt8) (w : World) (h : Reads w B A n (byteCells l)) (hnc : n ≤ c) (hc : c ≤ 9223372036854775807) (i : Int) :
    Calls Try.prog 31 #[.slice A n c, .int .i64 i] w fun e w' => e = .returned (getV (getP l i)) ∧ w = w' := by
  have hlen : l.length = n := by rw [← bytes_size]; exact h.1
  have Hlen := hide hlen
  have H := hide h
  clear hlen h
  by_cases hr : i < 0 ∨ (n : Int) < i
  · have hg := getP_range l i (by rw [Hlen.out]; exact hr)
    have Hg := hide hg
    clear hg
    rcases hr with hr | hr
    · go_enter Try.func31, Try.ntmps31
      go_wp2
      go_ret3
      exact ⟨by rw [Hg.out]; rfl, rfl⟩
    · by_cases h0 : i < 0
      · omega
      · go_enter Try.func31, Try.ntmps31
        go_wp2
        go_ret3
        exact ⟨by rw [Hg.out]; rfl, rfl⟩
  obtain ⟨k, hik⟩ : ∃ k : Nat, i = (k : Int) := ⟨i.toNat, by omega⟩
  subst hik
  have hkn : k ≤ n := by omega
  clear hr
  go_enter Try.func31, Try.ntmps31
  go_wp2
  go_loop [7] (fun u => ∃ e : Nat, k ≤ e ∧ e ≤ n ∧ u = .int .i64 e ∧ High (l.drop k) (e - k)) (fun u => n - (intOf u).toNat)
  case atStart => exact ⟨k, Nat.le_refl _, hkn, rfl, by rw [Nat.sub_self]; exact High.zero _⟩
  case round =>
    obtain ⟨e, hke, hen, rfl, hi⟩ := hrel
    have Hi := hide hi
    clear hi
    by_cases hlt : e < n
    · obtain ⟨ad, b, rfl, hb, hcell⟩ := H.out.byte hlt
      have hb' : (l.drop k)[e - k]? = some b := by rw [List.getElem?_drop, show k + (e - k) = e by omega]; exact hb
      have Hb := hide hb
      have Hb' := hide hb'
      clear hb hb'
      have hbb : b.toNat < 256 := UInt8.toNat_lt b
      by_cases h128 : b.toNat < 128
      · have hm := fnum_at _ _ b Hi.out Hb'.out h128
        obtain ⟨m, hme⟩ : ∃ m, m = e - k + 1 := ⟨_, rfl⟩
        rw [← hme] at hm
        have hm0 : m ≠ 0 := by omega
        have hG := fun x y => getP_dec l k m (by rw [Hlen.out]; exact hkn) hm hm0 x y
        have HG := hide hG
        have hml := take_drop_len l k m (by rw [Hlen.out]; omega)
        have Hml := hide hml
        have hme' : m = e - k + 1 := hme
        clear hm hm0 hG hml hme
        have hen' : ((e : Int) == (n : Int)) = false := beq_eq_false_iff_ne.2 (by omega)
        have h9 : e - k = m - 1 := by omega
        have Hme := hide hme'
        clear hme' h9
        by_cases hlong : 9 < m
        · have hl8 : (8 : Int) < (e : Int) - (k : Int) := by have := Hme.out; omega
          have hd := HG.out 0 4 (decP_long _ (by rw [Hml.out]; exact hlong))
          have Hd := hide hd
          clear hd
          go_wp2
          go_ret3
          exact ⟨by rw [Hd.out]; rfl, rfl⟩
        · have hl8 : ¬ (8 : Int) < (e : Int) - (k : Int) := by have := Hme.out; omega
          have hl8' : (e : Int) - (k : Int) ≤ 8 := by omega
          go_wp2
          go_loop [8, 9] (fun x u => ∃ j : Nat, j ≤ m ∧ u = .int .i64 ((e : Int) - (j : Int)) ∧ x = .int .i64 (dec (((l.drop k).take m).drop (m - j)) : Int)) (fun _ u => (intOf u + 1 - (k : Int)).toNat)
          case atStart => exact ⟨0, Nat.zero_le _, by simp, by rw [Nat.sub_zero, List.drop_of_length_le (by rw [Hml.out]; omega)]; rfl⟩
          case round =>
            obtain ⟨j, hjm, rfl, rfl⟩ := hrel
            have hme := Hme.out
            by_cases hjl : j < m
            · have hge : (k : Int) ≤ (e : Int) - (j : Int) := by omega
              obtain ⟨ad, b', hA, hb2, hcell2⟩ := H.out.byte (k := e - j) (by omega)
              cases hA
              have hbb2 : b'.toNat < 256 := UInt8.toNat_lt b'
              have hstep := dec_drop ((l.drop k).take m) (m - 1 - j) b' (by rw [take_drop_at l k m _ (by omega), show k + (m - 1 - j) = e - j by omega]; exact hb2)
              rw [show m - 1 - j + 1 = m - j by omega] at hstep
              have hd8 := dec_le8 (((l.drop k).take m).drop (m - j)) (by rw [List.length_drop, Hml.out]; omega)
              have hst : (dec (((l.drop k).take m).drop (m - j)) : Int) * 128 + (b'.toNat : Int) % 128 = (dec (((l.drop k).take m).drop (m - (j + 1))) : Int) := by
                rw [show m - (j + 1) = m - 1 - j by omega, hstep]; omega
              have Hst := hide hst
              have hidx : ((e : Int) - (j : Int)) = ((e - j : Nat) : Int) := by omega
              have hje : j ≤ e := by omega
              have hkj : k ≤ e - j := by omega
              have hjn : e - j < n := by omega
              clear hst hstep hb2 hme hge
              rw [hidx]
              go_wp2
              go_round
              case rel => exact ⟨j + 1, by omega, by simp; omega, by rw [← Hst.out]⟩
              case measure => simp [intOf]; omega
            · have hge : (e : Int) - (j : Int) < (k : Int) := by omega
              have hkn0 : m - j = 0 := by omega
              have hd9 := dec_le9 ((l.drop k).take m) (by rw [Hml.out]; omega)
              rw [hkn0, List.drop_zero]
              clear hkn0 hme
              by_cases hbig : 4611686018427387904 < dec ((l.drop k).take m)
              · have hd := HG.out 0 4 (decP_big _ (by rw [Hml.out]; exact hlong) hbig)
                have Hd := hide hd
                clear hd
                go_wp2
                go_ret3
                exact ⟨by rw [Hd.out]; rfl, rfl⟩
              · have hbig' : dec ((l.drop k).take m) ≤ 4611686018427387904 := by omega
                by_cases h1 : k < e
                · have hlast : ((l.drop k).take m)[m - 1]? = some b := by rw [take_drop_at l k m _ (by have := Hme.out; omega), show k + (m - 1) = e by have := Hme.out; omega]; exact Hb.out
                  by_cases h0 : b.toNat = 0
                  · have hd := HG.out 0 3 (decP_form _ (by rw [Hml.out]; exact hlong) hbig (m - 1) (by rw [Hml.out]; have := Hme.out; omega) (by have := Hme.out; omega) (by rw [hlast, byte_zero b h0]))
                    have Hd := hide hd
                    clear hd hlast
                    go_wp2
                    go_ret3
                    exact ⟨by rw [Hd.out]; rfl, rfl⟩
                  · have hd := HG.out _ 0 (decP_ok _ (by rw [Hml.out]; exact hlong) hbig (fun q c hq _ hc he => by
                      rw [Hml.out] at hq
                      rw [show q = m - 1 by omega, hlast] at hc
                      cases hc
                      rw [he] at h0
                      exact h0 rfl))
                    have Hd := hide hd
                    have hbe : ((b.toNat : Int) == 0) = false := beq_eq_false_iff_ne.2 (by omega)
                    clear hd hlast
                    go_wp2
                    go_ret3
                    exact ⟨by rw [Hd.out, if_pos trivial, show k + m = e + 1 by have := Hme.out; omega]; simp [getV], rfl⟩
                · have hd := HG.out _ 0 (decP_ok _ (by rw [Hml.out]; exact hlong) hbig (fun q c hq h0 _ => by rw [Hml.out] at hq; have := Hme.out; omega))
                  have Hd := hide hd
                  clear hd
                  go_wp2
                  go_ret3
                  exact ⟨by rw [Hd.out, if_pos trivial, show k + m = e + 1 by have := Hme.out; omega]; simp [getV], rfl⟩
      · have h128' : 128 ≤ b.toNat := by omega
        go_wp2
        go_round
        case rel => exact ⟨e + 1, by omega, by omega, by go_num, by rw [show e + 1 - k = e - k + 1 by omega]; exact Hi.out.next Hb'.out h128⟩
        case measure => simp [intOf]; omega
    · have hg := getP_short l k (by rw [Hlen.out]; exact hkn) (fnum_none _ (e - k) Hi.out (by rw [List.length_drop, Hlen.out]; omega))
      have Hg := hide hg
      have hen' : e = n := by omega
      subst hen'
      clear hg
      go_wp2
      go_ret3
      exact ⟨by rw [Hg.out]; rfl, rfl⟩

end Go.Proofs.Ytandmdmgleeogaa
