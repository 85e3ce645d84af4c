/- Walks of layer 3's functions: V1. -/
import Derived.Test.YtfljmnjcoagbmaaR9
namespace Go.Proofs.Ytfljmnjcoagbmaa
open Go.RowKit
open Go.Lib (byteCells)

set_option maxRecDepth 20000 in
set_option maxHeartbeats 800000 in
theorem first76 (B : Nat) (A : Option Addr) (n c : Nat) (l : List UInt8) (w : World) (h : Reads w B A n (byteCells l)) (hn : n ≤ 9223372036854775807) :
    Calls Try.prog 76 #[.slice A n c] w fun e w' => e = .returned (.int .i64 (fnum l : Int)) ∧ w = w' := by
  have hlen : l.length = n := by rw [← bytes_size]; exact h.1
  have Hlen := hide hlen
  have H := hide h
  clear hlen h
  go_enter Try.func76, Try.ntmps76
  go_wp2
  go_loop [6] (fun i => ∃ k : Nat, k ≤ n ∧ i = .int .i64 k ∧ High l k) (fun i => n - (intOf i).toNat)
  case atStart => exact ⟨0, Nat.zero_le _, rfl, High.zero l⟩
  case round =>
    obtain ⟨k, hk, rfl, hi⟩ := hrel
    have Hi := hide hi
    clear hi
    by_cases hlt : k < n
    · obtain ⟨ad, b, rfl, hb, hc⟩ := H.out.byte hlt
      have Hb := hide hb
      clear hb
      have hbb : b.toNat < 256 := UInt8.toNat_lt b
      by_cases h128 : b.toNat < 128
      · go_wp2
        go_ret
        exact ⟨ret_int (by rw [fnum_at l k b Hi.out Hb.out h128]; omega), rfl⟩
      · have h128' : 128 ≤ b.toNat := by omega
        go_wp2
        go_round
        case rel => exact ⟨k + 1, by omega, by go_num, Hi.out.next Hb.out h128⟩
        case measure => simp [intOf]; omega
    · go_wp2
      go_ret
      exact ⟨ret_int (by rw [fnum_none l k Hi.out (by rw [Hlen.out]; omega)]; rfl), rfl⟩

open Go.RowKit
open Go.Lib (byteCells)

theorem last_at (d : List UInt8) (k : Nat) (b : UInt8) (hk : k + 1 = d.length) (h : d[k]? = some b) : d.getLastD 0 = b := by
  rw [List.getLastD_eq_getLast?, List.getLast?_eq_getElem?, show d.length - 1 = k by omega, h]
  rfl
theorem decP_long (d : List UInt8) (h : 9 < d.length) : decP d = (0, 4) := by unfold decP; rw [if_pos h]
theorem decP_big (d : List UInt8) (h : ¬ 9 < d.length) (hb : 4611686018427387904 < dec d) : decP d = (0, 4) := by unfold decP big; rw [if_neg h, if_pos hb]
theorem decP_form (d : List UInt8) (h : ¬ 9 < d.length) (hb : ¬ 4611686018427387904 < dec d) (k : Nat) (hk : k + 1 = d.length) (h1 : 0 < k) (hl : d[k]? = some 0) : decP d = (0, 3) := by
  unfold decP big; rw [if_neg h, if_neg hb, if_pos ⟨by omega, last_at d k 0 hk hl⟩]
theorem decP_ok (d : List UInt8) (h : ¬ 9 < d.length) (hb : ¬ 4611686018427387904 < dec d) (hl : ∀ k b, k + 1 = d.length → 0 < k → d[k]? = some b → b ≠ 0) : decP d = (dec d, 0) := by
  unfold decP big; rw [if_neg h, if_neg hb, if_neg]
  rintro ⟨h1, h2⟩
  have hlt : d.length - 1 < d.length := by omega
  have he : d[d.length - 1]? = some d[d.length - 1] := List.getElem?_eq_getElem hlt
  have := last_at d (d.length - 1) _ (by omega) he
  rw [h2] at this
  exact hl (d.length - 1) _ (by omega) (by omega) he this.symm

theorem byte_zero (b : UInt8) (h : b.toNat = 0) : b = 0 := UInt8.toNat_inj.1 h
theorem ret_pair {a b c d : Int} (h : a = c) (h' : b = d) : Ending.returned (.tuple #[.int .i64 a, .int .i64 b]) = .returned (.tuple #[.int .i64 c, .int .i64 d]) := by rw [h, h']

set_option maxRecDepth 20000 in
set_option maxHeartbeats 1600000 in
theorem decode77 (B : Nat) (A : Option Addr) (n c : Nat) (d : List UInt8) (w : World) (h : Reads w B A n (byteCells d)) (hn : n ≤ 9223372036854775807) :
    Calls Try.prog 77 #[.slice A n c] w fun e w' => e = .returned (.tuple #[.int .i64 ((decP d).1 : Int), .int .i64 ((decP d).2 : Int)]) ∧ w = w' := by
  have hlen : d.length = n := by rw [← bytes_size]; exact h.1
  have Hlen := hide hlen
  have H := hide h
  clear hlen h
  by_cases h9 : 9 < n
  · have hr := decP_long d (by rw [Hlen.out]; exact h9)
    have Hr := hide hr
    clear hr
    go_enter Try.func77, Try.ntmps77
    go_wp2
    go_ret2
    exact ⟨by rw [Hr.out]; rfl, rfl⟩
  have h9' : n ≤ 9 := by omega
  go_enter Try.func77, Try.ntmps77
  go_wp2
  go_loop [5, 15] (fun x i => ∃ k : Nat, k ≤ n ∧ i = .int .i64 k ∧ x = .int .i64 (dec (d.drop (n - k)) : Int)) (fun _ i => n - (intOf i).toNat)
  case atStart => exact ⟨0, Nat.zero_le _, rfl, by rw [Nat.sub_zero, List.drop_of_length_le (by rw [Hlen.out]; omega)]; rfl⟩
  case round =>
    obtain ⟨k, hk, rfl, rfl⟩ := hrel
    by_cases hlt : k < n
    · obtain ⟨ad, b, rfl, hb, hc⟩ := H.out.byte (k := n - 1 - k) (by omega)
      have hstep := dec_drop d (n - 1 - k) b hb
      rw [show n - 1 - k + 1 = n - k by omega] at hstep
      have hd8 := dec_le8 (d.drop (n - k)) (by rw [List.length_drop, Hlen.out]; omega)
      have hbb : b.toNat < 256 := UInt8.toNat_lt b
      have hidx : ((n : Int) - 1 - (k : Int)) = ((n - 1 - k : Nat) : Int) := by omega
      have hst : (dec (d.drop (n - k)) : Int) * 128 + (b.toNat : Int) % 128 = (dec (d.drop (n - (k + 1))) : Int) := by
        rw [show n - (k + 1) = n - 1 - k by omega, hstep]; omega
      have Hst := hide hst
      clear hst hstep hb
      have hk1 : 1 ≤ n := by omega
      go_wp2
      go_round
      case rel => exact ⟨k + 1, by omega, by go_num, by rw [← Hst.out]⟩
      case measure => simp [intOf]; omega
    · have hkn : n - k = 0 := by omega
      have hd9 := dec_le9 d (by rw [Hlen.out]; omega)
      rw [hkn, List.drop_zero]
      clear hkn
      by_cases hbig : 4611686018427387904 < dec d
      · have hr := decP_big d (by rw [Hlen.out]; exact h9) hbig
        have Hr := hide hr
        clear hr
        go_wp2
        go_ret2
        exact ⟨by rw [Hr.out]; rfl, rfl⟩
      · have hbig' : dec d ≤ 4611686018427387904 := by omega
        by_cases h1 : 1 < n
        · obtain ⟨ad, b, rfl, hb, hc⟩ := H.out.byte (k := n - 1) (by omega)
          have hbb : b.toNat < 256 := UInt8.toNat_lt b
          have hidx : ((n : Int) - 1) = ((n - 1 : Nat) : Int) := by omega
          have h1' : 0 < n - 1 := by omega
          by_cases h0 : b.toNat = 0
          · have hr := decP_form d (by rw [Hlen.out]; exact h9) hbig (n - 1) (by rw [Hlen.out]; omega) (by omega) (by rw [hb, byte_zero b h0])
            have Hr := hide hr
            clear hr hb
            go_wp2
            go_ret2
            exact ⟨by rw [Hr.out]; rfl, rfl⟩
          · have hr := decP_ok d (by rw [Hlen.out]; exact h9) hbig (fun k c hk _ hc he => by
              rw [Hlen.out] at hk
              rw [show k = n - 1 by omega, hb] at hc
              cases hc
              rw [he] at h0
              exact h0 rfl)
            have Hr := hide hr
            have hbe : ((b.toNat : Int) == 0) = false := beq_eq_false_iff_ne.2 (by omega)
            clear hr hb
            go_wp2
            go_ret2
            exact ⟨by rw [Hr.out]; rfl, rfl⟩
        · have hr := decP_ok d (by rw [Hlen.out]; exact h9) hbig (fun k c hk h0 _ => by rw [Hlen.out] at hk; omega)
          have Hr := hide hr
          clear hr
          go_wp2
          go_ret2
          exact ⟨by rw [Hr.out]; rfl, rfl⟩

open Go.RowKit
open Go.Lib (byteCells)

theorem getP_range (l : List UInt8) (i : Int) (h : i < 0 ∨ (l.length : Int) < i) : getP l i = (0, 0, 2) := by unfold getP; rw [if_pos h]
theorem getP_short (l : List UInt8) (k : Nat) (h : k ≤ l.length) (h0 : fnum (l.drop k) = 0) : getP l (k : Int) = (0, 0, 5) := by
  unfold getP; rw [if_neg (by omega), Int.toNat_natCast, if_pos h0]
theorem getP_ok (l : List UInt8) (k m : Nat) (h : k ≤ l.length) (hm : fnum (l.drop k) = m) (h0 : m ≠ 0) (he : (decP ((l.drop k).take m)).2 = 0) : getP l (k : Int) = ((decP ((l.drop k).take m)).1, k + m, 0) := by
  subst hm
  unfold getP; rw [if_neg (by omega), Int.toNat_natCast, if_neg h0, if_pos he]
theorem getP_bad (l : List UInt8) (k m : Nat) (h : k ≤ l.length) (hm : fnum (l.drop k) = m) (h0 : m ≠ 0) (he : (decP ((l.drop k).take m)).2 ≠ 0) : getP l (k : Int) = (0, 0, (decP ((l.drop k).take m)).2) := by
  subst hm
  unfold getP; rw [if_neg (by omega), Int.toNat_natCast, if_neg h0, if_neg he]

theorem first34' (B : Nat) (A : Option Addr) (n c : Nat) (l : List UInt8) (m : Nat) (hm : fnum l = m) (w : World) (h : Reads w B A n (byteCells l)) (hn : n ≤ 9223372036854775807) :
    Calls Try.prog 76 #[.slice A n c] w fun e w' => e = .returned (.int .i64 (m : Int)) ∧ w = w' := by subst hm; exact first76 B A n c l w h hn

theorem decode35' (B : Nat) (A : Option Addr) (n c : Nat) (d : List UInt8) (x y : Nat) (hx : (decP d).1 = x) (hy : (decP d).2 = y) (w : World) (h : Reads w B A n (byteCells d)) (hn : n ≤ 9223372036854775807) :
    Calls Try.prog 77 #[.slice A n c] w fun e w' => e = .returned (.tuple #[.int .i64 (x : Int), .int .i64 (y : Int)]) ∧ w = w' := by subst hx hy; exact decode77 B A n c d w h hn

/-- What Get returns. -/
def getV (g : Nat × Nat × Nat) : Value := .tuple #[.int .i64 (g.1 : Int), .int .i64 (g.2.1 : Int), .int .i64 (g.2.2 : Int)]

set_option maxRecDepth 20000 in
set_option maxHeartbeats 1600000 in
theorem get61 (B : Nat) (A : Option Addr) (n c : Nat) (l : List UInt8) (w : World) (h : Reads w B A n (byteCells l)) (hnc : n ≤ c) (hc : c ≤ 9223372036854775807) (i : Int) :
    Calls Try.prog 61 #[.slice A n c, .int .i64 i] w fun e w' => e = .returned (getV (getP l i)) ∧ w = w' := by
  have hlen : l.length = n := by rw [← bytes_size]; exact h.1
  have Hlen := hide hlen
  have H := hide h
  clear hlen h
  by_cases hr : i < 0 ∨ (n : Int) < i
  · have hg := getP_range l i (by rw [Hlen.out]; exact hr)
    have Hg := hide hg
    clear hg
    rcases hr with hr | hr
    · go_enter Try.func61, Try.ntmps61
      go_wp2
      go_ret3
      exact ⟨by rw [Hg.out]; rfl, rfl⟩
    · by_cases h0 : i < 0
      · omega
      · go_enter Try.func61, Try.ntmps61
        go_wp2
        go_ret3
        exact ⟨by rw [Hg.out]; rfl, rfl⟩
  obtain ⟨k, hik⟩ : ∃ k : Nat, i = (k : Int) := ⟨i.toNat, by omega⟩
  subst hik
  have hkn : k ≤ n := by omega
  clear hr
  have hcut := H.out.cut hkn hnc
  rw [← bytes_drop] at hcut
  obtain ⟨m, hm⟩ : ∃ m, fnum (l.drop k) = m := ⟨_, rfl⟩
  have hmle := fnum_le (l.drop k)
  rw [List.length_drop, Hlen.out, hm] at hmle
  have Hm := hide hm
  by_cases hck : c = k
  · rw [if_pos hck] at hcut
    have hm0 : m = 0 := by omega
    have hg := getP_short l k (by rw [Hlen.out]; exact hkn) (by rw [hm, hm0])
    have Hg := hide hg
    subst hm0
    clear hg hcut hm
    subst hck
    go_enter Try.func61, Try.ntmps61
    go_wp2_with fail
    with_reducible refine (first34' B A 0 0 [] 0 rfl _ Reads.nil (by omega)).mono ?_
    rintro e w' ⟨rfl, rfl⟩
    go_wp2
    go_ret3
    exact ⟨by rw [Hg.out]; rfl, rfl⟩
  · rw [if_neg hck] at hcut
    have hck' : k < c := by omega
    by_cases hm0 : m = 0
    · have hg := getP_short l k (by rw [Hlen.out]; exact hkn) (by rw [hm, hm0])
      have Hg := hide hg
      have Hcut := hide hcut
      subst hm0
      clear hg hcut hm hck
      go_enter Try.func61, Try.ntmps61
      go_wp2_with fail
      with_reducible refine (first34' B _ (n - k) (c - k) (l.drop k) 0 Hm.out _ Hcut.out (by omega)).mono ?_
      rintro e w' ⟨rfl, rfl⟩
      go_wp2
      go_ret3
      exact ⟨by rw [Hg.out]; rfl, rfl⟩
    · have htake := hcut.take (k := m) (by omega)
      rw [← bytes_take] at htake
      have hmi : ((m : Int) == 0) = false := beq_eq_false_iff_ne.2 (by omega)
      obtain ⟨x, hx⟩ : ∃ x, (decP ((l.drop k).take m)).1 = x := ⟨_, rfl⟩
      obtain ⟨y, hy⟩ : ∃ y, (decP ((l.drop k).take m)).2 = y := ⟨_, rfl⟩
      by_cases he : y = 0
      · subst he
        have hg := getP_ok l k m (by rw [Hlen.out]; exact hkn) hm hm0 hy
        rw [hx] at hg
        have Hg := hide hg
        have Hcut := hide hcut
        have Htake := hide htake
        have Hx := hide hx
        have Hy := hide hy
        clear hg hcut hm hck htake hx hy hm0
        go_enter Try.func61, Try.ntmps61
        go_wp2_with fail
        with_reducible refine (first34' B _ (n - k) (c - k) (l.drop k) m Hm.out _ Hcut.out (by omega)).mono ?_
        rintro e w' ⟨rfl, rfl⟩
        go_wp2_with fail
        with_reducible refine (decode35' B _ m (c - k) _ x 0 Hx.out Hy.out _ Htake.out (by omega)).mono ?_
        rintro e w' ⟨rfl, rfl⟩
        go_wp2
        go_ret3
        exact ⟨by rw [Hg.out]; simp [getV], rfl⟩
      · have hg := getP_bad l k m (by rw [Hlen.out]; exact hkn) hm hm0 (by rw [hy]; exact he)
        rw [hy] at hg
        have Hg := hide hg
        have Hcut := hide hcut
        have Htake := hide htake
        have Hx := hide hx
        have Hy := hide hy
        have hyi : ((y : Int) == 0) = false := beq_eq_false_iff_ne.2 (by omega)
        have hyn : ((y : Int) != 0) = true := by rw [bne, hyi]; rfl
        clear hg hcut hm hck htake hx hy hm0
        go_enter Try.func61, Try.ntmps61
        go_wp2_with fail
        with_reducible refine (first34' B _ (n - k) (c - k) (l.drop k) m Hm.out _ Hcut.out (by omega)).mono ?_
        rintro e w' ⟨rfl, rfl⟩
        go_wp2_with fail
        with_reducible refine (decode35' B _ m (c - k) _ x y Hx.out Hy.out _ Htake.out (by omega)).mono ?_
        rintro e w' ⟨rfl, rfl⟩
        go_wp2
        go_ret3
        exact ⟨by rw [Hg.out]; rfl, rfl⟩

open Go.RowKit
open Go.Lib (byteCells)

theorem take_drop_at (l : List UInt8) (k m j : Nat) (hj : j < m) : ((l.drop k).take m)[j]? = l[k + j]? := by
  rw [List.getElem?_take_of_lt hj, List.getElem?_drop]
theorem take_drop_len (l : List UInt8) (k m : Nat) (h : k + m ≤ l.length) : ((l.drop k).take m).length = m := by
  rw [List.length_take, List.length_drop]; omega

theorem getP_dec (l : List UInt8) (k m : Nat) (h : k ≤ l.length) (hm : fnum (l.drop k) = m) (h0 : m ≠ 0) (x y : Nat) (hd : decP ((l.drop k).take m) = (x, y)) : getP l (k : Int) = if y = 0 then (x, k + m, 0) else (0, 0, y) := by
  by_cases he : y = 0
  · rw [if_pos he, getP_ok l k m h hm h0 (by rw [hd]; exact he), hd]
  · rw [if_neg he, getP_bad l k m h hm h0 (by rw [hd]; exact he), hd]

set_option maxRecDepth 20000 in
set_option maxHeartbeats 3200000 in
theorem rget47 (B : Nat) (A : Option Addr) (n c : Nat) (l : List UInt8) (w : World) (h : Reads w B A n (byteCells l)) (hnc : n ≤ c) (hc : c ≤ 9223372036854775807) (i : Int) :
    Calls Try.prog 47 #[.slice A n c, .int .i64 i] w fun e w' => e = .returned (getV (getP l i)) ∧ w = w' := by
  have hlen : l.length = n := by rw [← bytes_size]; exact h.1
  have Hlen := hide hlen
  have H := hide h
  clear hlen h
  by_cases hr : i < 0 ∨ (n : Int) < i
  · have hg := getP_range l i (by rw [Hlen.out]; exact hr)
    have Hg := hide hg
    clear hg
    rcases hr with hr | hr
    · go_enter Try.func47, Try.ntmps47
      go_wp2
      go_ret3
      exact ⟨by rw [Hg.out]; rfl, rfl⟩
    · by_cases h0 : i < 0
      · omega
      · go_enter Try.func47, Try.ntmps47
        go_wp2
        go_ret3
        exact ⟨by rw [Hg.out]; rfl, rfl⟩
  obtain ⟨k, hik⟩ : ∃ k : Nat, i = (k : Int) := ⟨i.toNat, by omega⟩
  subst hik
  have hkn : k ≤ n := by omega
  clear hr
  go_enter Try.func47, Try.ntmps47
  go_wp2
  go_loop [7] (fun u => ∃ e : Nat, k ≤ e ∧ e ≤ n ∧ u = .int .i64 e ∧ High (l.drop k) (e - k)) (fun u => n - (intOf u).toNat)
  case atStart => exact ⟨k, Nat.le_refl _, hkn, rfl, by rw [Nat.sub_self]; exact High.zero _⟩
  case round =>
    obtain ⟨e, hke, hen, rfl, hi⟩ := hrel
    have Hi := hide hi
    clear hi
    by_cases hlt : e < n
    · obtain ⟨ad, b, rfl, hb, hcell⟩ := H.out.byte hlt
      have hb' : (l.drop k)[e - k]? = some b := by rw [List.getElem?_drop, show k + (e - k) = e by omega]; exact hb
      have Hb := hide hb
      have Hb' := hide hb'
      clear hb hb'
      have hbb : b.toNat < 256 := UInt8.toNat_lt b
      by_cases h128 : b.toNat < 128
      · have hm := fnum_at _ _ b Hi.out Hb'.out h128
        obtain ⟨m, hme⟩ : ∃ m, m = e - k + 1 := ⟨_, rfl⟩
        rw [← hme] at hm
        have hm0 : m ≠ 0 := by omega
        have hG := fun x y => getP_dec l k m (by rw [Hlen.out]; exact hkn) hm hm0 x y
        have HG := hide hG
        have hml := take_drop_len l k m (by rw [Hlen.out]; omega)
        have Hml := hide hml
        have hme' : m = e - k + 1 := hme
        clear hm hm0 hG hml hme
        have hen' : ((e : Int) == (n : Int)) = false := beq_eq_false_iff_ne.2 (by omega)
        have h9 : e - k = m - 1 := by omega
        have Hme := hide hme'
        clear hme' h9
        by_cases hlong : 9 < m
        · have hl8 : (8 : Int) < (e : Int) - (k : Int) := by have := Hme.out; omega
          have hd := HG.out 0 4 (decP_long _ (by rw [Hml.out]; exact hlong))
          have Hd := hide hd
          clear hd
          go_wp2
          go_ret3
          exact ⟨by rw [Hd.out]; rfl, rfl⟩
        · have hl8 : ¬ (8 : Int) < (e : Int) - (k : Int) := by have := Hme.out; omega
          have hl8' : (e : Int) - (k : Int) ≤ 8 := by omega
          go_wp2
          go_loop [8, 9] (fun x u => ∃ j : Nat, j ≤ m ∧ u = .int .i64 ((e : Int) - (j : Int)) ∧ x = .int .i64 (dec (((l.drop k).take m).drop (m - j)) : Int)) (fun _ u => (intOf u + 1 - (k : Int)).toNat)
          case atStart => exact ⟨0, Nat.zero_le _, by simp, by rw [Nat.sub_zero, List.drop_of_length_le (by rw [Hml.out]; omega)]; rfl⟩
          case round =>
            obtain ⟨j, hjm, rfl, rfl⟩ := hrel
            have hme := Hme.out
            by_cases hjl : j < m
            · have hge : (k : Int) ≤ (e : Int) - (j : Int) := by omega
              obtain ⟨ad, b', hA, hb2, hcell2⟩ := H.out.byte (k := e - j) (by omega)
              cases hA
              have hbb2 : b'.toNat < 256 := UInt8.toNat_lt b'
              have hstep := dec_drop ((l.drop k).take m) (m - 1 - j) b' (by rw [take_drop_at l k m _ (by omega), show k + (m - 1 - j) = e - j by omega]; exact hb2)
              rw [show m - 1 - j + 1 = m - j by omega] at hstep
              have hd8 := dec_le8 (((l.drop k).take m).drop (m - j)) (by rw [List.length_drop, Hml.out]; omega)
              have hst : (dec (((l.drop k).take m).drop (m - j)) : Int) * 128 + (b'.toNat : Int) % 128 = (dec (((l.drop k).take m).drop (m - (j + 1))) : Int) := by
                rw [show m - (j + 1) = m - 1 - j by omega, hstep]; omega
              have Hst := hide hst
              have hidx : ((e : Int) - (j : Int)) = ((e - j : Nat) : Int) := by omega
              have hje : j ≤ e := by omega
              have hkj : k ≤ e - j := by omega
              have hjn : e - j < n := by omega
              clear hst hstep hb2 hme hge
              rw [hidx]
              go_wp2
              go_round
              case rel => exact ⟨j + 1, by omega, by simp; omega, by rw [← Hst.out]⟩
              case measure => simp [intOf]; omega
            · have hge : (e : Int) - (j : Int) < (k : Int) := by omega
              have hkn0 : m - j = 0 := by omega
              have hd9 := dec_le9 ((l.drop k).take m) (by rw [Hml.out]; omega)
              rw [hkn0, List.drop_zero]
              clear hkn0 hme
              by_cases hbig : 4611686018427387904 < dec ((l.drop k).take m)
              · have hd := HG.out 0 4 (decP_big _ (by rw [Hml.out]; exact hlong) hbig)
                have Hd := hide hd
                clear hd
                go_wp2
                go_ret3
                exact ⟨by rw [Hd.out]; rfl, rfl⟩
              · have hbig' : dec ((l.drop k).take m) ≤ 4611686018427387904 := by omega
                by_cases h1 : k < e
                · have hlast : ((l.drop k).take m)[m - 1]? = some b := by rw [take_drop_at l k m _ (by have := Hme.out; omega), show k + (m - 1) = e by have := Hme.out; omega]; exact Hb.out
                  by_cases h0 : b.toNat = 0
                  · have hd := HG.out 0 3 (decP_form _ (by rw [Hml.out]; exact hlong) hbig (m - 1) (by rw [Hml.out]; have := Hme.out; omega) (by have := Hme.out; omega) (by rw [hlast, byte_zero b h0]))
                    have Hd := hide hd
                    clear hd hlast
                    go_wp2
                    go_ret3
                    exact ⟨by rw [Hd.out]; rfl, rfl⟩
                  · have hd := HG.out _ 0 (decP_ok _ (by rw [Hml.out]; exact hlong) hbig (fun q c hq _ hc he => by
                      rw [Hml.out] at hq
                      rw [show q = m - 1 by omega, hlast] at hc
                      cases hc
                      rw [he] at h0
                      exact h0 rfl))
                    have Hd := hide hd
                    have hbe : ((b.toNat : Int) == 0) = false := beq_eq_false_iff_ne.2 (by omega)
                    clear hd hlast
                    go_wp2
                    go_ret3
                    exact ⟨by rw [Hd.out, if_pos trivial, show k + m = e + 1 by have := Hme.out; omega]; simp [getV], rfl⟩
                · have hd := HG.out _ 0 (decP_ok _ (by rw [Hml.out]; exact hlong) hbig (fun q c hq h0 _ => by rw [Hml.out] at hq; have := Hme.out; omega))
                  have Hd := hide hd
                  clear hd
                  go_wp2
                  go_ret3
                  exact ⟨by rw [Hd.out, if_pos trivial, show k + m = e + 1 by have := Hme.out; omega]; simp [getV], rfl⟩
      · have h128' : 128 ≤ b.toNat := by omega
        go_wp2
        go_round
        case rel => exact ⟨e + 1, by omega, by omega, by go_num, by rw [show e + 1 - k = e - k + 1 by omega]; exact Hi.out.next Hb'.out h128⟩
        case measure => simp [intOf]; omega
    · have hg := getP_short l k (by rw [Hlen.out]; exact hkn) (fnum_none _ (e - k) Hi.out (by rw [List.length_drop, Hlen.out]; omega))
      have Hg := hide hg
      have hen' : e = n := by omega
      subst hen'
      clear hg
      go_wp2
      go_ret3
      exact ⟨by rw [Hg.out]; rfl, rfl⟩

end Go.Proofs.Ytfljmnjcoagbmaa
