/- Walk of the law that what was put is read back. -/
import Derived.Test.YtpgoglkgaeccnaaPf
namespace Go.Proofs.Ytpgoglkgaeccnaa
open Go.RowKit
open Go.Lib (byteCells strCells)
open Go.WideShapes (add_plain)

theorem gets18' (A : Option Addr) (n c : Nat) (l : List UInt8) (w : World) (h : Sl w A n c (byteCells l)) (i most : Int) (t : ByteArray) (nx : Nat) (hg : getS l i most = (t.data.toList, nx, 0)) :
    Calls Try.prog 18 #[.slice A n c, .int .i64 i, .int .i64 most] w fun e w' => e = .returned (.tuple #[.string t, .int .i64 (nx : Int), .int .i64 0]) ∧ w = w' := by
  refine (gets18 A n c l w h i most).mono ?_
  rintro e w' ⟨rfl, rfl⟩
  have e : (⟨t.data.toList.toArray⟩ : ByteArray) = t := by cases t; rfl
  rw [hg]
  unfold getSV
  rw [show ((t.data.toList, nx, 0) : List UInt8 × Nat × Nat).1 = t.data.toList from rfl, e]
  exact ⟨rfl, rfl⟩

/-- Block g holds a field. -/
def Box (w : World) (g : Nat) (k num : Int) (t : ByteArray) (v : Value) : Prop :=
  g < w.heap.size ∧ w.cell? ⟨g, 0, none⟩ = some (.int .i64 k) ∧ w.cell? ⟨g, 1, none⟩ = some (.int .i64 num) ∧ w.cell? ⟨g, 2, none⟩ = some (.string t) ∧ w.cell? ⟨g, 3, none⟩ = some v
theorem Box.new (w : World) (k num : Int) (t : ByteArray) (v : Value) : Box (w.alloc (.cells #[.int .i64 k, .int .i64 num, .string t, v] 44)) w.heap.size k num t v := by
  refine ⟨by simp, ?_, ?_, ?_, ?_⟩ <;> (rw [World.cell?_alloc_mark]; rfl)
theorem Box.keep {w w' : World} {g : Nat} {k num : Int} {t : ByteArray} {v : Value} (h : Box w g k num t v) (hb : Below w.heap.size w w') : Box w' g k num t v := by
  obtain ⟨h0, h1, h2, h3, h4⟩ := h
  exact ⟨by have := hb.size; omega, (hb.cell (p := ⟨g, 0, none⟩) h0).trans h1, (hb.cell (p := ⟨g, 1, none⟩) h0).trans h2, (hb.cell (p := ⟨g, 2, none⟩) h0).trans h3, (hb.cell (p := ⟨g, 3, none⟩) h0).trans h4⟩

theorem FdsAt.plain {W : World} {A : Option Addr} {n c : Nat} {fs : List Fd} (h : FdsAt W A n c fs) {k : Nat} {f : Fd} (hf : fs[k]? = some f) :
    ∃ g o A' n' c', A = some ⟨g, o, none⟩ ∧ W.cell? ⟨g, o + k * 4, none⟩ = some (.int .i64 f.1) ∧ W.cell? ⟨g, o + k * 4 + 1, none⟩ = some (.int .i64 f.2.1) ∧ W.cell? ⟨g, o + k * 4 + 2, none⟩ = some (.string f.2.2.1) ∧
      W.cell? ⟨g, o + k * 4 + 3, none⟩ = some (.slice A' n' c') ∧ Sl W A' n' c' (numCells f.2.2.2) ∧ (∀ z ∈ f.2.2.2, z ≤ 9223372036854775807) ∧ f.2.2.1.size ≤ 9223372036854775807 := by
  have hk := (List.getElem?_eq_some_iff.1 hf).1
  obtain ⟨ad, _, _, _, hA, h0, _⟩ := h.2.2.2 0 fs[0] (List.getElem?_eq_getElem (by omega))
  obtain ⟨g, o, sp⟩ := ad
  have hsp : sp = none := by simpa [Addr.add] using World.cell?_spot h0
  subst hsp
  obtain ⟨ad, A', n', c', hA', c0, c1, c2, c3, r⟩ := h.2.2.2 k f hf
  rw [hA] at hA'
  cases hA'
  rw [add_plain] at c0 c1 c2 c3
  exact ⟨g, o, A', n', c', hA, c0, c1, c2, c3, r⟩

def R1 (w : World) (b : List UInt8) (fs : List Fd) (n0 : Nat) (k : Nat) (A : Option Addr) (m c : Nat) (wr : World) : Prop :=
  Sl wr A m c (byteCells (b ++ encFs (fs.take k))) ∧ (∀ j f, j < k → fs[j]? = some f → OkF f) ∧ (b ++ encFs (fs.take k)).length ≤ n0 + 9100 * k ∧ Below w.heap.size w wr

theorem R1.next {w w2 : World} {b : List UInt8} {fs : List Fd} {n0 k : Nat} {A : Option Addr} {m c : Nat} {f : Fd} (hok : ∀ j f, j < k → fs[j]? = some f → OkF f) (hfk : fs[k]? = some f) (hf : OkF f)
    (hl : (b ++ encFs (fs.take k)).length ≤ n0 + 9100 * k) (hs : Sl w2 A m c (byteCells ((b ++ encFs (fs.take k)) ++ encF f))) (hb : Below w.heap.size w w2) : R1 w b fs n0 (k + 1) A m c w2 := by
  have e : (b ++ encFs (fs.take k)) ++ encF f = b ++ encFs (fs.take (k + 1)) := by rw [encFs_take fs k f hfk, List.append_assoc]
  rw [e] at hs
  refine ⟨hs, fun j g hj hg => ?_, ?_, hb⟩
  · by_cases hjk : j = k
    · subst hjk
      rw [hfk] at hg
      cases hg
      exact hf
    · exact hok j g (by omega) hg
  · rw [← e, List.length_append]
    have := encF_len hf
    omega

set_option maxRecDepth 40000 in
set_option maxHeartbeats 8000000 in
theorem law7 (A A' A'' : Option Addr) (n c n' c' n'' c'' : Nat) (b : List UInt8) (fs : List Fd) (aft : List UInt8) (w : World) (h : Sl w A n c (byteCells b)) (hf : FdsAt w A' n' c' fs) (h' : Sl w A'' n'' c'' (byteCells aft)) :
    Calls Try.prog 7 #[.slice A n c, .slice A' n' c', .slice A'' n'' c''] w fun e w' => e = .returned (.bool true) ∧ Below w.heap.size w w' := by
  have hnc := h.1
  have hc := h.2.1
  have hnc' := hf.1
  have hc' := hf.2.1
  have hnc'' := h'.1
  have hc'' := h'.2.1
  have hlen := h.len
  have Hlen := hide hlen
  have hflen := hf.2.2.1
  have Hflen := hide hflen
  have H := hide h
  have HF := hide hf
  have H' := hide h'
  clear h hf h' hlen hflen
  by_cases hbig : 1000 < n
  · go_enter Try.func7, Try.ntmps7
    go_wp2_with fail
    refine (alive10 w).mono ?_
    rintro e w1 ⟨rfl, hb1⟩
    have B1 := hide hb1
    clear hb1
    go_wp2
    go_ret
    exact ⟨rfl, B1.out⟩
  by_cases hbig2 : 1000 < n''
  · go_enter Try.func7, Try.ntmps7
    go_wp2_with fail
    refine (alive10 w).mono ?_
    rintro e w1 ⟨rfl, hb1⟩
    have B1 := hide hb1
    clear hb1
    go_wp2
    go_ret
    exact ⟨rfl, B1.out⟩
  by_cases hbig3 : 50 < n'
  · go_enter Try.func7, Try.ntmps7
    go_wp2_with fail
    refine (alive10 w).mono ?_
    rintro e w1 ⟨rfl, hb1⟩
    have B1 := hide hb1
    clear hb1
    go_wp2
    go_ret
    exact ⟨rfl, B1.out⟩
  go_enter Try.func7, Try.ntmps7
  go_wp2_with fail
  refine (alive10 w).mono ?_
  rintro e w1 ⟨rfl, hb1⟩
  have B1 := hide hb1
  have H1 := hide (H.out.below hb1)
  clear hb1
  go_wp2
  go_loopw [7, 8] (fun u v wr => ∃ (k : Nat) (A1 : Option Addr) (m1 c1 : Nat), k ≤ n' ∧ u = .slice A1 m1 c1 ∧ v = .int .i64 k ∧ R1 w b fs n k A1 m1 c1 wr) (fun _ v _ => n' - (intOf v).toNat)
  case atStart => exact ⟨0, A, n, c, by omega, rfl, rfl, by rw [List.take_zero]; show Sl w1 A n c (byteCells (b ++ [])); rw [List.append_nil]; exact H1.out, fun j f hj => by omega, by rw [List.take_zero]; show (b ++ []).length ≤ _; rw [List.append_nil, Hlen.out]; omega, B1.out⟩
  case round =>
    obtain ⟨k, A1, m1, c1, hk, rfl, rfl, hr⟩ := hrel
    obtain ⟨hsl, hok, hdl, hbel⟩ := hr
    have hsz := hbel.size
    have Hsl := hide hsl
    have Hok := hide hok
    have Hb := hide hbel
    have hml := hsl.len
    have hm1 : m1 ≤ n + 9100 * k := by rw [← hml]; exact hdl
    have Hln := hide hdl
    clear hsl hok hbel hml hdl
    by_cases hlt : k < n'
    · obtain ⟨f, hfk⟩ : ∃ f, fs[k]? = some f := ⟨_, List.getElem?_eq_getElem (by rw [Hflen.out]; exact hlt)⟩
      obtain ⟨g, o, A2, n2, c2, hA, f0, f1, f2, f3, hs2, hz2, ht2⟩ := (HF.out.below Hb.out).plain hfk
      obtain ⟨kind, num, t, xs⟩ := f
      cases hA
      have Hfk := hide hfk
      have hn2 := hs2.nlen
      have Hn2 := hide hn2
      have hnc2 := hs2.1
      have hc2 := hs2.2.1
      have Hs2 := hide hs2
      have Hz2 := hide hz2
      simp only at f0 f1 f2 f3 ht2
      clear hfk hn2 hs2 hz2
      have Hbn := hide (Hb.out.alloc hsz (.cells #[.int .i64 kind, .int .i64 num, .string t, .slice A2 n2 c2] 44))
      have Hbox := hide (Box.new wr kind num t (.slice A2 n2 c2))
      by_cases e1 : num < 0
      · go_wp2
        go_ret
        exact ⟨rfl, Hbn.out⟩
      have e1' : 0 ≤ num := by omega
      by_cases e2 : 4611686018427387904 < num
      · go_wp2
        go_ret
        exact ⟨rfl, Hbn.out⟩
      have e2' : num ≤ 4611686018427387904 := by omega
      by_cases e3 : 1000 < t.size
      · go_wp2
        go_ret
        exact ⟨rfl, Hbn.out⟩
      have e3' : t.size ≤ 1000 := by omega
      by_cases e4 : 1000 < n2
      · go_wp2
        go_ret
        exact ⟨rfl, Hbn.out⟩
      have e4' : n2 ≤ 1000 := by omega
      by_cases e5 : 0 < n2
      · obtain ⟨ad2, z, hA2, hz, hcell⟩ := num_cell (k := n2 - 1) Hs2.out.reads (by omega)
        subst hA2
        have hlz : xs.getLastD 0 = z := by
          rw [List.getLastD_eq_getLast?, List.getLast?_eq_getElem?, Hn2.out, hz]; rfl
        have hcell2 : (wr.alloc (.cells #[.int .i64 kind, .int .i64 num, .string t, .slice (some ad2) n2 c2] 44)).cell? (ad2.add (n2 - 1)) = some (.int .i64 z) := by
          rw [World.cell?_alloc_lt _ _ _ (World.block_lt_of_cell? _ _ hcell)]; exact hcell
        have Hlz := hide hlz
        have hidx : (n2 : Int) - 1 = ((n2 - 1 : Nat) : Int) := by omega
        have hi1 : 1 ≤ n2 := by omega
        have hi2 : n2 - 1 < n2 := by omega
        clear hlz hz hcell
        by_cases e6 : 4611686018427387904 < z
        · go_wp2
          go_ret
          exact ⟨rfl, Hbn.out⟩
        have e6' : z ≤ 4611686018427387904 := by omega
        by_cases k0 : kind.tmod 3 = 0
        · have q0 : (kind.tmod 3 == 0) = true := beq_iff_eq.2 k0
          have HokF := hide (show OkF (kind, num, t, xs) from ⟨e1', e2', e3', by show xs.length ≤ 1000; rw [Hn2.out]; exact e4', fun _ => by show xs.getLastD 0 ≤ _; rw [Hlz.out]; exact e6', fun h => absurd k0 h⟩)
          have Hk0 := hide k0
          clear k0
          go_wp2_with fail
          refine (put12 A1 m1 c1 _ num _ (Hsl.out.below (bnew (Below.refl _ _) _)) (by omega) (by omega)).mono ?_
          intro e w2 hgr
          obtain ⟨A3, m3, c3, rfl, hs3, hb3⟩ := sl_of hgr
          rw [← encF_num (kind, num, t, xs) Hk0.out] at hs3
          have Hr := hide (R1.next Hok.out Hfk.out HokF.out Hln.out hs3 (Hbn.out.trans (hb3.mono (by have := Hbn.out.size; exact this))))
          clear hgr hs3 hb3
          go_wp2
          go_roundw
          case rel => exact ⟨k + 1, A3, m3, c3, by omega, rfl, by go_num, Hr.out⟩
          case measure => simp [intOf]; omega
        · have q0 : (kind.tmod 3 == 0) = false := beq_eq_false_iff_ne.2 k0
          by_cases k1 : kind.tmod 3 = 1
          · have q1 : (kind.tmod 3 == 1) = true := beq_iff_eq.2 k1
            have HokF := hide (show OkF (kind, num, t, xs) from ⟨e1', e2', e3', by show xs.length ≤ 1000; rw [Hn2.out]; exact e4', fun _ => by show xs.getLastD 0 ≤ _; rw [Hlz.out]; exact e6', fun _ h => absurd k1 h⟩)
            have Hk1 := hide k1
            clear k0 k1
            go_wp2_with fail
            refine (puts14 A1 m1 c1 _ t _ (Hsl.out.below (bnew (Below.refl _ _) _)) (by omega) (by omega)).mono ?_
            intro e w2 hgr
            obtain ⟨A3, m3, c3, rfl, hs3, hb3⟩ := sl_of hgr
            rw [← encF_text (kind, num, t, xs) Hk1.out] at hs3
            have Hr := hide (R1.next Hok.out Hfk.out HokF.out Hln.out hs3 (Hbn.out.trans (hb3.mono (by have := Hbn.out.size; exact this))))
            clear hgr hs3 hb3
            go_wp2
            go_roundw
            case rel => exact ⟨k + 1, A3, m3, c3, by omega, rfl, by go_num, Hr.out⟩
            case measure => simp [intOf]; omega
          · have q1 : (kind.tmod 3 == 1) = false := beq_eq_false_iff_ne.2 k1
            have Hk0 := hide k0
            have Hk1 := hide k1
            clear k0 k1
            cases hinc : incr (-1) xs with
            | false =>
              have hp := putL_no (b ++ encFs (fs.take k)) xs hinc
              have Hp := hide hp
              clear hp hinc
              go_wp2_with fail
              refine (putl23 A1 (some ad2) m1 c1 n2 c2 _ xs _ (Hsl.out.below (bnew (Below.refl _ _) _)) (Hs2.out.below (bnew (Below.refl _ _) _)) (by omega) (by omega) Hz2.out).mono ?_
              intro e w2 hgr
              rw [Hp.out] at hgr
              obtain ⟨A3, m3, c3, rfl, hs3, hb3⟩ := put_sl hgr
              have Hb3 := hide (Hbn.out.trans (hb3.mono (by have := Hbn.out.size; exact this)))
              clear hgr hs3 hb3
              go_wp2
              go_ret
              exact ⟨rfl, Hb3.out⟩
            | true =>
              have HokF := hide (show OkF (kind, num, t, xs) from ⟨e1', e2', e3', by show xs.length ≤ 1000; rw [Hn2.out]; exact e4', fun _ => by show xs.getLastD 0 ≤ _; rw [Hlz.out]; exact e6', fun _ _ => hinc⟩)
              have hp := putL_yes (b ++ encFs (fs.take k)) xs hinc
              have Hp := hide hp
              clear hp hinc
              go_wp2_with fail
              refine (putl23 A1 (some ad2) m1 c1 n2 c2 _ xs _ (Hsl.out.below (bnew (Below.refl _ _) _)) (Hs2.out.below (bnew (Below.refl _ _) _)) (by omega) (by omega) Hz2.out).mono ?_
              intro e w2 hgr
              rw [Hp.out] at hgr
              obtain ⟨A3, m3, c3, rfl, hs3, hb3⟩ := put_sl hgr
              have hs4 : Sl w2 A3 m3 c3 (byteCells ((b ++ encFs (fs.take k)) ++ encF (kind, num, t, xs))) := by rw [encF_list (kind, num, t, xs) Hk0.out Hk1.out]; exact hs3
              have Hr := hide (R1.next Hok.out Hfk.out HokF.out Hln.out hs4 (Hbn.out.trans (hb3.mono (by have := Hbn.out.size; exact this))))
              clear hgr hs3 hb3 hs4
              go_wp2
              go_roundw
              case rel => exact ⟨k + 1, A3, m3, c3, by omega, rfl, by go_num, Hr.out⟩
              case measure => simp [intOf]; omega
      · have e5' : n2 ≤ 0 := by omega
        by_cases k0 : kind.tmod 3 = 0
        · have q0 : (kind.tmod 3 == 0) = true := beq_iff_eq.2 k0
          have HokF := hide (show OkF (kind, num, t, xs) from ⟨e1', e2', e3', by show xs.length ≤ 1000; rw [Hn2.out]; exact e4', fun h => by exfalso; have h' : 0 < xs.length := h; rw [Hn2.out] at h'; omega, fun h => absurd k0 h⟩)
          have Hk0 := hide k0
          clear k0
          go_wp2_with fail
          refine (put12 A1 m1 c1 _ num _ (Hsl.out.below (bnew (Below.refl _ _) _)) (by omega) (by omega)).mono ?_
          intro e w2 hgr
          obtain ⟨A3, m3, c3, rfl, hs3, hb3⟩ := sl_of hgr
          rw [← encF_num (kind, num, t, xs) Hk0.out] at hs3
          have Hr := hide (R1.next Hok.out Hfk.out HokF.out Hln.out hs3 (Hbn.out.trans (hb3.mono (by have := Hbn.out.size; exact this))))
          clear hgr hs3 hb3
          go_wp2
          go_roundw
          case rel => exact ⟨k + 1, A3, m3, c3, by omega, rfl, by go_num, Hr.out⟩
          case measure => simp [intOf]; omega
        · have q0 : (kind.tmod 3 == 0) = false := beq_eq_false_iff_ne.2 k0
          by_cases k1 : kind.tmod 3 = 1
          · have q1 : (kind.tmod 3 == 1) = true := beq_iff_eq.2 k1
            have HokF := hide (show OkF (kind, num, t, xs) from ⟨e1', e2', e3', by show xs.length ≤ 1000; rw [Hn2.out]; exact e4', fun h => by exfalso; have h' : 0 < xs.length := h; rw [Hn2.out] at h'; omega, fun _ h => absurd k1 h⟩)
            have Hk1 := hide k1
            clear k0 k1
            go_wp2_with fail
            refine (puts14 A1 m1 c1 _ t _ (Hsl.out.below (bnew (Below.refl _ _) _)) (by omega) (by omega)).mono ?_
            intro e w2 hgr
            obtain ⟨A3, m3, c3, rfl, hs3, hb3⟩ := sl_of hgr
            rw [← encF_text (kind, num, t, xs) Hk1.out] at hs3
            have Hr := hide (R1.next Hok.out Hfk.out HokF.out Hln.out hs3 (Hbn.out.trans (hb3.mono (by have := Hbn.out.size; exact this))))
            clear hgr hs3 hb3
            go_wp2
            go_roundw
            case rel => exact ⟨k + 1, A3, m3, c3, by omega, rfl, by go_num, Hr.out⟩
            case measure => simp [intOf]; omega
          · have q1 : (kind.tmod 3 == 1) = false := beq_eq_false_iff_ne.2 k1
            have Hk0 := hide k0
            have Hk1 := hide k1
            clear k0 k1
            cases hinc : incr (-1) xs with
            | false =>
              have hp := putL_no (b ++ encFs (fs.take k)) xs hinc
              have Hp := hide hp
              clear hp hinc
              go_wp2_with fail
              refine (putl23 A1 A2 m1 c1 n2 c2 _ xs _ (Hsl.out.below (bnew (Below.refl _ _) _)) (Hs2.out.below (bnew (Below.refl _ _) _)) (by omega) (by omega) Hz2.out).mono ?_
              intro e w2 hgr
              rw [Hp.out] at hgr
              obtain ⟨A3, m3, c3, rfl, hs3, hb3⟩ := put_sl hgr
              have Hb3 := hide (Hbn.out.trans (hb3.mono (by have := Hbn.out.size; exact this)))
              clear hgr hs3 hb3
              go_wp2
              go_ret
              exact ⟨rfl, Hb3.out⟩
            | true =>
              have HokF := hide (show OkF (kind, num, t, xs) from ⟨e1', e2', e3', by show xs.length ≤ 1000; rw [Hn2.out]; exact e4', fun h => by exfalso; have h' : 0 < xs.length := h; rw [Hn2.out] at h'; omega, fun _ _ => hinc⟩)
              have hp := putL_yes (b ++ encFs (fs.take k)) xs hinc
              have Hp := hide hp
              clear hp hinc
              go_wp2_with fail
              refine (putl23 A1 A2 m1 c1 n2 c2 _ xs _ (Hsl.out.below (bnew (Below.refl _ _) _)) (Hs2.out.below (bnew (Below.refl _ _) _)) (by omega) (by omega) Hz2.out).mono ?_
              intro e w2 hgr
              rw [Hp.out] at hgr
              obtain ⟨A3, m3, c3, rfl, hs3, hb3⟩ := put_sl hgr
              have hs4 : Sl w2 A3 m3 c3 (byteCells ((b ++ encFs (fs.take k)) ++ encF (kind, num, t, xs))) := by rw [encF_list (kind, num, t, xs) Hk0.out Hk1.out]; exact hs3
              have Hr := hide (R1.next Hok.out Hfk.out HokF.out Hln.out hs4 (Hbn.out.trans (hb3.mono (by have := Hbn.out.size; exact this))))
              clear hgr hs3 hb3 hs4
              go_wp2
              go_roundw
              case rel => exact ⟨k + 1, A3, m3, c3, by omega, rfl, by go_num, Hr.out⟩
              case measure => simp [intOf]; omega
    · have hkn : k = n' := by omega
      subst hkn
      have hall : fs.take k = fs := List.take_of_length_le (by rw [Hflen.out]; omega)
      have Hall := hide hall
      clear hall
      go_wp2_with fail
      refine (joined25 A1 A'' m1 c1 n'' c'' _ aft _ Hsl.out (H'.out.below Hb.out) (by omega) (by omega)).mono ?_
      intro e w2 hgr
      obtain ⟨A4, m4, c4, rfl, hs4, hb4⟩ := sl_of hgr
      rw [Hall.out] at hs4
      have hml2 := Hsl.out.len
      rw [Hall.out] at hml2
      have Hml2 := hide hml2
      have Hs4 := hide hs4
      have Hb4 := hide (Hb.out.trans (hb4.mono hsz))
      have hok2 : ∀ f ∈ fs, OkF f := fun f hf => by
        obtain ⟨j, hj, rfl⟩ := List.mem_iff_getElem.1 hf
        exact Hok.out j _ (by rw [← Hflen.out]; exact hj) (List.getElem?_eq_getElem hj)
      have Hok2 := hide hok2
      have hc4 := hs4.2.1
      have hmc4 := hs4.1
      have hm4 : m4 ≤ 1000000 := by
        have := hs4.len
        rw [List.length_append, hml2, H'.out.len] at this
        omega
      clear hgr hs4 hb4 hml2 hok2 Hsl Hok Hb hsz Hall hlt
      go_wp2
      go_loopw [13, 14] (fun u v wr => ∃ j pos : Nat, j ≤ k ∧ v = .int .i64 j ∧ u = .int .i64 pos ∧ pos = (b ++ encFs (fs.take j)).length ∧ Below w.heap.size w wr ∧ Below w2.heap.size w2 wr) (fun _ v _ => k - (intOf v).toNat)
      case atStart => exact ⟨0, n, by omega, rfl, rfl, by rw [List.take_zero]; show n = (b ++ []).length; rw [List.append_nil, Hlen.out], Hb4.out, Below.refl _ _⟩
      case round =>
        obtain ⟨j, pos, hj, rfl, rfl, hpos, hbx, hbx2⟩ := hrel
        have hszx := hbx.size
        have Hpos := hide hpos
        have Hbx := hide hbx
        have Hbx2 := hide hbx2
        have Hs4x := hide (Hs4.out.below hbx2)
        clear hpos hbx hbx2
        by_cases hlt : j < k
        · obtain ⟨f, hfk⟩ : ∃ f, fs[j]? = some f := ⟨_, List.getElem?_eq_getElem (by rw [Hflen.out]; exact hlt)⟩
          obtain ⟨g, o, A2, n2, c2, hA, f0, f1, f2, f3, hs2, hz2, ht2⟩ := (HF.out.below Hbx.out).plain hfk
          have hokf := Hok2.out f (List.mem_of_getElem? hfk)
          have hX : (b ++ encFs fs) ++ aft = (b ++ encFs (fs.take j)) ++ (encF f ++ (encFs (fs.drop (j + 1)) ++ aft)) := by
            rw [encFs_all fs j, encFs_drop fs j f hfk]; simp only [List.append_assoc]
          obtain ⟨np, hnp⟩ : ∃ np, pos + (encF f).length = np := ⟨_, rfl⟩
          have hpos2 : np = (b ++ encFs (fs.take (j + 1))).length := by rw [encFs_take fs j f hfk, ← List.append_assoc, List.length_append, ← Hpos.out, hnp]
          obtain ⟨kind, num, t, xs⟩ := f
          cases hA
          have Hn2 := hide hs2.nlen
          have Hs2 := hide hs2
          have HX := hide hX
          have Hnp := hide hnp
          have Hpos2 := hide hpos2
          have Hokf := hide hokf
          have ht1 : t.size ≤ 1000 := hokf.2.2.1
          have hnum0 : 0 ≤ num := hokf.1
          have hnum1 : num ≤ 4611686018427387904 := hokf.2.1
          have hxl : xs.length ≤ 1000 := hokf.2.2.2.1
          have hn2 : n2 ≤ 1000 := by rw [← Hn2.out]; exact hxl
          simp only at f0 f1 f2 f3 ht2
          clear hfk hs2 hX hnp hpos2 hokf hxl hz2
          have Hbn := hide (Hbx.out.alloc hszx (.cells #[.int .i64 kind, .int .i64 num, .string t, .slice A2 n2 c2] 44))
          have Hbn2 := hide (Hbx2.out.trans ((bnew (Below.refl wr.heap.size wr) (.cells #[.int .i64 kind, .int .i64 num, .string t, .slice A2 n2 c2] 44)).mono Hbx2.out.size))
          have Hsn := hide (Hs4x.out.below (bnew (Below.refl wr.heap.size wr) (.cells #[.int .i64 kind, .int .i64 num, .string t, .slice A2 n2 c2] 44)))
          by_cases k0 : kind.tmod 3 = 0
          · have q0 : (kind.tmod 3 == 0) = true := beq_iff_eq.2 k0
            obtain ⟨N, hN⟩ : ∃ N : Nat, num = (N : Int) := ⟨num.toNat, by omega⟩
            subst hN
            have he := encF_num (kind, (N : Int), t, xs) k0
            rw [show ((kind, (N : Int), t, xs) : Fd).2.1.toNat = N from Int.toNat_natCast N] at he
            have hg := getP_back (b ++ encFs (fs.take j)) (encFs (fs.drop (j + 1)) ++ aft) N (by unfold big; omega)
            rw [← he, ← HX.out, ← Hpos.out, Hnp.out] at hg
            have Hg := hide hg
            clear hg he k0
            go_wp2_with fail
            refine (get16' _ A4 m4 c4 _ _ (Sl.reads Hsn.out) hmc4 hc4 _ N np 0 Hg.out).mono ?_
            rintro e w3 ⟨rfl, rfl⟩
            go_wp2
            go_roundw
            case rel => exact ⟨j + 1, np, by omega, by go_num, rfl, Hpos2.out, Hbn.out, Hbn2.out⟩
            case measure => simp [intOf]; omega
          · have q0 : (kind.tmod 3 == 0) = false := beq_eq_false_iff_ne.2 k0
            by_cases k1 : kind.tmod 3 = 1
            · have q1 : (kind.tmod 3 == 1) = true := beq_iff_eq.2 k1
              have he := encF_text (kind, num, t, xs) k1
              have hsz2 : t.data.toList.length = t.size := size_list t
              have hg := getS_back (b ++ encFs (fs.take j)) t.data.toList (encFs (fs.drop (j + 1)) ++ aft) (t.size : Int) (by rw [hsz2]; unfold big; omega) (by rw [hsz2]; omega)
              have hX2 := HX.out
              have hnp2 := Hnp.out
              rw [show ((kind, num, t, xs) : Fd).2.2.1 = t from rfl] at he
              rw [he, List.append_assoc (enc t.size)] at hX2
              rw [he, List.length_append, ← Nat.add_assoc] at hnp2
              rw [hsz2] at hg
              rw [hsz2] at hnp2
              rw [← hX2, ← Hpos.out, hnp2] at hg
              have Hg := hide hg
              clear hg he hX2 hnp2 hsz2 k0 k1
              go_wp2_with fail
              refine (gets18' A4 m4 c4 _ _ Hsn.out _ _ t np Hg.out).mono ?_
              rintro e w3 ⟨rfl, rfl⟩
              go_wp2
              go_roundw
              case rel => exact ⟨j + 1, np, by omega, by go_num, rfl, Hpos2.out, Hbn.out, Hbn2.out⟩
              case measure => simp [intOf]; omega
            · have q1 : (kind.tmod 3 == 1) = false := beq_eq_false_iff_ne.2 k1
              have he := encF_list (kind, num, t, xs) k0 k1
              have hinc : incr (-1) xs = true := Hokf.out.2.2.2.2.2 k0 k1
              have hyb := okF_list Hokf.out hinc
              have hg := getL_back (b ++ encFs (fs.take j)) (encFs (fs.drop (j + 1)) ++ aft) xs (n2 : Int) hinc hyb (by rw [Hn2.out]; unfold big; omega) (by rw [Hn2.out]; omega)
              have hX2 := HX.out
              have hnp2 := Hnp.out
              rw [he] at hX2 hnp2
              rw [show ((kind, num, t, xs) : Fd).2.2.2 = xs from rfl] at hX2 hnp2
              rw [← hX2, ← Hpos.out, hnp2] at hg
              have Hg := hide hg
              clear hg he hX2 hnp2 hinc hyb k0 k1
              go_wp2_with fail
              refine (getl20 A4 m4 c4 _ _ Hsn.out (by omega) _ _).mono ?_
              intro e w3 hgr
              rw [Hg.out] at hgr
              obtain ⟨A5, m5, c5, rfl, hs5, hb5⟩ := got_sl hgr
              obtain ⟨_, x0, x1, x2, x3⟩ := (Box.new wr kind num t (.slice A2 n2 c2)).keep hb5
              have Hs5 := hide hs5
              have Hs2' := hide ((Hs2.out.below (bnew (Below.refl wr.heap.size wr) _)).below hb5)
              have Hb5 := hide (Hbn.out.trans (hb5.mono (by have := Hbn.out.size; exact this)))
              have Hb52 := hide (Hbn2.out.trans (hb5.mono (by have := Hbn2.out.size; exact this)))
              clear hgr hs5 hb5
              go_wp2_with fail
              refine (same22' A5 A2 m5 c5 n2 c2 xs _ Hs5.out Hs2'.out).mono ?_
              rintro e w4 ⟨rfl, hd⟩
              have Hb6 := hide (Hb5.out.trans (hd.below _))
              have Hb62 := hide (Hb52.out.trans (hd.below _))
              clear hd
              go_wp2
              go_roundw
              case rel => exact ⟨j + 1, np, by omega, by go_num, rfl, Hpos2.out, Hb6.out, Hb62.out⟩
              case measure => simp [intOf]; omega
        · have hpm : pos = m1 := by rw [Hpos.out, ← Hml2.out, List.take_of_length_le (by rw [Hflen.out]; omega)]
          subst hpm
          go_wp2
          go_ret
          exact ⟨ret_bool (by simp), Hbx.out⟩

end Go.Proofs.Ytpgoglkgaeccnaa
