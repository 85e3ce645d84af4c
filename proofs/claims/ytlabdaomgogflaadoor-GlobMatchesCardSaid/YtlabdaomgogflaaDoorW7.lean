/- Walks of skipStars, step and Match of the program. -/
import Derived.Test.YtlabdaomgogflaaDoorW6
import Derived.Test.YtlabdaomgogflaaDoorPn
namespace Go.Proofs.YtlabdaomgogflaaDoor
open Go.RowKit

/-- Block bk holds N truths that may be written. -/
def BRow (w : World) (bk N : Nat) (d : Nat → Bool) : Prop := bk < w.heap.size ∧ ∀ j, j < N → w.cell? ⟨bk, j, none⟩ = some (.bool (d j)) ∧ w.frozen? ⟨bk, j, none⟩ = false
theorem BRow.below {w w' : World} {bk N : Nat} {d : Nat → Bool} (h : BRow w bk N d) (hb : Below w.heap.size w w') : BRow w' bk N d :=
  ⟨by have := hb.size; have := h.1; omega, fun j hj => ⟨(hb.cell (p := ⟨bk, j, none⟩) h.1).trans (h.2 j hj).1, (hb.frozen (p := ⟨bk, j, none⟩) h.1).trans (h.2 j hj).2⟩⟩
def upd (d : Nat → Bool) (k : Nat) (b : Bool) (j : Nat) : Bool := if j = k then b else d j
theorem BRow.set {w : World} {bk N : Nat} {d : Nat → Bool} (h : BRow w bk N d) (k : Nat) (hk : k < N) (b : Bool) : BRow (w.setCell ⟨bk, k, none⟩ (.bool b)) bk N (upd d k b) := by
  refine ⟨by simpa [World.setCell] using h.1, fun j hj => ⟨?_, by rw [World.frozen?_setCell]; exact (h.2 j hj).2⟩⟩
  unfold upd
  by_cases hjk : j = k
  · subst hjk
    rw [if_pos rfl, World.cell?_setCell_same _ _ _ (h.2 j hj).1]
  · rw [if_neg hjk, World.cell?_setCell_other _ _ _ _ (fun e => hjk (congrArg Addr.off e).symm), (h.2 j hj).1]
theorem BRow.ext {w : World} {bk N : Nat} {d d' : Nat → Bool} (h : BRow w bk N d) (hd : ∀ j, j < N → d j = d' j) : BRow w bk N d' :=
  ⟨h.1, fun j hj => by rw [← hd j hj]; exact h.2 j hj⟩

/-- The elements lie in a world that was, and have not been touched. -/
def Parts (w : World) (ao : Option Addr) (cap bk : Nat) (es : List (List UInt8)) : Prop := ∃ w0 : World, RdS w0 ao es.length cap 1 (strV es) ∧ Below w0.heap.size w0 w ∧ w0.heap.size ≤ bk
theorem Parts.below {w w' : World} {ao : Option Addr} {cap bk : Nat} {es : List (List UInt8)} (h : Parts w ao cap bk es) (hb : Below bk w w') : Parts w' ao cap bk es := by
  obtain ⟨w0, h1, h2, h3⟩ := h
  exact ⟨w0, h1, h2.trans (hb.mono h3), h3⟩
theorem Parts.at {w : World} {ao : Option Addr} {cap bk : Nat} {es : List (List UInt8)} (h : Parts w ao cap bk es) {k : Nat} (hk : k < es.length) : ∃ g, ao = some ⟨g, 0, none⟩ ∧ w.cell? ⟨g, k, none⟩ = some (.string ⟨es[k].toArray⟩) := by
  obtain ⟨w0, h1, h2, h3⟩ := h
  obtain ⟨g, hg, x, hx, hc⟩ := (h1.below h2).at hk
  refine ⟨g, hg, ?_⟩
  rw [hc, ← hx]
  unfold strV
  rw [List.getElem?_map, List.getElem?_eq_getElem hk]
  rfl

theorem size_e (e : List UInt8) : (⟨e.toArray⟩ : ByteArray).size = e.length := size_mk e
theorem star55' (e : List UInt8) (h : 0 < e.length) (b : Bool) (hb : isStar e = b) (w : World) : Calls Tryd.prog 55 #[.string ⟨e.toArray⟩] w fun e w' => e = .returned (.bool b) ∧ w = w' := by
  subst hb
  exact star55 ⟨e.toArray⟩ (by rw [size_e]; exact h) w
theorem ta56' (e : List UInt8) (c : UInt8) (hg : GoodE e) (hl : e.length ≤ 100000) (b : Bool) (hb : takes e c = b) (w : World) : Calls Tryd.prog 56 #[.string ⟨e.toArray⟩, .int .u8 (c.toNat : Int)] w fun e w' => e = .returned (.bool b) ∧ Below w.heap.size w w' := by
  subst hb
  refine ta56 ⟨e.toArray⟩ c w (by rw [size_e]; exact hl) (by rw [size_e]; exact hg.1) (fun h => ?_)
  rw [size_e]
  apply hg.2
  have := headD_at ⟨e.toArray⟩ (by rw [size_e]; exact hg.1)
  rw [h] at this
  exact this

def SkI (es : List (List UInt8)) (d : Nat → Bool) (k : Nat) (d' : Nat → Bool) : Prop := (∀ j, j ≤ k → d' j = skF es d j) ∧ ∀ j, k < j → d' j = d j
theorem SkI.zero (es : List (List UInt8)) (d : Nat → Bool) : SkI es d 0 d := by
  refine ⟨?_, fun _ _ => rfl⟩
  intro j hj
  cases j with
  | zero => rfl
  | succ j => omega
theorem SkI.keep {es : List (List UInt8)} {d d' : Nat → Bool} {k : Nat} (h : SkI es d k d') (hs : (d' k && st es k) = false) : SkI es d (k + 1) d' := by
  refine ⟨fun j hj => ?_, fun j hj => h.2 j (by omega)⟩
  by_cases e : j = k + 1
  · subst e
    rw [h.2 (k + 1) (by omega)]
    rw [h.1 k (Nat.le_refl _)] at hs
    show _ = (d (k + 1) || (skF es d k && st es k))
    rw [hs, Bool.or_false]
  · exact h.1 j (by omega)
theorem SkI.put {es : List (List UInt8)} {d d' : Nat → Bool} {k : Nat} (h : SkI es d k d') (hs : (d' k && st es k) = true) : SkI es d (k + 1) (upd d' (k + 1) true) := by
  refine ⟨fun j hj => ?_, fun j hj => ?_⟩
  · unfold upd
    by_cases e : j = k + 1
    · subst e
      rw [if_pos rfl]
      rw [h.1 k (Nat.le_refl _)] at hs
      show _ = (d (k + 1) || (skF es d k && st es k))
      rw [hs, Bool.or_true]
    · rw [if_neg e]
      exact h.1 j (by omega)
  · unfold upd
    rw [if_neg (by omega)]
    exact h.2 j (by omega)

set_option maxHeartbeats 1600000 in
theorem skip39 (es : List (List UInt8)) (n : Nat) (hne : es.length = n) (ao : Option Addr) (cap bk cap2 : Nat) (d : Nat → Bool) (w : World) (hn : n ≤ 100000) (hg : ∀ e ∈ es, GoodE e) (hp : Parts w ao cap bk es) (hd : BRow w bk (n + 1) d) :
    Calls Tryd.prog 39 #[.slice ao n cap, .slice (some ⟨bk, 0, none⟩) (n + 1) cap2] w fun e w' => e = .returned (.tuple #[]) ∧ BRow w' bk (n + 1) (skF es d) ∧ Below bk w w' := by
  have Hg := hide hg
  have Hne := hide hne
  have Hp := hide hp
  have Hd := hide hd
  clear hg hne hp hd
  go_enter Tryd.func39, Tryd.ntmps39
  go_wp2
  go_loopw [8] (fun i wr => ∃ (k : Nat) (d' : Nat → Bool), k ≤ n ∧ i = .int .i64 k ∧ SkI es d k d' ∧ BRow wr bk (n + 1) d' ∧ Below bk w wr) (fun i _ => n - (intOf i).toNat)
  case atStart => exact ⟨0, d, Nat.zero_le _, rfl, SkI.zero es d, Hd.out, Below.refl _ _⟩
  case round =>
    obtain ⟨k, d', hk, rfl, hsk, hbr, hbw⟩ := hrel
    have Hsk := hide hsk
    have Hbr := hide hbr
    have Hbw := hide hbw
    clear hsk hbr hbw
    by_cases hlt : k < n
    · have hke : k < es.length := by rw [Hne.out]; exact hlt
      obtain ⟨g, rfl, hc⟩ := (Hp.out.below Hbw.out).at hke
      have hge := Hg.out es[k] (List.getElem_mem _)
      have hst : isStar es[k] = st es k := by unfold st; rw [getD_at es k hke]
      obtain ⟨hdk, _⟩ := Hbr.out.2 k (by omega)
      obtain ⟨hdk1, hfk1⟩ := Hbr.out.2 (k + 1) (by omega)
      cases hx : d' k
      · have hnext := Hsk.out.keep (by rw [hx]; rfl)
        rw [hx] at hdk
        have Hnext := hide hnext
        clear hnext hst hge hx
        go_wp2
        go_roundw
        case rel => exact ⟨k + 1, d', by omega, by go_num, Hnext.out, Hbr.out, Hbw.out⟩
        case measure => simp [intOf]; omega
      · rw [hx] at hdk
        cases hs : st es k
        · have hnext := Hsk.out.keep (by rw [hs, Bool.and_false])
          have Hnext := hide hnext
          rw [hs] at hst
          have Hst := hide hst
          have Hge := hide hge
          clear hnext hst hge hx hs
          go_wp2_with (go_at_call 55; refine (star55' _ Hge.out.1 _ Hst.out _).mono ?_; rintro e w' ⟨rfl, rfl⟩)
          go_roundw
          case rel => exact ⟨k + 1, d', by omega, by go_num, Hnext.out, Hbr.out, Hbw.out⟩
          case measure => simp [intOf]; omega
        · have hnext := Hsk.out.put (by rw [hx, hs]; rfl)
          have Hnext := hide hnext
          rw [hs] at hst
          have Hst := hide hst
          have Hge := hide hge
          have hbr2 := Hbr.out.set (k + 1) (by omega) true
          have hbw2 : Below bk w (wr.setCell ⟨bk, k + 1, none⟩ (.bool true)) := Hbw.out.setCell (Nat.le_refl _) _
          have Hbr2 := hide hbr2
          have Hbw2 := hide hbw2
          clear hnext hst hge hx hs hbr2 hbw2
          go_wp2_with (go_at_call 55; refine (star55' _ Hge.out.1 _ Hst.out _).mono ?_; rintro e w' ⟨rfl, rfl⟩)
          go_roundw
          case rel => exact ⟨k + 1, _, by omega, by go_num, Hnext.out, Hbr2.out, Hbw2.out⟩
          case measure => simp [intOf]; omega
    · go_wp2
      go_end0
      exact ⟨rfl, Hbr.out.ext fun j hj => Hsk.out.1 j (by omega), Hbw.out⟩

/-- What stands in the row while step goes down: the elements from k on are done. -/
def StI (es : List (List UInt8)) (d : Nat → Bool) (c : UInt8) (k : Nat) (d' : Nat → Bool) : Prop :=
  (∀ j, j < k → d' j = d j) ∧ d' k = (decide (k < es.length) && (took es d c k && st es k)) ∧ ∀ j, k < j → j ≤ es.length → d' j = stF es d c j
theorem StI.top (es : List (List UInt8)) (d : Nat → Bool) (c : UInt8) : StI es d c es.length (upd d es.length false) := by
  refine ⟨fun j hj => ?_, ?_, fun j h1 h2 => by omega⟩
  · unfold upd; rw [if_neg (by omega)]
  · unfold upd; rw [if_pos rfl, decide_eq_false (by omega), Bool.false_and]
theorem StI.no {es : List (List UInt8)} {d d' : Nat → Bool} {c : UInt8} {k : Nat} (h : StI es d c (k + 1) d') (ht : took es d c k = false) : StI es d c k (upd d' k false) := by
  obtain ⟨h1, h2, h3⟩ := h
  refine ⟨fun j hj => ?_, ?_, fun j hj hj2 => ?_⟩
  · unfold upd; rw [if_neg (by omega)]; exact h1 j (by omega)
  · unfold upd; rw [if_pos rfl, ht, Bool.false_and, Bool.and_false]
  · unfold upd
    rw [if_neg (by omega)]
    by_cases e : j = k + 1
    · subst e
      rw [h2]
      unfold stF
      rw [Nat.add_sub_cancel, ht, Bool.and_false, Bool.or_false]
    · exact h3 j (by omega) hj2
theorem StI.yes {es : List (List UInt8)} {d d' : Nat → Bool} {c : UInt8} {k : Nat} (h : StI es d c (k + 1) d') (hk : k < es.length) (ht : took es d c k = true) (b : Bool) (hb : st es k = b) : StI es d c k (upd (upd d' k b) (k + 1) true) := by
  obtain ⟨h1, h2, h3⟩ := h
  refine ⟨fun j hj => ?_, ?_, fun j hj hj2 => ?_⟩
  · unfold upd; rw [if_neg (by omega), if_neg (by omega)]; exact h1 j (by omega)
  · unfold upd; rw [if_neg (by omega), if_pos rfl, ht, hb, decide_eq_true hk]; rfl
  · unfold upd
    by_cases e : j = k + 1
    · subst e
      rw [if_pos rfl]
      unfold stF
      rw [Nat.add_sub_cancel, ht, decide_eq_true (show 0 < k + 1 by omega), Bool.true_and, Bool.or_true]
    · rw [if_neg e, if_neg (by omega)]
      exact h3 j (by omega) hj2
theorem StI.done {es : List (List UInt8)} {d d' : Nat → Bool} {c : UInt8} (h : StI es d c 0 d') (j : Nat) (hj : j < es.length + 1) : d' j = stF es d c j := by
  obtain ⟨h1, h2, h3⟩ := h
  by_cases e : j = 0
  · subst e
    rw [h2]
    unfold stF
    rw [decide_eq_false (show ¬ 0 < 0 by omega), Bool.false_and, Bool.or_false]
  · exact h3 j (by omega) (by omega)

set_option maxHeartbeats 1600000 in
theorem step40 (es : List (List UInt8)) (n : Nat) (hne : es.length = n) (ao : Option Addr) (cap bk cap2 : Nat) (d : Nat → Bool) (c : UInt8) (w : World) (hn : n ≤ 100000) (hg : ∀ e ∈ es, GoodE e ∧ e.length ≤ 100000) (hp : Parts w ao cap bk es) (hd : BRow w bk (n + 1) d) :
    Calls Tryd.prog 40 #[.slice ao n cap, .slice (some ⟨bk, 0, none⟩) (n + 1) cap2, .int .u8 (c.toNat : Int)] w fun e w' => e = .returned (.tuple #[]) ∧ BRow w' bk (n + 1) (stF es d c) ∧ Below bk w w' := by
  have hcc : c.toNat < 256 := UInt8.toNat_lt _
  obtain ⟨hdn, hfn⟩ := hd.2 n (by omega)
  have hd0 := hd.set n (by omega) false
  have htop := StI.top es d c
  rw [hne] at htop
  have Hg := hide hg
  have Hne := hide hne
  have Hp := hide hp
  have hb0 : Below bk w (w.setCell ⟨bk, n, none⟩ (.bool false)) := (Below.refl bk w).setCell (by exact Nat.le_refl _) _
  have Hb0 := hide hb0
  have Hd0 := hide hd0
  have Htop := hide htop
  clear hg hne hp hd hd0 htop hb0
  go_enter Tryd.func40, Tryd.ntmps40
  go_wp2
  go_loopw [6] (fun i wr => ∃ (k : Nat) (d' : Nat → Bool), k ≤ n ∧ i = .int .i64 ((k : Int) - 1) ∧ StI es d c k d' ∧ BRow wr bk (n + 1) d' ∧ Below bk w wr) (fun i _ => (intOf i + 1).toNat)
  case atStart => exact ⟨n, _, Nat.le_refl _, rfl, Htop.out, Hd0.out, Hb0.out⟩
  case round =>
    obtain ⟨k, d', hk, hi, hsk, hbr, hbw⟩ := hrel
    cases k with
    | zero =>
      have hi' := hi.trans (show _ = Value.int .i64 (-1) from rfl)
      subst hi'
      have Hsk := hide hsk
      have Hbr := hide hbr
      have Hbw := hide hbw
      clear hsk hbr hbw
      go_wp2
      go_end0
      exact ⟨rfl, Hbr.out.ext fun j hj => Hsk.out.done j (by have := Hne.out; omega), Hbw.out⟩
    | succ k =>
      obtain ⟨j, rfl⟩ : ∃ j, j = k := ⟨k, rfl⟩
      have hi' := hi.trans (show _ = Value.int .i64 (j : Int) from congrArg (Value.int .i64) (by omega))
      subst hi'
      clear hi
      have Hsk := hide hsk
      have Hbr := hide hbr
      have Hbw := hide hbw
      clear hsk hbr hbw
      have hke : j < es.length := by have := Hne.out; omega
      obtain ⟨g, rfl, hc⟩ := (Hp.out.below Hbw.out).at hke
      have hge := Hg.out es[j] (List.getElem_mem _)
      have hst : isStar es[j] = st es j := by unfold st; rw [getD_at es j hke]
      have htk : takes es[j] c = tk es j c := by unfold tk; rw [getD_at es j hke]
      obtain ⟨hdk, hfk⟩ := Hbr.out.2 j (by omega)
      have hdd := Hsk.out.1 j (by omega)
      rw [hdd] at hdk
      have Hge := hide hge
      clear hge hdd
      have h0j : (0 : Int) ≤ (j : Int) := by omega
      cases hx : d j
      · have hnext := Hsk.out.no (by unfold took; rw [hx]; rfl)
        rw [hx] at hdk
        have hbr2 := Hbr.out.set j (by omega) false
        have hbw2 : Below bk w (wr.setCell ⟨bk, j, none⟩ (.bool false)) := Hbw.out.setCell (Nat.le_refl _) _
        have Hnext := hide hnext
        have Hbr2 := hide hbr2
        have Hbw2 := hide hbw2
        clear hnext hst htk hx hbr2 hbw2
        go_wp2
        go_roundw
        case rel => exact ⟨j, _, by omega, rfl, Hnext.out, Hbr2.out, Hbw2.out⟩
        case measure => simp [intOf] <;> omega
      · rw [hx] at hdk
        cases ht : tk es j c
        · have hnext := Hsk.out.no (by unfold took; rw [ht, Bool.and_false])
          rw [ht] at htk
          have Hnext := hide hnext
          have Htk := hide htk
          clear hnext hst htk hx ht
          go_wp2_with fail
          refine (ta56' _ c Hge.out.1 Hge.out.2 _ Htk.out _).mono ?_
          rintro e w2 ⟨rfl, hb2⟩
          have hbw2 := Hbw.out.trans (hb2.mono (Nat.le_of_lt Hbr.out.1))
          have hbrB := Hbr.out.below hb2
          obtain ⟨hdk2, hfk2⟩ := hbrB.2 j (by omega)
          have hbr2 := hbrB.set j (by omega) false
          have hbw3 : Below bk w (w2.setCell ⟨bk, j, none⟩ (.bool false)) := hbw2.setCell (Nat.le_refl _) _
          have Hbr2 := hide hbr2
          have Hbw3 := hide hbw3
          clear hbr2 hbw3 hbrB hbw2 hb2 hdk hfk hc
          go_wp2
          go_roundw
          case rel => exact ⟨j, _, by omega, rfl, Hnext.out, Hbr2.out, Hbw3.out⟩
          case measure => simp [intOf] <;> omega
        · obtain ⟨b, hb⟩ : ∃ b, st es j = b := ⟨_, rfl⟩
          have hnext := Hsk.out.yes hke (by unfold took; rw [hx, ht]; rfl) b hb
          rw [ht] at htk
          rw [hb] at hst
          have Hnext := hide hnext
          have Htk := hide htk
          have Hst := hide hst
          clear hnext hst htk hx ht hb
          go_wp2_with fail
          refine (ta56' _ c Hge.out.1 Hge.out.2 _ Htk.out _).mono ?_
          rintro e w2 ⟨rfl, hb2⟩
          have hbw2 := Hbw.out.trans (hb2.mono (Nat.le_of_lt Hbr.out.1))
          have hbrB := Hbr.out.below hb2
          obtain ⟨hdk2, hfk2⟩ := hbrB.2 j (by omega)
          obtain ⟨g', hgg, hc2⟩ := (Hp.out.below hbw2).at hke
          simp only [Option.some.injEq, Addr.mk.injEq, and_true] at hgg
          subst hgg
          have hbr2 := hbrB.set j (by omega) b
          obtain ⟨hdk3, hfk3⟩ := hbr2.2 (j + 1) (by omega)
          have hbr3 := hbr2.set (j + 1) (by omega) true
          have hbw3 : Below bk w ((w2.setCell ⟨bk, j, none⟩ (.bool b)).setCell ⟨bk, j + 1, none⟩ (.bool true)) := (hbw2.setCell (Nat.le_refl _) _).setCell (Nat.le_refl _) _
          have Hbr3 := hide hbr3
          have Hbw3 := hide hbw3
          clear hbr2 hbr3 hbw3 hbrB hbw2 hb2 hdk hfk hc
          go_wp2_with (go_at_call 55; refine (star55' _ Hge.out.1.1 _ Hst.out _).mono ?_; rintro e w' ⟨rfl, rfl⟩)
          go_roundw
          case rel => exact ⟨j, _, by omega, rfl, Hnext.out, Hbr3.out, Hbw3.out⟩
          case measure => simp [intOf] <;> omega

end Go.Proofs.YtlabdaomgogflaaDoor
