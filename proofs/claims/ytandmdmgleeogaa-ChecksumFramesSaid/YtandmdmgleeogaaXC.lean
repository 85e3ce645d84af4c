/- Walk of the law on All. -/
import Derived.Test.YtandmdmgleeogaaXB
namespace Go.Proofs.Ytandmdmgleeogaa
open Go.RowKit
open Go.Lib (byteCells)

/-- An element of a row of slices. -/
theorem many_at {w : World} {v : Value} {A : Option Addr} {m c : Nat} {hs : List (Option Addr × Nat × Nat)} {ls : List (List UInt8)} (h : Sl w A m c (hs.map slv)) (hm : Many w v hs ls) {k : Nat} (hk : k < m) :
    ∃ ad B n d l, A = some ad ∧ ls[k]? = some l ∧ Sl w B n d (byteCells l) ∧ w.cell? (ad.add k) = some (.slice B n d) := by
  obtain ⟨ad, u, hA, _, hu, hc⟩ := h.reads.at_ hk
  rw [List.getElem?_map] at hu
  cases hp : hs[k]? with
  | none => rw [hp] at hu; simp at hu
  | some p =>
    rw [hp] at hu
    simp at hu
    subst hu
    have hkl : k < ls.length := by rw [← hm.1]; exact (List.getElem?_eq_some_iff.1 hp).1
    exact ⟨ad, p.1, p.2.1, p.2.2, ls[k], hA, List.getElem?_eq_getElem hkl, (hm.2 k p _ hp (List.getElem?_eq_getElem hkl)).1, hc⟩

theorem quiet_drawn {f : FuncId} {args : Array Value} {w : World} {n : Nat} {v : Value}
    (h : Calls Try.prog f args (w.drewN n) fun e w' => e = .returned v ∧ Drawn (w.drewN n) w') : Calls Try.prog f args (w.drewN n) fun e w'' => e = .returned v ∧ ∃ m, w'' = w.drewN m :=
  h.mono fun _ _ ⟨he, m, hm⟩ => ⟨he, n + m, by rw [hm]; simp⟩

set_option maxRecDepth 20000 in
set_option maxHeartbeats 3200000 in
theorem law6 (A : Option Addr) (n c : Nat) (l : List UInt8) (most : Int) (w : World) (h : Sl w A n c (byteCells l)) :
    Calls Try.prog 6 #[.slice A n c, .int .i64 most] w fun e w' => e = .returned (.bool true) ∧ Below w.heap.size w w' := by
  have H := hide h
  clear h
  by_cases hbig : 600 < n
  · go_enter Try.func6, Try.ntmps6
    go_wp2_with fail
    refine (alive10 w).mono ?_
    rintro e w1 ⟨rfl, hb1⟩
    have B1 := hide hb1
    clear hb1
    go_wp2
    go_ret
    exact ⟨rfl, B1.out⟩
  · obtain ⟨⟨ls, K⟩, hR⟩ : ∃ r, allP l most (n + 1) [] 0 = r := ⟨_, rfl⟩
    have HR := hide hR
    clear hR
    go_enter Try.func6, Try.ntmps6
    go_wp2_with fail
    refine (alive10 w).mono ?_
    rintro e w1 ⟨rfl, hb1⟩
    have B1 := hide hb1
    have H1 := hide (H.out.below hb1)
    clear hb1
    go_wp2_with fail
    refine (all20 A n c l _ H1.out (by omega) most (n + 1) (by omega)).mono ?_
    rw [HR.out]
    rintro e w2 ⟨v2, rfl, hr2, hb2⟩
    have B2 := hide (bgo B1.out hb2)
    have H2 := hide (H1.out.below hb2)
    have R2 : Hid (RowsL w2 w1.heap.size v2 ls) := hide hr2
    clear hr2 hb2 B1
    go_wp2_with fail
    refine (rall21 A n c l _ H2.out (by omega) most (n + 1) (by omega)).mono ?_
    rw [HR.out]
    rintro e w3 ⟨v3, rfl, hr3, hb3⟩
    obtain ⟨A2, m2, c2, hs2, rfl, hm2, hsl2, hmany2⟩ := (R2.out.below hb3).sl
    have hr3' : RowsL w3 w2.heap.size v3 ls := hr3
    obtain ⟨A3, m3, c3, hs3, rfl, hm3, hsl3, hmany3⟩ := hr3'.sl
    have B3 := hide (bgo B2.out hb3)
    obtain rfl : m2 = m3 := by omega
    have hc2 := hsl2.2.1
    have hc3 := hsl3.2.1
    have hmc2 := hsl2.1
    have hmc3 := hsl3.1
    have S2 := hide hsl2
    have S3 := hide hsl3
    have M2 := hide hmany2
    have M3 := hide hmany3
    clear hm2 hm3 hr3 hr3' hb3 hsl2 hsl3 hmany2 hmany3 R2 B2 H2 H1
    go_wp2
    go_loopw [9] (fun x wr => ∃ k : Nat, k ≤ m2 ∧ x = .int .i64 k ∧ Drawn w3 wr) (fun x _ => m2 - (intOf x).toNat)
    case atStart => exact ⟨0, Nat.zero_le _, rfl, Drawn.refl _⟩
    case round =>
      obtain ⟨k, hk, rfl, hd⟩ := hrel
      have Hd := hide hd
      have hbel := hd.below w3.heap.size
      clear hd
      by_cases hlt : k < m2
      · obtain ⟨ad, X, p, q, l1, rfl, hl1, hsx, hcell⟩ := many_at (S2.out.below hbel) (M2.out.far (Far.of_below hbel)) hlt
        obtain ⟨ad', X', p', q', l2, rfl, hl2, hsx', hcell'⟩ := many_at (S3.out.below hbel) (M3.out.far (Far.of_below hbel)) hlt
        rw [hl1] at hl2
        cases hl2
        have Hx := hide hsx
        have Hx' := hide hsx'
        have hkm : (k : Int) < (m2 : Int) := by omega
        clear hl1 hbel hsx hsx'
        go_wp2
        go_quiet ((go_at_call 15; exact quiet_drawn (same15 _ _ _ _ _ _ _ _ (Hx.out.drewN _) (Hx'.out.drewN _))))
        go_wp2
        go_roundw
        case rel => exact ⟨k + 1, by omega, by go_num, Hd.out.more _⟩
        case measure => simp [intOf]; omega
      · clear hbel
        go_wp2
        go_ret
        exact ⟨rfl, B3.out.trans (Hd.out.below _)⟩

end Go.Proofs.Ytandmdmgleeogaa
