/- Walk: the reference's Open. -/
import Derived.Test.YtandmdmgleeogaaX6
namespace Go.Proofs.Ytandmdmgleeogaa
open Go.RowKit
open Go.Lib (byteCells)

theorem pick_at (l : List UInt8) (E j : Nat) (b : UInt8) (h : l[E + j]? = some b) (hj : j < 4) : ((l.drop E).take 4)[j]? = some b := by
  rw [List.getElem?_take, if_pos hj, List.getElem?_drop, h]

/-- The first j bytes agree. -/
theorem eq_of_all (a b : List UInt8) (ha : a.length = 4) (hb : b.length = 4) (h : a.take 4 = b.take 4) : a = b := by
  rwa [List.take_of_length_le (by omega), List.take_of_length_le (by omega)] at h
theorem take_step (a b : List UInt8) (j : Nat) (x : UInt8) (h : a.take j = b.take j) (hx : a[j]? = some x) (hy : b[j]? = some x) : a.take (j + 1) = b.take (j + 1) := by
  have h1 := (List.getElem?_eq_some_iff.1 hx)
  have h2 := (List.getElem?_eq_some_iff.1 hy)
  rw [List.take_succ_eq_append_getElem h1.1, List.take_succ_eq_append_getElem h2.1, h, h1.2, h2.2]

set_option maxRecDepth 20000 in
set_option maxHeartbeats 3200000 in
theorem ropen19 (A : Option Addr) (n c : Nat) (l : List UInt8) (w : World) (h : Sl w A n c (byteCells l)) (hn : n ≤ 100000000) (i most : Int) :
    Calls Try.prog 19 #[.slice A n c, .int .i64 i, .int .i64 most] w (Opened w (openP l i most)) := by
  obtain ⟨i0, hi, hz0, hz1, hz2⟩ := info_parts info5
  have hlen := h.len
  have Hlen := hide hlen
  have hnc := h.1
  have hc := h.2.1
  have H := hide h
  clear hlen h
  obtain ⟨⟨x, nx, er⟩, hg⟩ : ∃ g, getP l i = g := ⟨_, rfl⟩
  have Hg := hide hg
  by_cases her : er = 0
  · subst her
    obtain ⟨hnx1, hnx2, hnx3, hx⟩ := getP_next l i x nx hg
    rw [Hlen.out] at hnx1
    by_cases hm : most < (x : Int)
    · have Hr := hide (open_long l i most x nx hg hm)
      clear hg
      go_enter Try.func19, Try.ntmps19
      go_wp2_with fail
      with_reducible refine (rget31' _ A n c l _ H.out.reads hnc hc i x nx 0 Hg.out).mono ?_
      rintro e w' ⟨rfl, rfl⟩
      go_wp2
      go_ret3
      exact ⟨_, by rw [Hr.out]; rfl, by rw [Hr.out]; exact World.ownsRow_nil _ _ _ _, Below.refl _ _⟩
    · by_cases hs : n < nx + x + 4
      · have Hr := hide (open_short l i most x nx hg hm (by rw [Hlen.out]; exact hs))
        clear hg
        by_cases hs2 : (n : Int) - (nx : Int) < (x : Int)
        · go_enter Try.func19, Try.ntmps19
          go_wp2_with fail
          with_reducible refine (rget31' _ A n c l _ H.out.reads hnc hc i x nx 0 Hg.out).mono ?_
          rintro e w' ⟨rfl, rfl⟩
          go_wp2
          go_ret3
          exact ⟨_, by rw [Hr.out]; rfl, by rw [Hr.out]; exact World.ownsRow_nil _ _ _ _, Below.refl _ _⟩
        · have hs3 : (n : Int) - (nx : Int) - (x : Int) < 4 := by omega
          go_enter Try.func19, Try.ntmps19
          go_wp2_with fail
          with_reducible refine (rget31' _ A n c l _ H.out.reads hnc hc i x nx 0 Hg.out).mono ?_
          rintro e w' ⟨rfl, rfl⟩
          go_wp2
          go_ret3
          exact ⟨_, by rw [Hr.out]; rfl, by rw [Hr.out]; exact World.ownsRow_nil _ _ _ _, Below.refl _ _⟩
      · obtain ⟨k, rfl⟩ : ∃ k : Nat, i = (k : Int) := ⟨i.toNat, by omega⟩
        obtain ⟨E, hE⟩ : ∃ E, nx + x = E := ⟨_, rfl⟩
        obtain ⟨s, hse⟩ : ∃ s, sumP ((l.drop k).take (E - k)) = s := ⟨_, rfl⟩
        have hsl : s < 4294967296 := by rw [← hse]; exact sum_lt _
        have Hse := hide hse
        have hr := open_sum l k most x nx hg hm (by rw [Hlen.out]; exact hs) s (by rw [hE]; exact hse)
        rw [hE] at hr
        have Hr := hide hr
        have hEi : (nx : Int) + (x : Int) = (E : Int) := by omega
        have hnE : nx ≤ E := by omega
        have hkE : k ≤ E := by omega
        have hEc : E < c := by omega
        have hEc' : (E : Int) ≤ (c : Int) := by omega
        have hE4 : E + 4 ≤ n := by omega
        have hx4 : ¬ (n : Int) - (nx : Int) < (x : Int) := by omega
        have hx5 : ¬ (n : Int) - (nx : Int) - (x : Int) < 4 := by omega
        have hm' : (x : Int) ≤ most := by omega
        have hEx : E - nx = x := by omega
        have hEx0 := hide hEx
        have W1 := hide (H.out.win (k := k) (m := E) (by omega) (by omega) (by omega))
        have hdl : ((l.drop E).take 4).length = 4 := by rw [List.length_take, List.length_drop, Hlen.out]; omega
        have Hdl := hide hdl
        clear hg hse hr hm hs hE hEx hdl
        go_enter Try.func19, Try.ntmps19
        go_wp2_with fail
        with_reducible refine (rget31' _ A n c l _ H.out.reads hnc hc k x nx 0 Hg.out).mono ?_
        rintro e w' ⟨rfl, rfl⟩
        go_wp2_with fail
        refine (rsum12 _ _ _ _ _ _ W1.out.reads (by omega)).mono ?_
        rintro e w3 ⟨rfl, rfl⟩
        rw [Hse.out]
        go_wp2_with fail
        with_reducible refine (four27 s hsl _).mono ?_
        rintro e w3 ⟨A3, rfl, hs3, hnew, hb3⟩
        have S3 := hide hs3
        have B3 := hide hb3
        have H3 := hide (H.out.below hb3)
        clear hs3 hnew hb3
        go_wp2
        go_loopw [14] (fun x wr => ∃ j : Nat, j ≤ 4 ∧ x = .int .i64 j ∧ Drawn w3 wr ∧ ((l.drop E).take 4).take j = (four s).take j) (fun x _ => 4 - (intOf x).toNat)
        case atStart => exact ⟨0, Nat.zero_le _, rfl, Drawn.refl _, rfl⟩
        case round =>
          obtain ⟨j, hj, rfl, hd, heq⟩ := hrel
          have Hd := hide hd
          have hbel := hd.below w3.heap.size
          have Heq := hide heq
          clear hd heq
          by_cases hlt : j < 4
          · obtain ⟨F, hF⟩ : ∃ F, E + j = F := ⟨_, rfl⟩
            have hFi : (E : Int) + (j : Int) = (F : Int) := by omega
            have hFn : F < n := by omega
            obtain ⟨ad, b, rfl, hb, hcell⟩ := (H3.out.below hbel).reads.byte hFn
            obtain ⟨ad', b', rfl, hb', hcell'⟩ := (S3.out.below hbel).reads.byte hlt
            have hp := pick_at l E j b (by rw [hF]; exact hb) hlt
            by_cases hbb : b = b'
            · subst hbb
              have hst := take_step _ _ j b Heq.out hp hb'
              have Hst := hide hst
              clear hp hb hb' hst hF hbel
              go_wp2
              go_quiet (fail)
              go_wp2
              go_roundw
              case rel => exact ⟨j + 1, by omega, by go_num, Hd.out.more _, Hst.out⟩
              case measure => simp [intOf]; omega
            · have hne : ¬ ((l.drop E).take 4 = four s) := fun e => by
                rw [e, hb'] at hp
                injection hp with hp
                exact hbb hp.symm
              have hr := Hr.out
              rw [if_neg hne] at hr
              have Hr2 := hide hr
              have hbn : ((b.toNat : Int) == (b'.toNat : Int)) = false := beq_eq_false_iff_ne.2 fun e => hbb (UInt8.toNat_inj.1 (by omega))
              have hbm : ((b.toNat : Int) != (b'.toNat : Int)) = true := by rw [bne, hbn]; rfl
              clear hp hb hb' hF hbel hne hr hbb Hr
              go_wp2
              go_quiet (fail)
              go_wp2
              go_ret3
              exact ⟨_, by rw [Hr2.out]; rfl, by rw [Hr2.out]; exact World.ownsRow_nil _ _ _ _, B3.out.trans ((Hd.out.more _).below _)⟩
          · have he4 : (l.drop E).take 4 = four s := by
              have := Heq.out
              rw [show j = 4 by omega] at this
              exact eq_of_all _ _ Hdl.out rfl this
            have hr := Hr.out
            rw [if_pos he4] at hr
            have Hr2 := hide hr
            have B4 := hide (B3.out.trans (Hd.out.below _))
            have H4 := hide (H3.out.below hbel)
            clear he4 hr Hr Heq hbel Hd H3 B3 S3
            go_wp2
            go_loopw [15, 16] (fun u y w2 => ∃ p : Nat, nx ≤ p ∧ p ≤ E ∧ y = .int .i64 p ∧ Own w2 w.heap.size 5 u (byteCells ((l.drop nx).take (p - nx))) ∧ Below w.heap.size w w2 ∧ Sl w2 A n c (byteCells l)) (fun _ y _ => E - (intOf y).toNat)
            case atStart => exact ⟨nx, Nat.le_refl _, hnE, rfl, by rw [Nat.sub_self, List.take_zero]; exact World.ownsRow_nil _ _ _ _, B4.out, H4.out⟩
            case round =>
              clear B4 H4
              obtain ⟨p, hp1, hp2, rfl, hown, hbel, hsl⟩ := hrel
              have hsz := hbel.size
              have Hown := hide hown
              have Hb := hide hbel
              have H5 := hide hsl
              clear hown hbel hsl
              by_cases hlt : p < E
              · have hpn : p < n := by omega
                obtain ⟨ad, b, rfl, hb, hcell⟩ := H5.out.reads.byte hpn
                have hpc := push_cell [] (l.drop nx) (p - nx) b (by rw [List.getElem?_drop, show nx + (p - nx) = p by omega]; exact hb)
                rw [show p - nx + 1 = (p + 1) - nx by omega, List.nil_append, List.nil_append] at hpc
                have Hpc := hide hpc
                have hbb : b.toNat < 256 := UInt8.toNat_lt b
                have hbl : (byteCells ((l.drop nx).take (p - nx))).length ≤ 100000009 := by rw [bytes_size, List.length_take]; omega
                clear hpc hb
                go_wp2_with (at_builtin; refine wp_push_far rfl (.tmp 75) (.tmp 80) 23 rfl 5 i0 (.int .u8 0) 1 Try.underlying23 hi hz0 hz1 hz2 rfl w.heap.size _ (byteCells ((l.drop nx).take (p - nx))) rfl _ _ rfl Hown.out hsz _ rfl rfl (by omega) (by unfold maxLen; omega) _ ?_)
                intro v' w' hown' hb' _
                rw [Hpc.out] at hown'
                have Hown' := hide hown'
                have Hb' := hide hb'
                clear hown' hb'
                go_wp2
                go_roundw
                case rel => exact ⟨_, _, _, _, _, _, _, _, _, _, _, _, _, _, ⟨p + 1, by omega, by omega, by go_num, Hown'.out, Hb.out.trans Hb'.out, H.out.below (Hb.out.trans Hb'.out)⟩, rfl⟩
                case measure => simp [intOf]; omega
              · have hown2 := Hown.out
                rw [show p - nx = x by rw [← hEx0.out]; omega] at hown2
                have Hown2 := hide hown2
                clear hown2 Hown
                go_wp2
                go_ret3
                exact ⟨_, by rw [Hr2.out]; rfl, by rw [Hr2.out]; exact Hown2.out, Hb.out⟩
  · have Hr := hide (open_bad l i most x nx er hg her)
    have hei : ((er : Int) == 0) = false := beq_eq_false_iff_ne.2 (by omega)
    have hen : ((er : Int) != 0) = true := by rw [bne, hei]; rfl
    clear hg her
    go_enter Try.func19, Try.ntmps19
    go_wp2_with fail
    with_reducible refine (rget31' _ A n c l _ H.out.reads hnc hc i x nx er Hg.out).mono ?_
    rintro e w' ⟨rfl, rfl⟩
    go_wp2
    go_ret3
    exact ⟨_, by rw [Hr.out]; rfl, by rw [Hr.out]; exact World.ownsRow_nil _ _ _ _, Below.refl _ _⟩

end Go.Proofs.Ytandmdmgleeogaa
