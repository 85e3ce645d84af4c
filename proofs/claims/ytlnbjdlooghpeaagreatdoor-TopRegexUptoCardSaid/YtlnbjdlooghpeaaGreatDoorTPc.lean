/- TopRegex: Pc. -/
import Derived.Test.YtlnbjdlooghpeaaGreatDoorTPa
import Derived.Test.YtlnbjdlooghpeaaGreatDoorTPm
import Derived.Test.YtlnbjdlooghpeaaGreatDoorTQn
namespace Go.Proofs.YtlnbjdlooghpeaaGreatDoor
open Go.RowKit Go.Maps
theorem run33 (xs : Array Value) (W : World) : (callFunc 33 xs).run Tryz.prog W = .ok (.enter 33 xs) W := by kernel_rfl
theorem run35 (xs : Array Value) (W : World) : (callFunc 35 xs).run Tryz.prog W = .ok (.enter 35 xs) W := by kernel_rfl
theorem keyed3 : Keyed Tryz.prog 3 := int_keyed Tryz.underlying3
theorem zero4 (w : World) : (zeroValue 4).run Tryz.prog w = .ok (.bool false) w := by kernel_rfl
def keyI (z : Int) : Lit := .int .i64 z
theorem keyI_inj {a b : Int} : keyI a = keyI b ↔ a = b := ⟨fun h => by injection h, fun h => by rw [h]⟩
def EvW (mb bo bh bf : Nat) (cs : List Int) (w : World) : Prop :=
  (∃ (n : Nat) (D : DataW Unit), w.ownsMap Tryz.prog 3 trueElem mb n D ∧ SetD D keyI (fun z => z ∈ cs)) ∧ w.cell? ⟨bo, 0, none⟩ = some (.map (some mb)) ∧
  w.cell? ⟨bh, 0, none⟩ = some (.func (.func 33) #[] #[.pointer (some ⟨bo, 0, none⟩), .pointer (some ⟨bf, 0, none⟩), .pointer (some ⟨bh, 0, none⟩)]) ∧
  w.cell? ⟨bf, 0, none⟩ = some (.func (.func 35) #[] #[.pointer (some ⟨bh, 0, none⟩)])
theorem EvW.below {mb bo bh bf : Nat} {cs : List Int} {w w' : World} (H : EvW mb bo bh bf cs w) (hb : Below w.heap.size w w') : EvW mb bo bh bf cs w' := by
  obtain ⟨⟨n, D, h1, h2⟩, h3, h4, h5⟩ := H
  have key : ∀ (p : Addr) (u : Value), w.cell? p = some u → w'.cell? p = some u := fun p u hu => (hb.cell (World.block_lt_of_cell? _ _ hu)).trans hu
  exact ⟨⟨n, D, mapB h1 hb, h2⟩, key _ _ h3, key _ _ h4, key _ _ h5⟩
theorem any_nots (f : Nd → Bool) (l : List Nd) : (l.any fun x => !f x) = !l.all f := by
  induction l with
  | nil => rfl
  | cons x l ih => simp [ih]
theorem right_kinds {k g : Int} {l : List Nd} {lv : Nat} (h : rightN lv (.mk k g l) = true) : (k = 1 ∨ k = 2 ∨ k = 3 ∨ k = 4 ∨ k = 5) ∧ (k ≠ 3 → g = 0) ∧ (k = 3 → 0 ≤ g ∧ g < 16777216) ∧ (k = 1 ∨ k = 2 → l = []) ∧ (k = 4 ∨ k = 5 → ∀ x ∈ l, rightN (lv + 1) x = true) := by
  unfold rightN at h
  by_cases h0 : 40 < lv ∨ k < 1 ∨ 5 < k
  · rw [if_pos h0] at h; cases h
  rw [if_neg h0] at h
  refine ⟨by omega, fun h3 => ?_, fun h3 => ?_, fun h12 => ?_, fun h45 => ?_⟩
  · rw [if_neg h3] at h
    by_cases hg : g ≠ 0
    · rw [if_pos hg] at h; cases h
    · omega
  · rw [if_pos h3] at h
    simp only [Bool.and_eq_true, decide_eq_true_eq] at h
    exact h.1
  · rw [if_neg (by omega)] at h
    by_cases hg : g ≠ 0
    · rw [if_pos hg] at h; cases h
    · rw [if_neg hg, if_pos h12, decide_eq_true_eq] at h
      exact List.eq_nil_of_length_eq_zero h
  · rw [if_neg (by omega)] at h
    by_cases hg : g ≠ 0
    · rw [if_pos hg] at h; cases h
    · rw [if_neg hg, if_neg (by omega), Bool.and_eq_true, rightNL_eq, List.all_eq_true] at h
      exact h.1
set_option maxRecDepth 20000 in
set_option maxHeartbeats 1600000 in
theorem fails35 {mb bo bh bf : Nat} {cs : List Int} {W : World} {ok : Nat → Prop} {v : Value} {r : Nd} (H : EvW mb bo bh bf cs W) (hv : NdV W ok v r)
    (IH : ∀ (W' : World) (v : Value), EvW mb bo bh bf cs W' → NdV W' ok v r → Calls Tryz.prog 33 #[v, .pointer (some ⟨bo, 0, none⟩), .pointer (some ⟨bf, 0, none⟩), .pointer (some ⟨bh, 0, none⟩)] W' fun e w' => e = .returned (.bool (holdsN cs r)) ∧ Below W'.heap.size W' w') :
    Calls Tryz.prog 35 #[v, .pointer (some ⟨bh, 0, none⟩)] W fun e w' => e = .returned (.bool (!holdsN cs r)) ∧ Below W.heap.size W w' := by
  obtain ⟨k, g, B, m, d, rfl, -⟩ := ndv_shape hv
  have hb := bel_alloc W (.cells #[.int .i64 k, .int .i64 g, .slice B m d] 32)
  have BB := hide hb
  have H' := H.below hb
  obtain ⟨-, t0, t1, t2⟩ := tri3_alloc W k g B m d 32
  have HC := hide (IH _ _ H' (hv.kept hb))
  have hc := H'.2.2.1
  have hcf := run33
  obtain ⟨Q, hQ⟩ : ∃ Q, holdsN cs r = Q := ⟨_, rfl⟩
  rw [hQ] at HC ⊢
  clear hv IH hQ hb H H'
  go_enter Tryz.func35, Tryz.ntmps35
  go_wp2_with fail
  with_reducible refine HC.out.mono ?_
  rintro e w2 ⟨rfl, hb2⟩
  have B2 := hide (bgo BB.out hb2)
  clear hb2
  go_wp2
  go_ret
  exact ⟨rfl, B2.out⟩
set_option maxRecDepth 20000 in
set_option maxHeartbeats 3200000 in
theorem holds33 {mb bo bh bf : Nat} {cs : List Int} : ∀ (r : Nd) (lv : Nat), rightN lv r = true → ∀ (W : World) (ok : Nat → Prop) (v : Value), EvW mb bo bh bf cs W → NdV W ok v r →
    Calls Tryz.prog 33 #[v, .pointer (some ⟨bo, 0, none⟩), .pointer (some ⟨bf, 0, none⟩), .pointer (some ⟨bh, 0, none⟩)] W fun e w' => e = .returned (.bool (holdsN cs r)) ∧ Below W.heap.size W w' := by
  intro r
  induction r using Nd.ind with
  | h k g l ih =>
    intro lv hr W ok v H hv
    obtain ⟨hk, hg0, hg3, hl12, hl45⟩ := right_kinds hr
    obtain ⟨k', g', B, m, d, rfl, hk', hg', hm', hmd, hdd, hkk, hgg⟩ := ndv_shape hv
    simp only [Nd.kind, Nd.gram, Nd.subs] at hk' hg' hm'
    subst hk' hg'
    have hb := bel_alloc W (.cells #[.int .i64 k', .int .i64 g', .slice B m d] 32)
    have BB := hide hb
    have H' := H.below hb
    obtain ⟨_, t0, t1, t2⟩ := tri3_alloc W k' g' B m d 32
    obtain ⟨⟨n, D, hown, hset⟩, hc1, hc2, hc3⟩ := H'
    have Hown := hide hown
    have HV := hide ((hv.kept hb).subs)
    have IHE := hide (fun (x : Nd) (hx : x ∈ l) (hrx : rightN (lv + 1) x = true) (W' : World) (v' : Value) (hE : EvW mb bo bh bf cs W') (hv' : NdV W' ok v' x) => ih x hx (lv + 1) hrx W' ok v' hE hv')
    have HE := hide (H.below hb)
    rcases hk with rfl | rfl | rfl | rfl | rfl
    · have Hn := hide (show true = holdsN cs (.mk 1 g' l) by rw [hg0 (by decide), hl12 (by omega)]; exact (holds_all cs).symm)
      clear hm' hr hg0 hg3 hl12 hl45 hv H hb hown hset ih hc1 hc2 hc3
      go_enter Tryz.func33, Tryz.ntmps33
      go_wp2
      go_ret
      exact ⟨ret_bool Hn.out, BB.out⟩
    · have Hn := hide (show false = holdsN cs (.mk 2 g' l) by rw [hg0 (by decide), hl12 (by omega)]; exact (holds_none cs).symm)
      clear hm' hr hg0 hg3 hl12 hl45 hv H hb hown hset ih hc1 hc2 hc3
      go_enter Tryz.func33, Tryz.ntmps33
      go_wp2
      go_ret
      exact ⟨ret_bool Hn.out, BB.out⟩
    · have Hwf := hide (show (Lit.int .i64 g').wf = true from WalkArith.wf_i64 (by have := hg3 rfl; omega))
      have Hn := hide (show has D (Lit.int .i64 g') = holdsN cs (.mk 3 g' l) by rw [holds_gram, Bool.eq_iff_iff, decide_eq_true_eq]; exact hset.2 g')
      clear hm' hr hg0 hg3 hl12 hl45 hv H hb hown hset ih hc2 hc3
      go_enter Tryz.func33, Tryz.ntmps33
      go_wp2_with (first
        | (at_lookup; refine wpList_lookup_true _ rfl _ _ 67 rfl 3 4 keyed3 Tryz.underlying67 (zero4 _) mb n D rfl Hown.out _ (Lit.int .i64 g') rfl (keyOf_int_mk Tryz.underlying3 Hwf.out) ?_)
        | fail)
      go_wp2
      go_ret
      exact ⟨ret_bool Hn.out, BB.out⟩
    · have hcf := run35
      have HC := hide (containsN 35 #[.pointer (some ⟨bh, 0, none⟩)] (fun x => !holdsN cs x) HV.out hcf (fun x hx W' v' hv' hb' => fails35 (HE.out.below hb') hv' fun W'' v'' hE'' h'' => IHE.out x hx (hl45 (Or.inl rfl) x hx) W'' v'' hE'' h'') (!holdsN cs (.mk 4 g' l)) (by rw [hg0 (by decide), holds_and, any_nots]))
      obtain ⟨Q, hQ⟩ : ∃ Q, holdsN cs (.mk 4 g' l) = Q := ⟨_, rfl⟩
      rw [hQ] at HC ⊢
      clear hm' hr hg0 hg3 hl12 hl45 hv H hb hown hset ih hc1 hc2 hQ
      go_enter Tryz.func33, Tryz.ntmps33
      go_wp2_with fail
      with_reducible refine HC.out.mono ?_
      rintro e w2 ⟨rfl, hb2⟩
      have B2 := hide (bgo BB.out hb2)
      clear hb2
      go_wp2
      go_ret
      exact ⟨ret_bool (by simp), B2.out⟩
    · have hcf := run33
      have HC := hide (containsN 33 #[.pointer (some ⟨bo, 0, none⟩), .pointer (some ⟨bf, 0, none⟩), .pointer (some ⟨bh, 0, none⟩)] (fun x => holdsN cs x) HV.out hcf (fun x hx W' v' hv' hb' => IHE.out x hx (hl45 (Or.inr rfl) x hx) W' v' (HE.out.below hb') hv') (holdsN cs (.mk 5 g' l)) (by rw [hg0 (by decide), holds_or]))
      obtain ⟨Q, hQ⟩ : ∃ Q, holdsN cs (.mk 5 g' l) = Q := ⟨_, rfl⟩
      rw [hQ] at HC ⊢
      clear hm' hr hg0 hg3 hl12 hl45 hv H hb hown hset ih hc1 hc3 hQ
      go_enter Tryz.func33, Tryz.ntmps33
      go_wp2_with fail
      with_reducible refine HC.out.mono ?_
      rintro e w2 ⟨rfl, hb2⟩
      have B2 := hide (bgo BB.out hb2)
      clear hb2
      go_wp2
      go_ret
      exact ⟨rfl, B2.out⟩
theorem cell_new2 (w : World) (a : Obj) (u : Value) (T : TypeId) : ((w.alloc a).alloc (.cells #[u] T)).cell? ⟨w.heap.size + 1, 0, none⟩ = some u := by
  rw [show w.heap.size + 1 = (w.alloc a).heap.size by simp, World.cell?_alloc_mark]
  rfl
theorem store_fn {P : Program} (a : Addr) (fn : Fn) (x y : Array Value) (m : Mode) (w : World) : (store a (.func fn x y) m).run P w = stored P w a (.func fn x y) m := run_store P w a _ m rfl
attribute [local go_sem] store_fn
theorem tri3_far {P : Program} {kt : TypeId} {w w' : World} {b mb n : Nat} {D : DataW Unit} {c0 c1 c2 : Value} (h : Tri3 w b c0 c1 c2) (hm : w.ownsMap P kt trueElem mb n D) (hg : w.grownBy w' (some mb)) : Tri3 w' b c0 c1 c2 :=
  ⟨Nat.lt_of_lt_of_le h.1 hg.size, cell_far hm hg h.2.1, cell_far hm hg h.2.2.1, cell_far hm hg h.2.2.2⟩
theorem made_map (w : World) : (w.alloc (.map #[] 0)).ownsMap Tryz.prog 3 trueElem w.heap.size 0 (.map []) := World.ownsMap_made w Tryz.prog 3 trueElem
theorem set_none {cs : List Int} : SetD (.map []) keyI (fun z => z ∈ cs.take 0) := ⟨(SetD.start keyI).1, fun x => ((SetD.start keyI).2 x).trans (by simp)⟩
theorem set_int {D : DataW Unit} {cs : List Int} {i : Nat} {z : Int} (h : SetD D keyI (fun z => z ∈ cs.take i)) (hz : cs[i]? = some z) : SetD (D.put (.int .i64 z) (.lit (.bool true))) keyI (fun z => z ∈ cs.take (i + 1)) := by
  have h2 := h.put (fun x => (show WideAt.IsKeyLit (keyI x) from trivial)) z (.lit (.bool true))
  refine ⟨h2.1, fun y => (h2.2 y).trans ?_⟩
  show (y ∈ cs.take i ∨ keyI y = keyI z) ↔ y ∈ cs.take (i + 1)
  have hi := (List.getElem?_eq_some_iff.1 hz).1
  rw [List.take_succ_eq_append_getElem hi, (List.getElem?_eq_some_iff.1 hz).2, List.mem_append, List.mem_singleton, keyI_inj]
set_option maxRecDepth 20000 in
set_option maxHeartbeats 6400000 in
theorem peval16 {W : World} {ok : Nat → Prop} {v : Value} {r : Nd} {A : Option Addr} {n c : Nat} {cs : List Int} (hv : NdV W ok v r) (hcs : cs.length ≤ 2000000) (hwf : WfL cs) (hs : Sl W A n c (numCells cs)) (q : Bool) (hq : evalS r cs = q) :
    Calls Tryz.prog 9 #[v, .slice A n c] W fun e w' => e = .returned (.bool q) ∧ Below W.heap.size W w' := by
  have hmm := @run_makeMap Tryz.prog
  obtain ⟨k, g, B, m, d, rfl, -⟩ := ndv_shape hv
  have hb := bel_alloc W (.cells #[.int .i64 k, .int .i64 g, .slice B m d] 32)
  have BB := hide hb
  have t := tri3_alloc W k g B m d 32
  have TT := hide t
  have HR := hide (pright14 (hv.kept hb) (rightN 1 r) rfl)
  have HV := hide (hv.old.kept hb)
  have Hs := hide hs
  have Hwf := hide hwf
  have Hlen := hide hs.nlen
  have hnl : n ≤ 2000000 := by have := hs.nlen; omega
  have hnc := hs.1
  have hcc := hs.2.1
  obtain ⟨-, t0, t1, t2⟩ := t
  cases hr : rightN 1 r with
  | false =>
    have Hn := hide (show false = q by rw [← hq]; unfold evalS; rw [hr]; rfl)
    rw [hr] at HR
    clear hv hwf hs hq hb hr
    go_enter Tryz.func9, Tryz.ntmps9
    go_wp2_with fail
    with_reducible refine HR.out.mono ?_
    rintro e w1 ⟨rfl, hb1⟩
    have B1 := hide (bgo BB.out hb1)
    clear hb1
    go_wp2
    go_ret
    exact ⟨ret_bool Hn.out, B1.out⟩
  | true =>
    have Hq := hide (show holdsN cs r = q by rw [← hq]; unfold evalS; rw [hr]; rfl)
    have Hr := hide hr
    rw [hr] at HR
    clear hv hwf hs hq hb hr
    go_enter Tryz.func9, Tryz.ntmps9
    go_wp2_with fail
    with_reducible refine HR.out.mono ?_
    rintro e w1 ⟨rfl, hb1⟩
    have B1 := hide (bgo BB.out hb1)
    have T1 := hide (TT.out.keep hb1)
    have V1 := hide (HV.out.kept hb1)
    have hsz := (bgo BB.out hb1).size
    clear hb1 t0 t1 t2 HV
    go_wp2_with fail
    have hM0 := made_map w1
    have hb2 := bnew (bel_alloc w1 (.map #[] 0)) (.cells #[.map (some w1.heap.size)] 67)
    have hM := mapB hM0 (bel_alloc _ (.cells #[.map (some w1.heap.size)] 67))
    have hsz2 : ((w1.alloc (.map #[] 0)).alloc (.cells #[.map (some w1.heap.size)] 67)).heap.size = w1.heap.size + 2 := by simp
    have hbx : ((w1.alloc (.map #[] 0)).alloc (.cells #[.map (some w1.heap.size)] 67)).cell? ⟨w1.heap.size + 1, 0, none⟩ = some (.map (some w1.heap.size)) := by
      rw [show w1.heap.size + 1 = (w1.alloc (.map #[] 0)).heap.size by simp, World.cell?_alloc_mark]
      rfl
    obtain ⟨mb, hmb⟩ : ∃ mb, w1.heap.size = mb := ⟨_, rfl⟩
    rw [hmb] at hM hbx hsz2 hsz
    obtain ⟨w2, hw2⟩ : ∃ w2, (w1.alloc (.map #[] 0)).alloc (.cells #[.map (some mb)] 67) = w2 := ⟨_, rfl⟩
    rw [hmb, hw2] at hb2
    rw [hw2] at hM hbx hsz2
    rw [hmb, hw2]
    have T2 := hide (T1.out.keep (by rw [hmb]; exact hb2))
    have V2 := hide (V1.out.kept (by rw [hmb]; exact hb2))
    have B2 := hide (bgo B1.out (by rw [hmb]; exact hb2))
    have M2 := hide hM
    have X2 := hide hbx
    have Hsz2 := hide hsz2
    clear hM0 hb2 hM hbx hw2 hmb T1 V1 B1 hmm hsz2
    go_loopw [16, 7] (fun x _ wr => ∃ i : Nat, i ≤ n ∧ x = .int .i64 (i : Int) ∧ (∃ D : DataW Unit, wr.ownsMap Tryz.prog 3 trueElem mb i D ∧ SetD D keyI (fun z => z ∈ cs.take i)) ∧ wr.cell? ⟨mb + 1, 0, none⟩ = some (.map (some mb)) ∧ NdV wr (fun g => ok g ∧ g < W.heap.size) (.agg #[.int .i64 k, .int .i64 g, .slice B m d]) r ∧ Tri3 wr W.heap.size (.int .i64 k) (.int .i64 g) (.slice B m d) ∧ Below W.heap.size W wr) (fun x _ _ => n - (intOf x).toNat)
    case atStart => exact ⟨0, Nat.zero_le _, rfl, ⟨_, M2.out, set_none⟩, X2.out, V2.out, T2.out, B2.out⟩
    case round =>
      obtain ⟨i, hi1, rfl, ⟨D, hown, hset⟩, hbx, hnd, htr, hb⟩ := hrel
      obtain ⟨w3, hw3⟩ : ∃ w3, w3 = wr := ⟨wr, rfl⟩
      subst hw3
      have Hown := hide hown
      have Hset := hide hset
      have X3 := hide hbx
      have V3 := hide hnd
      have T3 := hide htr
      have B3 := hide hb
      have hbs := hb.size
      have hlt0 := hown.lt
      by_cases hlt : i < n
      · have hlt' : (i : Int) < (n : Int) := by omega
        obtain ⟨ad, z, rfl, hz, hcell⟩ := num_cell (Hs.out.below hb).reads hlt
        have Hwz := hide (Hwf.out z (List.mem_of_getElem? hz))
        have Hput := hide (set_int hset hz)
        clear hown hset hnd htr hb hz
        go_wp2_with (first
          | (at_mapUpdate; refine wpList_mapUpdate_own _ rfl _ _ _ 67 rfl 3 4 keyed3 Tryz.underlying67 _ mb i _ rfl Hown.out (by unfold maxLen; omega) _ _ _ rfl rfl (keyOf_int_mk Tryz.underlying3 Hwz.out) _ [] trueElem_mk ?_; intro w4 hown4 hg4)
          | fail)
        have B4 := hide (B3.out.grown hg4 hbs fun k hk => by cases hk; exact hsz)
        have X4 := hide (cell_far Hown.out hg4 X3.out)
        have T4 := hide (tri3_far T3.out Hown.out hg4)
        have V4 := hide (V3.out.map (ok' := fun g => ok g ∧ g < W.heap.size) (fun p hp hl => World.cell?_of_block (hg4.block _ hl (fun e => by injection e with e; omega))) fun g hg _ => hg)
        have O4 := hide hown4
        clear hown4 hg4
        go_wp2
        go_roundw
        case rel => exact ⟨i + 1, by omega, by go_num, ⟨_, O4.out, Hput.out⟩, X4.out, V4.out, T4.out, B4.out⟩
        case measure => simp [intOf]; omega
      · have hlt' : ¬ (i : Int) < (n : Int) := by omega
        rw [List.take_of_length_le (by rw [Hlen.out]; omega)] at hset
        have Hset' := hide hset
        clear hown hset hnd htr hb
        have hb5 := bnew (bel_alloc w3 (.cells #[.func (.func 33) #[] #[.pointer (some ⟨mb + 1, 0, none⟩), .pointer (some ⟨w3.heap.size + 1, 0, none⟩), .pointer (some ⟨w3.heap.size, 0, none⟩)]] 57)) (.cells #[.func (.func 35) #[] #[.pointer (some ⟨w3.heap.size, 0, none⟩)]] 57)
        have c1 : ((w3.alloc (.cells #[.func (.func 33) #[] #[.pointer (some ⟨mb + 1, 0, none⟩), .pointer (some ⟨w3.heap.size + 1, 0, none⟩), .pointer (some ⟨w3.heap.size, 0, none⟩)]] 57)).alloc (.cells #[.func (.func 35) #[] #[.pointer (some ⟨w3.heap.size, 0, none⟩)]] 57)).cell? ⟨w3.heap.size, 0, none⟩ = some (.func (.func 33) #[] #[.pointer (some ⟨mb + 1, 0, none⟩), .pointer (some ⟨w3.heap.size + 1, 0, none⟩), .pointer (some ⟨w3.heap.size, 0, none⟩)]) := by
          rw [World.cell?_alloc_lt _ _ _ (by simp), World.cell?_alloc_mark]
          rfl
        have c2 : ((w3.alloc (.cells #[.func (.func 33) #[] #[.pointer (some ⟨mb + 1, 0, none⟩), .pointer (some ⟨w3.heap.size + 1, 0, none⟩), .pointer (some ⟨w3.heap.size, 0, none⟩)]] 57)).alloc (.cells #[.func (.func 35) #[] #[.pointer (some ⟨w3.heap.size, 0, none⟩)]] 57)).cell? ⟨w3.heap.size + 1, 0, none⟩ = some (.func (.func 35) #[] #[.pointer (some ⟨w3.heap.size, 0, none⟩)]) := cell_new2 _ _ _ _
        have hcx := (hb5.cell (World.block_lt_of_cell? _ _ hbx)).trans hbx
        have HE := hide (show EvW mb (mb + 1) w3.heap.size (w3.heap.size + 1) cs ((w3.alloc (.cells #[.func (.func 33) #[] #[.pointer (some ⟨mb + 1, 0, none⟩), .pointer (some ⟨w3.heap.size + 1, 0, none⟩), .pointer (some ⟨w3.heap.size, 0, none⟩)]] 57)).alloc (.cells #[.func (.func 35) #[] #[.pointer (some ⟨w3.heap.size, 0, none⟩)]] 57)) from ⟨⟨i, D, mapB Hown.out hb5, Hset'.out⟩, hcx, c1, c2⟩)
        have HC := hide (holds33 r 1 Hr.out _ _ _ HE.out (V3.out.kept hb5))
        rw [Hq.out] at HC
        have B5 := hide (bgo B3.out hb5)
        have T5 := T3.out.keep hb5
        obtain ⟨-, t0, t1, t2⟩ := T5
        have hcf := run33
        clear hb5 HE hcx c2
        go_wp2_with fail
        with_reducible refine HC.out.mono ?_
        rintro e w6 ⟨rfl, hb6⟩
        have B6 := hide (bgo B5.out hb6)
        clear hb6
        go_wp2
        go_ret
        exact ⟨rfl, B6.out⟩
end Go.Proofs.YtlnbjdlooghpeaaGreatDoor
