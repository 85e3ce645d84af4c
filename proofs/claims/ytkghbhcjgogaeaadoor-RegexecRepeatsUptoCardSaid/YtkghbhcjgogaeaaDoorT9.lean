/- Layer 9: law 9 (Apart) over the contracts. -/
import Derived.Test.YtkghbhcjgogaeaaDoorGv
import Derived.Test.YtkghbhcjgogaeaaDoorU1
import Derived.Deep.RegionHeld3
import Derived.IntWalk
namespace Go.Proofs.YtkghbhcjgogaeaaDoor
open Go.RowKit

theorem natI_mem (l : List Nat) (x : Nat) : ((x : Int) ∈ natI l) ↔ x ∈ l := by
  unfold natI
  rw [List.mem_map]
  constructor
  · rintro ⟨y, hy, h⟩
    have : y = x := Int.ofNat.inj h
    rwa [← this]
  · exact fun h => ⟨x, h, rfl⟩
set_option maxRecDepth 100000 in
set_option maxHeartbeats 6400000 in
theorem law9 (A : AliveC) {ok : Nat → Prop} {v : Value} {r : Rx} (s : ByteArray) (hs : s.size ≤ 9223372036854775807) (h1 : sizeR r ≤ 1000000) (h2 : depthR r ≤ 1000000) (w : World) (hv : RxV w ok v r) (hT : HasT w) :
    Calls Tryd.prog 9 #[v, .string s] w fun e w' => e = .returned (.bool true) ∧ Below w.heap.size w w' := by
  obtain ⟨qa, ya, za, Aa, Da, na, ca, ma, da, rfl⟩ := rxv_shape hv
  have hbA := bnew (Below.refl _ w) (.cells #[.int .i64 qa, .slice Aa na ca, .int .i64 ya, .int .i64 za, .slice Da ma da] 25)
  have HA := hide (A _ (hT.below hbA))
  have Ra := hide (hv.kept hbA)
  have Ta := hide (hT.below hbA)
  have Fa := hide (five_new w (.int .i64 qa) (.slice Aa na ca) (.int .i64 ya) (.int .i64 za) (.slice Da ma da) 25)
  have Ba := hide hbA
  have hsb : (s.size : Int) ≤ 9223372036854775807 := by omega
  clear hv hT hbA A
  by_cases h6 : 60 < s.size
  · have h6' : (60 : Int) < (s.size : Int) := by omega
    go_enter Tryd.func9, Tryd.ntmps9
    go_wp2_with fail
    with_reducible refine HA.out.mono ?_
    rintro e w1 ⟨rfl, hb⟩
    have B1 := hide (bgo Ba.out hb)
    clear hb
    go_wp2
    go_ret
    exact ⟨rfl, B1.out⟩
  · have h6' : ¬ (60 : Int) < (s.size : Int) := by omega
    have hs6 : s.size ≤ 60 := by omega
    obtain ⟨L, hL⟩ : ∃ L, allP r s.data.toList = L := ⟨_, rfl⟩
    obtain ⟨M, hM⟩ : ∃ M, L.length = M := ⟨_, rfl⟩
    have hLl : M ≤ 1000000 := by rw [← hM, ← hL]; have := allP_len r s.data.toList; have := strlen s; omega
    have H21 := hide (fun (W : World) (h : RxV W ok (.agg #[.int .i64 qa, .slice Aa na ca, .int .i64 ya, .int .i64 za, .slice Da ma da]) r) (hT : HasT W) => (all21 all_mirror s hs6 r h1 h2 W ok _ h hT).mono (R' := fun e w' => ∃ A c, e = .returned (.slice A M c) ∧ SlS w' A M c L ∧ Below W.heap.size W w') (fun e w' ⟨u, h1, h2, h3⟩ => by obtain ⟨A, c, rfl, h4⟩ := owns_n (hL ▸ h2) hM; exact ⟨A, c, h1, h4, h3⟩))
    have H16 := hide (fun (W : World) (h : RxV W ok (.agg #[.int .i64 qa, .slice Aa na ca, .int .i64 ya, .int .i64 za, .slice Da ma da]) r) (hT : HasT W) => (match16 s hs6 r h1 h2 W ok _ h hT).mono (R' := fun e w' => e = .returned (.bool (decide ((0 : Int) < (M : Int)))) ∧ Below W.heap.size W w') (fun e w' ⟨k1, k2⟩ => ⟨by rw [k1, ← all_some, hL, hM]; simp, k2⟩))
    have H12 := hide (fun (W : World) (a : Nat) (m : Nat) (hm : (natI (endsA r s.data.toList (a : Int))).length = m) (h : RxV W ok (.agg #[.int .i64 qa, .slice Aa na ca, .int .i64 ya, .int .i64 za, .slice Da ma da]) r) (hT : HasT W) => (ends12 s hs6 r h1 h2 (a : Int) W ok _ h hT).mono (R' := fun e w' => ∃ A c, e = .returned (.slice A m c) ∧ Sl w' A m c (numCells (natI (endsA r s.data.toList (a : Int)))) ∧ Below W.heap.size W w') (fun e w' h => grew_n h hm))
    have H25 := hide (fun (W : World) (a b m : Nat) (A : Option Addr) (c : Nat) (hm : m ≤ 1000000) (hb : b ∈ endsA r s.data.toList (a : Int)) (h : Sl W A m c (numCells (natI (endsA r s.data.toList (a : Int))))) => (has25 _ A m c (b : Int) hm W h).mono (R' := fun e w' => e = .returned (.bool true) ∧ W = w') (fun e w' ⟨k1, k2⟩ => ⟨by rw [k1, decide_eq_true ((natI_mem _ _).2 hb)], k2⟩))
    have hEl := hide (fun (a : Nat) => show (natI (endsA r s.data.toList (a : Int))).length ≤ 1000000 by rw [natI_len]; have := endsA_len r s.data.toList (a : Int); have := strlen s; omega)
    have HIn := hide (show ∀ q ∈ L, q.2 ∈ endsA r s.data.toList (q.1 : Int) from fun q hq => (all_in r s.data.toList _ _ q (by rw [← hL] at hq; exact hq)).2.2.2)
    have HNx := hide (show ∀ (j : Nat) (p q : Nat × Nat), L[j]? = some p → L[j + 1]? = some q → p.2 ≤ q.1 ∧ p ≠ q from fun j p q h1 h2 => all_next r s.data.toList _ _ j p q (by rw [← hL] at h1; exact h1) (by rw [← hL] at h2; exact h2))
    have HSm := hide (show ∀ q ∈ L, q.1 ≤ 60 ∧ q.2 ≤ 60 from fun q hq => by have := all_in r s.data.toList _ _ q (by rw [← hL] at hq; exact hq); have := strlen s; omega)
    have HM := hide hM
    clear h1 h2 hL hM
    go_enter Tryd.func9, Tryd.ntmps9
    go_wp2_with fail
    with_reducible refine HA.out.mono ?_
    rintro e w1 ⟨rfl, hb⟩
    have B1 := hide (bgo Ba.out hb)
    have Ra1 := hide (Ra.out.kept hb)
    have Ta1 := hide (Ta.out.below hb)
    have Fa1 := hide (Fa.out.keep hb)
    clear hb Ba Ra Fa Ta
    obtain ⟨-, t0, t1, t2, t3, t4⟩ := Fa1.out
    go_wp2_with fail
    with_reducible refine (H21.out _ Ra1.out Ta1.out).mono ?_
    rintro e w2 ⟨AL, cL, rfl, hsl, hb⟩
    have B2 := hide (bgo B1.out hb)
    have Ra2 := hide (Ra1.out.kept hb)
    have Ta2 := hide (Ta1.out.below hb)
    have Fa2 := hide (Fa1.out.keep hb)
    have SL := hide hsl
    clear hb hsl B1 Ra1 Ta1 Fa1 t0 t1 t2 t3 t4 HA
    go_wp2_with fail
    go_loopw [6] (fun y wr => ∃ j : Nat, j ≤ M ∧ y = .int .i64 (j : Int) ∧ Below w2.heap.size w2 wr) (fun y _ => M - (intOf y).toNat)
    case atStart => exact ⟨0, Nat.zero_le _, rfl, Below.refl _ _⟩
    case round =>
      obtain ⟨j, hj, rfl, hbel⟩ := hrel
      obtain ⟨x, hx⟩ : ∃ x, x = wr := ⟨wr, rfl⟩
      subst hx
      have Bx2 := hide hbel
      have B3 := hide (bgo B2.out hbel)
      have Ra3 := hide (Ra2.out.kept hbel)
      have Ta3 := hide (Ta2.out.below hbel)
      have Fa3 := hide (Fa2.out.keep hbel)
      have SL3 := hide (SL.out.below hbel)
      have hjb : (j : Int) ≤ 1000000 := by omega
      clear hbel
      by_cases hlt : j < M
      · have hlt' : (j : Int) < (M : Int) := by omega
        obtain ⟨p, hp⟩ : ∃ p, L[j]? = some p := ⟨_, List.getElem?_eq_getElem (by rw [HM.out]; exact hlt)⟩
        obtain ⟨g, o, rfl, a0, a1⟩ := SL3.out.2.2 j p hp
        have hin := HIn.out p (List.mem_of_getElem? hp)
        have hsm := HSm.out p (List.mem_of_getElem? hp)
        obtain ⟨pa, hpa⟩ : ∃ pa, p.1 = pa := ⟨_, rfl⟩
        obtain ⟨pb, hpb⟩ : ∃ pb, p.2 = pb := ⟨_, rfl⟩
        rw [hpa] at a0 hin hsm
        rw [hpb] at a1 hin hsm
        obtain ⟨m, hm⟩ : ∃ m, (natI (endsA r s.data.toList (pa : Int))).length = m := ⟨_, rfl⟩
        have hm6 : m ≤ 1000000 := by rw [← hm]; exact hEl.out pa
        have Hm := hide hm
        have Hin := hide hin
        have HKx := hide (show ∀ X : World, Below x.heap.size x X → (X.cell? ⟨g, o + j * 2, none⟩ = some (.int .i64 (pa : Int)) ∧ X.cell? ⟨g, o + j * 2 + 1, none⟩ = some (.int .i64 (pb : Int))) from fun X hb => by
          have key : ∀ (k : Nat) (u : Value), x.cell? ⟨g, k, none⟩ = some u → X.cell? ⟨g, k, none⟩ = some u := fun k u hu => (hb.cell (p := ⟨g, k, none⟩) (World.block_lt_of_cell? _ _ hu)).trans hu
          exact ⟨key _ _ a0, key _ _ a1⟩)
        obtain ⟨pas, hpas⟩ : ∃ z, z = (pa : Int) := ⟨_, rfl⟩
        rcases Nat.eq_zero_or_pos j with hj0 | hj0
        · subst hj0
          have Hp := hide hp
          clear hp hm hin hpa hpb
          rw [Nat.zero_mul, Nat.add_zero] at a0 a1
          have hlt2 : ¬ ((M : Int) ≤ 0) := by omega
          have hlt3 : (0 : Int) < (M : Int) := by omega
          have hlt4 : 0 < M := by omega
          go_wp2_with fail
          have HK := hide (show ∀ X : World, Below x.heap.size x X → (X.cell? ⟨w.heap.size, 0, none⟩ = some (.int .i64 qa) ∧ X.cell? ⟨w.heap.size, 1, none⟩ = some (.slice Aa na ca) ∧ X.cell? ⟨w.heap.size, 2, none⟩ = some (.int .i64 ya) ∧ X.cell? ⟨w.heap.size, 3, none⟩ = some (.int .i64 za) ∧ X.cell? ⟨w.heap.size, 4, none⟩ = some (.slice Da ma da) ∧ X.cell? ⟨g, o, none⟩ = some (.int .i64 (pa : Int)) ∧ X.cell? ⟨g, o + 1, none⟩ = some (.int .i64 (pb : Int))) ∧ Below x.heap.size x X from fun X hb => by
            obtain ⟨-, t0, t1, t2, t3, t4⟩ := Fa3.out.keep hb
            exact ⟨⟨t0, t1, t2, t3, t4, (hb.cell (World.block_lt_of_cell? _ _ a0)).trans a0, (hb.cell (World.block_lt_of_cell? _ _ a1)).trans a1⟩, hb⟩)
          have HS0 := hide (bel_drew x)
          have HKs := hide (show ∀ X Y : World, (X.cell? ⟨w.heap.size, 0, none⟩ = some (.int .i64 qa) ∧ X.cell? ⟨w.heap.size, 1, none⟩ = some (.slice Aa na ca) ∧ X.cell? ⟨w.heap.size, 2, none⟩ = some (.int .i64 ya) ∧ X.cell? ⟨w.heap.size, 3, none⟩ = some (.int .i64 za) ∧ X.cell? ⟨w.heap.size, 4, none⟩ = some (.slice Da ma da) ∧ X.cell? ⟨g, o, none⟩ = some (.int .i64 (pa : Int)) ∧ X.cell? ⟨g, o + 1, none⟩ = some (.int .i64 (pb : Int))) ∧ Below x.heap.size x X → Below X.heap.size X Y → (Y.cell? ⟨w.heap.size, 0, none⟩ = some (.int .i64 qa) ∧ Y.cell? ⟨w.heap.size, 1, none⟩ = some (.slice Aa na ca) ∧ Y.cell? ⟨w.heap.size, 2, none⟩ = some (.int .i64 ya) ∧ Y.cell? ⟨w.heap.size, 3, none⟩ = some (.int .i64 za) ∧ Y.cell? ⟨w.heap.size, 4, none⟩ = some (.slice Da ma da) ∧ Y.cell? ⟨g, o, none⟩ = some (.int .i64 (pa : Int)) ∧ Y.cell? ⟨g, o + 1, none⟩ = some (.int .i64 (pb : Int))) ∧ Below x.heap.size x Y from fun X Y h hb => HK.out Y (bgo h.2 hb))
          have HKb := hide (show ∀ X : World, (X.cell? ⟨w.heap.size, 0, none⟩ = some (.int .i64 qa) ∧ X.cell? ⟨w.heap.size, 1, none⟩ = some (.slice Aa na ca) ∧ X.cell? ⟨w.heap.size, 2, none⟩ = some (.int .i64 ya) ∧ X.cell? ⟨w.heap.size, 3, none⟩ = some (.int .i64 za) ∧ X.cell? ⟨w.heap.size, 4, none⟩ = some (.slice Da ma da) ∧ X.cell? ⟨g, o, none⟩ = some (.int .i64 (pa : Int)) ∧ X.cell? ⟨g, o + 1, none⟩ = some (.int .i64 (pb : Int))) ∧ Below x.heap.size x X → Below w.heap.size w X ∧ Below x.heap.size x X from fun X h => ⟨bgo B3.out h.2, h.2⟩)
          have HRa := hide (show ∀ X : World, (X.cell? ⟨w.heap.size, 0, none⟩ = some (.int .i64 qa) ∧ X.cell? ⟨w.heap.size, 1, none⟩ = some (.slice Aa na ca) ∧ X.cell? ⟨w.heap.size, 2, none⟩ = some (.int .i64 ya) ∧ X.cell? ⟨w.heap.size, 3, none⟩ = some (.int .i64 za) ∧ X.cell? ⟨w.heap.size, 4, none⟩ = some (.slice Da ma da) ∧ X.cell? ⟨g, o, none⟩ = some (.int .i64 (pa : Int)) ∧ X.cell? ⟨g, o + 1, none⟩ = some (.int .i64 (pb : Int))) ∧ Below x.heap.size x X → RxV X ok (.agg #[.int .i64 qa, .slice Aa na ca, .int .i64 ya, .int .i64 za, .slice Da ma da]) r from fun X h => Ra3.out.kept h.2)
          have HTa := hide (show ∀ X : World, (X.cell? ⟨w.heap.size, 0, none⟩ = some (.int .i64 qa) ∧ X.cell? ⟨w.heap.size, 1, none⟩ = some (.slice Aa na ca) ∧ X.cell? ⟨w.heap.size, 2, none⟩ = some (.int .i64 ya) ∧ X.cell? ⟨w.heap.size, 3, none⟩ = some (.int .i64 za) ∧ X.cell? ⟨w.heap.size, 4, none⟩ = some (.slice Da ma da) ∧ X.cell? ⟨g, o, none⟩ = some (.int .i64 (pa : Int)) ∧ X.cell? ⟨g, o + 1, none⟩ = some (.int .i64 (pb : Int))) ∧ Below x.heap.size x X → HasT X from fun X h => Ta3.out.below h.2)

          refine wp_region_noPanic ?_
          refine wp_region_held_drew (S := fun w' => (w'.cell? ⟨w.heap.size, 0, none⟩ = some (.int .i64 qa) ∧ w'.cell? ⟨w.heap.size, 1, none⟩ = some (.slice Aa na ca) ∧ w'.cell? ⟨w.heap.size, 2, none⟩ = some (.int .i64 ya) ∧ w'.cell? ⟨w.heap.size, 3, none⟩ = some (.int .i64 za) ∧ w'.cell? ⟨w.heap.size, 4, none⟩ = some (.slice Da ma da) ∧ w'.cell? ⟨g, o, none⟩ = some (.int .i64 (pa : Int)) ∧ w'.cell? ⟨g, o + 1, none⟩ = some (.int .i64 (pb : Int))) ∧ Below x.heap.size x w') (by kernel_rfl) (HK.out _ HS0.out) (fun hS => ?_)
          refine wpAnyH_take (i := 0) (oi := { dst := some 21, op := Op.load 25 (Operand.tmp 2), type := 25, pos := "law.go:184", after := #[], guard := none }) (v := (.agg #[.int .i64 qa, .slice Aa na ca, .int .i64 ya, .int .i64 za, .slice Da ma da])) rfl (by kernel_rfl) (by kernel_rfl) (by kernel_rfl) (fun _ _ _ h => h) (Or.inl ⟨by rfl, ?_⟩) hS ?_
          · intro w hw
            (try dsimp only at hw)
            go_simp
          try simp only [Act.put, List.setIfInBounds_toArray, List.set_cons_zero, List.set_cons_succ]
          refine wpAnyH_take (i := 1) (oi := { dst := some 22, op := Op.move (Operand.tmp 1), type := 9, pos := "law.go:184", after := #[], guard := none }) (v := .string s) rfl (by kernel_rfl) (by kernel_rfl) (by kernel_rfl) (fun _ _ _ h => h) (Or.inl ⟨by rfl, ?_⟩) hS ?_
          · intro w hw
            (try dsimp only at hw)
            go_simp
          try simp only [Act.put, List.setIfInBounds_toArray, List.set_cons_zero, List.set_cons_succ]
          refine wpAnyH_take (i := 2) (oi := { dst := some 23, op := Op.move (Operand.tmp 5), type := 37, pos := "law.go:184", after := #[], guard := none }) (v := .slice (some ⟨g, o, none⟩) M cL) rfl (by kernel_rfl) (by kernel_rfl) (by kernel_rfl) (fun _ _ _ h => h) (Or.inl ⟨by rfl, ?_⟩) hS ?_
          · intro w hw
            (try dsimp only at hw)
            go_simp
          try simp only [Act.put, List.setIfInBounds_toArray, List.set_cons_zero, List.set_cons_succ]
          refine wpAnyH_take (i := 3) (oi := { dst := some 24, op := Op.move (Operand.tmp 6), type := 3, pos := "law.go:184", after := #[], guard := none }) (v := .int .i64 0) rfl (by kernel_rfl) (by kernel_rfl) (by kernel_rfl) (fun _ _ _ h => h) (Or.inl ⟨by rfl, ?_⟩) hS ?_
          · intro w hw
            (try dsimp only at hw)
            go_simp
          try simp only [Act.put, List.setIfInBounds_toArray, List.set_cons_zero, List.set_cons_succ]
          refine wpAnyH_take (i := 4) (oi := { dst := some 25, op := Op.indexAddr 37 (Operand.tmp 23) (Operand.tmp 24), type := 0, pos := "law.go:184", after := #[{ on := 2, ground := Ground.data }, { on := 3, ground := Ground.data }], guard := none }) (v := .pointer (some ⟨g, o, none⟩)) rfl (by kernel_rfl) (by kernel_rfl) (by kernel_rfl) (fun _ _ _ h => h) (Or.inl ⟨by rfl, ?_⟩) hS ?_
          · intro w hw
            (try dsimp only at hw)
            go_simp
          try simp only [Act.put, List.setIfInBounds_toArray, List.set_cons_zero, List.set_cons_succ]
          refine wpAnyH_take (i := 5) (oi := { dst := some 26, op := Op.fieldAddr 32 (Operand.tmp 25) 0, type := 0, pos := "law.go:184", after := #[{ on := 4, ground := Ground.data }], guard := none }) (v := .pointer (some ⟨g, o, none⟩)) rfl (by kernel_rfl) (by kernel_rfl) (by kernel_rfl) (fun _ _ _ h => h) (Or.inl ⟨by rfl, ?_⟩) hS ?_
          · intro w hw
            (try dsimp only at hw)
            go_simp
          try simp only [Act.put, List.setIfInBounds_toArray, List.set_cons_zero, List.set_cons_succ]
          refine wpAnyH_take (i := 6) (oi := { dst := some 27, op := Op.load 3 (Operand.tmp 26), type := 3, pos := "law.go:184", after := #[{ on := 5, ground := Ground.data }], guard := none }) (v := .int .i64 (pa : Int)) rfl (by kernel_rfl) (by kernel_rfl) (by kernel_rfl) (fun _ _ _ h => h) (Or.inl ⟨by rfl, ?_⟩) hS ?_
          · intro w hw
            (try dsimp only at hw)
            go_simp
          try simp only [Act.put, List.setIfInBounds_toArray, List.set_cons_zero, List.set_cons_succ]
          refine wpAnyH_take (i := 8) (oi := { dst := some 29, op := Op.move (Operand.tmp 5), type := 37, pos := "law.go:184", after := #[], guard := none }) (v := .slice (some ⟨g, o, none⟩) M cL) rfl (by kernel_rfl) (by kernel_rfl) (by kernel_rfl) (fun _ _ _ h => h) (Or.inl ⟨by rfl, ?_⟩) hS ?_
          · intro w hw
            (try dsimp only at hw)
            go_simp
          try simp only [Act.put, List.setIfInBounds_toArray, List.set_cons_zero, List.set_cons_succ]
          refine wpAnyH_take (i := 9) (oi := { dst := some 30, op := Op.move (Operand.tmp 6), type := 3, pos := "law.go:184", after := #[], guard := none }) (v := .int .i64 0) rfl (by kernel_rfl) (by kernel_rfl) (by kernel_rfl) (fun _ _ _ h => h) (Or.inl ⟨by rfl, ?_⟩) hS ?_
          · intro w hw
            (try dsimp only at hw)
            go_simp
          try simp only [Act.put, List.setIfInBounds_toArray, List.set_cons_zero, List.set_cons_succ]
          refine wpAnyH_take (i := 10) (oi := { dst := some 31, op := Op.indexAddr 37 (Operand.tmp 29) (Operand.tmp 30), type := 0, pos := "law.go:184", after := #[{ on := 8, ground := Ground.data }, { on := 9, ground := Ground.data }], guard := none }) (v := .pointer (some ⟨g, o, none⟩)) rfl (by kernel_rfl) (by kernel_rfl) (by kernel_rfl) (fun _ _ _ h => h) (Or.inl ⟨by rfl, ?_⟩) hS ?_
          · intro w hw
            (try dsimp only at hw)
            go_simp
          try simp only [Act.put, List.setIfInBounds_toArray, List.set_cons_zero, List.set_cons_succ]
          refine wpAnyH_take (i := 11) (oi := { dst := some 32, op := Op.fieldAddr 32 (Operand.tmp 31) 1, type := 0, pos := "law.go:184", after := #[{ on := 10, ground := Ground.data }], guard := none }) (v := .pointer (some ⟨g, o + 1, none⟩)) rfl (by kernel_rfl) (by kernel_rfl) (by kernel_rfl) (fun _ _ _ h => h) (Or.inl ⟨by rfl, ?_⟩) hS ?_
          · intro w hw
            (try dsimp only at hw)
            go_simp
          try simp only [Act.put, List.setIfInBounds_toArray, List.set_cons_zero, List.set_cons_succ]
          refine wpAnyH_take (i := 12) (oi := { dst := some 33, op := Op.load 3 (Operand.tmp 32), type := 3, pos := "law.go:184", after := #[{ on := 11, ground := Ground.data }], guard := none }) (v := .int .i64 (pb : Int)) rfl (by kernel_rfl) (by kernel_rfl) (by kernel_rfl) (fun _ _ _ h => h) (Or.inl ⟨by rfl, ?_⟩) hS ?_
          · intro w hw
            (try dsimp only at hw)
            go_simp
          try simp only [Act.put, List.setIfInBounds_toArray, List.set_cons_zero, List.set_cons_succ]
          refine wpAnyH_ready (rs := [7]) (by kernel_rfl) (by simp) (AllReadyH.cons rfl (fun K hK => ?_) AllReadyH.nil)
          rw [if_pos (by rfl)]
          go_simp
          with_reducible refine (H12.out _ pa m Hm.out (HRa.out _ hS) (HTa.out _ hS)).mono ?_
          rintro e w4 ⟨AA, cA, rfl, hsA, hb4⟩
          have hS2 := HKs.out _ _ hS hb4
          clear hS hb4
          refine hK.out _ _ hS2 (fun hS => ?_)
          clear hK K hS2
          try simp only [Act.put, List.setIfInBounds_toArray, List.set_cons_zero, List.set_cons_succ]
          refine wpAnyH_ready (rs := [13]) (by kernel_rfl) (by simp) (AllReadyH.cons rfl (fun K hK => ?_) AllReadyH.nil)
          rw [if_pos (by rfl)]
          go_simp
          with_reducible refine (H25.out _ pa pb m _ _ hm6 Hin.out hsA).mono ?_
          rintro e w5 ⟨rfl, rfl⟩
          refine hK.out _ _ hS (fun _ => ?_)
          clear hK K
          try simp only [Act.put, List.setIfInBounds_toArray, List.set_cons_zero, List.set_cons_succ]
          refine wpAnyH_take (i := 14) (oi := { dst := some 35, op := Op.unOp UnOp.not 4 (Operand.tmp 34), type := 4, pos := "law.go:184", after := #[{ on := 13, ground := Ground.data }], guard := none }) (v := .bool false) rfl (by kernel_rfl) (by kernel_rfl) (by kernel_rfl) (fun _ _ _ h => h) (Or.inl ⟨by rfl, ?_⟩) hS ?_
          · intro w hw
            (try dsimp only at hw)
            go_simp
          try simp only [Act.put, List.setIfInBounds_toArray, List.set_cons_zero, List.set_cons_succ]
          refine wpAnyH_take (i := 15) (oi := { dst := some 36, op := Op.move (Operand.tmp 35), type := 4, pos := "law.go:184", after := #[{ on := 14, ground := Ground.data }, { on := 13, ground := Ground.chain }], guard := none }) (v := .bool false) rfl (by kernel_rfl) (by kernel_rfl) (by kernel_rfl) (fun _ _ _ h => h) (Or.inl ⟨by rfl, ?_⟩) hS ?_
          · intro w hw
            (try dsimp only at hw)
            go_simp
          try simp only [Act.put, List.setIfInBounds_toArray, List.set_cons_zero, List.set_cons_succ]
          refine wpAnyH_take (i := 16) (oi := { dst := some 37, op := Op.move (Operand.tmp 6), type := 3, pos := "law.go:184", after := #[{ on := 15, ground := Ground.guard }], guard := some (15, false) }) (v := .int .i64 0) rfl (by kernel_rfl) (by kernel_rfl) (by kernel_rfl) (fun _ _ _ h => h) (Or.inl ⟨by rfl, ?_⟩) hS ?_
          · intro w hw
            (try dsimp only at hw)
            go_simp
          try simp only [Act.put, List.setIfInBounds_toArray, List.set_cons_zero, List.set_cons_succ]
          refine wpAnyH_take (i := 17) (oi := { dst := some 38, op := Op.binOp BinOp.gtr 3 (Operand.tmp 37) (Operand.const (Value.int IntKind.i64 0)) 3, type := 4, pos := "law.go:184", after := #[{ on := 16, ground := Ground.data }, { on := 15, ground := Ground.guard }], guard := some (15, false) }) (v := .bool false) rfl (by kernel_rfl) (by kernel_rfl) (by kernel_rfl) (fun _ _ _ h => h) (Or.inl ⟨by rfl, ?_⟩) hS ?_
          · intro w hw
            (try dsimp only at hw)
            go_simp
          try simp only [Act.put, List.setIfInBounds_toArray, List.set_cons_zero, List.set_cons_succ]
          refine wpAnyH_take (i := 18) (oi := { dst := some 39, op := Op.move (Operand.tmp 38), type := 4, pos := "law.go:184", after := #[{ on := 17, ground := Ground.data }, { on := 15, ground := Ground.chain }, { on := 15, ground := Ground.guard }], guard := some (15, false) }) (v := .bool false) rfl (by kernel_rfl) (by kernel_rfl) (by kernel_rfl) (fun _ _ _ h => h) (Or.inl ⟨by rfl, ?_⟩) hS ?_
          · intro w hw
            (try dsimp only at hw)
            go_simp
          try simp only [Act.put, List.setIfInBounds_toArray, List.set_cons_zero, List.set_cons_succ]
          refine wpAnyH_take (i := 19) (oi := { dst := some 40, op := Op.move (Operand.tmp 5), type := 37, pos := "law.go:184", after := #[{ on := 18, ground := Ground.guard }], guard := some (18, true) }) (v := undef) rfl (by kernel_rfl) (by kernel_rfl) (by kernel_rfl) (fun _ _ _ h => h) (Or.inr ⟨by rfl, rfl⟩) hS ?_
          try simp only [Act.put, List.setIfInBounds_toArray, List.set_cons_zero, List.set_cons_succ]
          refine wpAnyH_take (i := 20) (oi := { dst := some 41, op := Op.move (Operand.tmp 6), type := 3, pos := "law.go:184", after := #[{ on := 18, ground := Ground.guard }], guard := some (18, true) }) (v := undef) rfl (by kernel_rfl) (by kernel_rfl) (by kernel_rfl) (fun _ _ _ h => h) (Or.inr ⟨by rfl, rfl⟩) hS ?_
          try simp only [Act.put, List.setIfInBounds_toArray, List.set_cons_zero, List.set_cons_succ]
          refine wpAnyH_take (i := 21) (oi := { dst := some 42, op := Op.indexAddr 37 (Operand.tmp 40) (Operand.tmp 41), type := 0, pos := "law.go:184", after := #[{ on := 19, ground := Ground.data }, { on := 20, ground := Ground.data }, { on := 18, ground := Ground.guard }], guard := some (18, true) }) (v := undef) rfl (by kernel_rfl) (by kernel_rfl) (by kernel_rfl) (fun _ _ _ h => h) (Or.inr ⟨by rfl, rfl⟩) hS ?_
          try simp only [Act.put, List.setIfInBounds_toArray, List.set_cons_zero, List.set_cons_succ]
          refine wpAnyH_take (i := 22) (oi := { dst := some 43, op := Op.fieldAddr 32 (Operand.tmp 42) 0, type := 0, pos := "law.go:184", after := #[{ on := 21, ground := Ground.data }, { on := 18, ground := Ground.guard }], guard := some (18, true) }) (v := undef) rfl (by kernel_rfl) (by kernel_rfl) (by kernel_rfl) (fun _ _ _ h => h) (Or.inr ⟨by rfl, rfl⟩) hS ?_
          try simp only [Act.put, List.setIfInBounds_toArray, List.set_cons_zero, List.set_cons_succ]
          refine wpAnyH_take (i := 23) (oi := { dst := some 44, op := Op.load 3 (Operand.tmp 43), type := 3, pos := "law.go:184", after := #[{ on := 22, ground := Ground.data }, { on := 18, ground := Ground.guard }], guard := some (18, true) }) (v := undef) rfl (by kernel_rfl) (by kernel_rfl) (by kernel_rfl) (fun _ _ _ h => h) (Or.inr ⟨by rfl, rfl⟩) hS ?_
          try simp only [Act.put, List.setIfInBounds_toArray, List.set_cons_zero, List.set_cons_succ]
          refine wpAnyH_take (i := 24) (oi := { dst := some 45, op := Op.move (Operand.tmp 5), type := 37, pos := "law.go:184", after := #[{ on := 18, ground := Ground.guard }], guard := some (18, true) }) (v := undef) rfl (by kernel_rfl) (by kernel_rfl) (by kernel_rfl) (fun _ _ _ h => h) (Or.inr ⟨by rfl, rfl⟩) hS ?_
          try simp only [Act.put, List.setIfInBounds_toArray, List.set_cons_zero, List.set_cons_succ]
          refine wpAnyH_take (i := 25) (oi := { dst := some 46, op := Op.move (Operand.tmp 6), type := 3, pos := "law.go:184", after := #[{ on := 18, ground := Ground.guard }], guard := some (18, true) }) (v := undef) rfl (by kernel_rfl) (by kernel_rfl) (by kernel_rfl) (fun _ _ _ h => h) (Or.inr ⟨by rfl, rfl⟩) hS ?_
          try simp only [Act.put, List.setIfInBounds_toArray, List.set_cons_zero, List.set_cons_succ]
          refine wpAnyH_take (i := 26) (oi := { dst := some 47, op := Op.binOp BinOp.sub 3 (Operand.tmp 46) (Operand.const (Value.int IntKind.i64 1)) 3, type := 3, pos := "law.go:184", after := #[{ on := 25, ground := Ground.data }, { on := 18, ground := Ground.guard }], guard := some (18, true) }) (v := undef) rfl (by kernel_rfl) (by kernel_rfl) (by kernel_rfl) (fun _ _ _ h => h) (Or.inr ⟨by rfl, rfl⟩) hS ?_
          try simp only [Act.put, List.setIfInBounds_toArray, List.set_cons_zero, List.set_cons_succ]
          refine wpAnyH_take (i := 27) (oi := { dst := some 48, op := Op.indexAddr 37 (Operand.tmp 45) (Operand.tmp 47), type := 0, pos := "law.go:184", after := #[{ on := 24, ground := Ground.data }, { on := 26, ground := Ground.data }, { on := 18, ground := Ground.guard }], guard := some (18, true) }) (v := undef) rfl (by kernel_rfl) (by kernel_rfl) (by kernel_rfl) (fun _ _ _ h => h) (Or.inr ⟨by rfl, rfl⟩) hS ?_
          try simp only [Act.put, List.setIfInBounds_toArray, List.set_cons_zero, List.set_cons_succ]
          refine wpAnyH_take (i := 28) (oi := { dst := some 49, op := Op.fieldAddr 32 (Operand.tmp 48) 1, type := 0, pos := "law.go:184", after := #[{ on := 27, ground := Ground.data }, { on := 18, ground := Ground.guard }], guard := some (18, true) }) (v := undef) rfl (by kernel_rfl) (by kernel_rfl) (by kernel_rfl) (fun _ _ _ h => h) (Or.inr ⟨by rfl, rfl⟩) hS ?_
          try simp only [Act.put, List.setIfInBounds_toArray, List.set_cons_zero, List.set_cons_succ]
          refine wpAnyH_take (i := 29) (oi := { dst := some 50, op := Op.load 3 (Operand.tmp 49), type := 3, pos := "law.go:184", after := #[{ on := 28, ground := Ground.data }, { on := 18, ground := Ground.guard }], guard := some (18, true) }) (v := undef) rfl (by kernel_rfl) (by kernel_rfl) (by kernel_rfl) (fun _ _ _ h => h) (Or.inr ⟨by rfl, rfl⟩) hS ?_
          try simp only [Act.put, List.setIfInBounds_toArray, List.set_cons_zero, List.set_cons_succ]
          refine wpAnyH_take (i := 30) (oi := { dst := some 51, op := Op.binOp BinOp.lss 3 (Operand.tmp 44) (Operand.tmp 50) 3, type := 4, pos := "law.go:184", after := #[{ on := 23, ground := Ground.data }, { on := 29, ground := Ground.data }, { on := 18, ground := Ground.guard }], guard := some (18, true) }) (v := undef) rfl (by kernel_rfl) (by kernel_rfl) (by kernel_rfl) (fun _ _ _ h => h) (Or.inr ⟨by rfl, rfl⟩) hS ?_
          try simp only [Act.put, List.setIfInBounds_toArray, List.set_cons_zero, List.set_cons_succ]
          refine wpAnyH_take (i := 31) (oi := { dst := some 52, op := Op.move (Operand.tmp 51), type := 4, pos := "law.go:184", after := #[{ on := 30, ground := Ground.data }, { on := 18, ground := Ground.chain }, { on := 18, ground := Ground.guard }], guard := some (18, true) }) (v := undef) rfl (by kernel_rfl) (by kernel_rfl) (by kernel_rfl) (fun _ _ _ h => h) (Or.inr ⟨by rfl, rfl⟩) hS ?_
          try simp only [Act.put, List.setIfInBounds_toArray, List.set_cons_zero, List.set_cons_succ]
          refine wpAnyH_take (i := 32) (oi := { dst := some 53, op := Op.move (Operand.tmp 5), type := 37, pos := "law.go:184", after := #[{ on := 31, ground := Ground.guard }], guard := some (31, false) }) (v := undef) rfl (by kernel_rfl) (by kernel_rfl) (by kernel_rfl) (fun _ _ _ h => h) (Or.inr ⟨by rfl, rfl⟩) hS ?_
          try simp only [Act.put, List.setIfInBounds_toArray, List.set_cons_zero, List.set_cons_succ]
          refine wpAnyH_take (i := 33) (oi := { dst := some 54, op := Op.move (Operand.tmp 6), type := 3, pos := "law.go:184", after := #[{ on := 31, ground := Ground.guard }], guard := some (31, false) }) (v := undef) rfl (by kernel_rfl) (by kernel_rfl) (by kernel_rfl) (fun _ _ _ h => h) (Or.inr ⟨by rfl, rfl⟩) hS ?_
          try simp only [Act.put, List.setIfInBounds_toArray, List.set_cons_zero, List.set_cons_succ]
          refine wpAnyH_take (i := 34) (oi := { dst := some 55, op := Op.indexAddr 37 (Operand.tmp 53) (Operand.tmp 54), type := 0, pos := "law.go:184", after := #[{ on := 32, ground := Ground.data }, { on := 33, ground := Ground.data }, { on := 31, ground := Ground.guard }], guard := some (31, false) }) (v := undef) rfl (by kernel_rfl) (by kernel_rfl) (by kernel_rfl) (fun _ _ _ h => h) (Or.inr ⟨by rfl, rfl⟩) hS ?_
          try simp only [Act.put, List.setIfInBounds_toArray, List.set_cons_zero, List.set_cons_succ]
          refine wpAnyH_take (i := 35) (oi := { dst := some 56, op := Op.load 32 (Operand.tmp 55), type := 32, pos := "law.go:184", after := #[{ on := 34, ground := Ground.data }, { on := 31, ground := Ground.guard }], guard := some (31, false) }) (v := undef) rfl (by kernel_rfl) (by kernel_rfl) (by kernel_rfl) (fun _ _ _ h => h) (Or.inr ⟨by rfl, rfl⟩) hS ?_
          try simp only [Act.put, List.setIfInBounds_toArray, List.set_cons_zero, List.set_cons_succ]
          refine wpAnyH_take (i := 36) (oi := { dst := some 57, op := Op.move (Operand.tmp 5), type := 37, pos := "law.go:184", after := #[{ on := 31, ground := Ground.guard }], guard := some (31, false) }) (v := undef) rfl (by kernel_rfl) (by kernel_rfl) (by kernel_rfl) (fun _ _ _ h => h) (Or.inr ⟨by rfl, rfl⟩) hS ?_
          try simp only [Act.put, List.setIfInBounds_toArray, List.set_cons_zero, List.set_cons_succ]
          refine wpAnyH_take (i := 37) (oi := { dst := some 58, op := Op.move (Operand.tmp 6), type := 3, pos := "law.go:184", after := #[{ on := 31, ground := Ground.guard }], guard := some (31, false) }) (v := undef) rfl (by kernel_rfl) (by kernel_rfl) (by kernel_rfl) (fun _ _ _ h => h) (Or.inr ⟨by rfl, rfl⟩) hS ?_
          try simp only [Act.put, List.setIfInBounds_toArray, List.set_cons_zero, List.set_cons_succ]
          refine wpAnyH_take (i := 38) (oi := { dst := some 59, op := Op.binOp BinOp.sub 3 (Operand.tmp 58) (Operand.const (Value.int IntKind.i64 1)) 3, type := 3, pos := "law.go:184", after := #[{ on := 37, ground := Ground.data }, { on := 31, ground := Ground.guard }], guard := some (31, false) }) (v := undef) rfl (by kernel_rfl) (by kernel_rfl) (by kernel_rfl) (fun _ _ _ h => h) (Or.inr ⟨by rfl, rfl⟩) hS ?_
          try simp only [Act.put, List.setIfInBounds_toArray, List.set_cons_zero, List.set_cons_succ]
          refine wpAnyH_take (i := 39) (oi := { dst := some 60, op := Op.indexAddr 37 (Operand.tmp 57) (Operand.tmp 59), type := 0, pos := "law.go:184", after := #[{ on := 36, ground := Ground.data }, { on := 38, ground := Ground.data }, { on := 31, ground := Ground.guard }], guard := some (31, false) }) (v := undef) rfl (by kernel_rfl) (by kernel_rfl) (by kernel_rfl) (fun _ _ _ h => h) (Or.inr ⟨by rfl, rfl⟩) hS ?_
          try simp only [Act.put, List.setIfInBounds_toArray, List.set_cons_zero, List.set_cons_succ]
          refine wpAnyH_take (i := 40) (oi := { dst := some 61, op := Op.load 32 (Operand.tmp 60), type := 32, pos := "law.go:184", after := #[{ on := 39, ground := Ground.data }, { on := 31, ground := Ground.guard }], guard := some (31, false) }) (v := undef) rfl (by kernel_rfl) (by kernel_rfl) (by kernel_rfl) (fun _ _ _ h => h) (Or.inr ⟨by rfl, rfl⟩) hS ?_
          try simp only [Act.put, List.setIfInBounds_toArray, List.set_cons_zero, List.set_cons_succ]
          refine wpAnyH_take (i := 41) (oi := { dst := some 62, op := Op.binOp BinOp.eql 32 (Operand.tmp 56) (Operand.tmp 61) 32, type := 4, pos := "law.go:184", after := #[{ on := 35, ground := Ground.data }, { on := 40, ground := Ground.data }, { on := 31, ground := Ground.guard }], guard := some (31, false) }) (v := undef) rfl (by kernel_rfl) (by kernel_rfl) (by kernel_rfl) (fun _ _ _ h => h) (Or.inr ⟨by rfl, rfl⟩) hS ?_
          try simp only [Act.put, List.setIfInBounds_toArray, List.set_cons_zero, List.set_cons_succ]
          refine wpAnyH_take (i := 42) (oi := { dst := some 63, op := Op.pick (Operand.tmp 52) (Operand.const (Value.bool true)) (Operand.tmp 62), type := 4, pos := "law.go:184", after := #[{ on := 31, ground := Ground.data }, { on := 41, ground := Ground.data }, { on := 18, ground := Ground.guard }], guard := some (18, true) }) (v := undef) rfl (by kernel_rfl) (by kernel_rfl) (by kernel_rfl) (fun _ _ _ h => h) (Or.inr ⟨by rfl, rfl⟩) hS ?_
          try simp only [Act.put, List.setIfInBounds_toArray, List.set_cons_zero, List.set_cons_succ]
          refine wpAnyH_take (i := 43) (oi := { dst := some 64, op := Op.pick (Operand.tmp 39) (Operand.tmp 63) (Operand.const (Value.bool false)), type := 4, pos := "law.go:184", after := #[{ on := 18, ground := Ground.data }, { on := 42, ground := Ground.data }, { on := 15, ground := Ground.guard }], guard := some (15, false) }) (v := .bool false) rfl (by kernel_rfl) (by kernel_rfl) (by kernel_rfl) (fun _ _ _ h => h) (Or.inl ⟨by rfl, ?_⟩) hS ?_
          · intro w hw
            (try dsimp only at hw)
            go_simp
          try simp only [Act.put, List.setIfInBounds_toArray, List.set_cons_zero, List.set_cons_succ]
          refine wpAnyH_take (i := 44) (oi := { dst := some 65, op := Op.pick (Operand.tmp 36) (Operand.const (Value.bool true)) (Operand.tmp 64), type := 4, pos := "law.go:184", after := #[{ on := 15, ground := Ground.data }, { on := 43, ground := Ground.data }], guard := none }) (v := .bool false) rfl (by kernel_rfl) (by kernel_rfl) (by kernel_rfl) (fun _ _ _ h => h) (Or.inl ⟨by rfl, ?_⟩) hS ?_
          · intro w hw
            (try dsimp only at hw)
            go_simp
          try simp only [Act.put, List.setIfInBounds_toArray, List.set_cons_zero, List.set_cons_succ]
          refine wpAnyH_done (by kernel_rfl) ?_ _
          refine NoPanic.normal ?_
          have B5 := hide (bgo Bx2.out (HKb.out _ hS).2)
          clear hS HK HS0 HKs HKb HRa HTa
          go_wp2
          go_roundw
          case rel => exact ⟨1, by omega, rfl, B5.out⟩
          case measure => simp [intOf]; omega
        · obtain ⟨jm, hjm⟩ : ∃ jm, j = jm + 1 := ⟨j - 1, by omega⟩
          obtain ⟨q, hq⟩ : ∃ q, L[jm]? = some q := ⟨_, List.getElem?_eq_getElem (by rw [HM.out]; omega)⟩
          obtain ⟨hn1, hn2⟩ := HNx.out jm q p hq (by rw [← hjm]; exact hp)
          obtain ⟨g', o', hgo, c0, c1⟩ := SL3.out.2.2 jm q hq
          have hsq := HSm.out q (List.mem_of_getElem? hq)
          simp only [Option.some.injEq, Addr.mk.injEq, and_true] at hgo
          obtain ⟨rfl, rfl⟩ := hgo
          obtain ⟨qa2, hqa⟩ : ∃ qa2, q.1 = qa2 := ⟨_, rfl⟩
          obtain ⟨qb2, hqb⟩ : ∃ qb2, q.2 = qb2 := ⟨_, rfl⟩
          rw [hqa] at c0 hsq
          rw [hqb] at c1 hsq hn1
          rw [hpa] at hn1
          have hpq : ¬ (pa = qa2 ∧ pb = qb2) := fun e => hn2 (by rw [← hqa, ← hqb, ← hpa, ← hpb] at e; exact Prod.ext e.1.symm e.2.symm)
          have hj1 : (j : Int) - 1 = (jm : Int) := by omega
          have hj2 : IntKind.i64.wrap (jm : Int) = (jm : Int) := IntWalk.i64_in _ (by omega)
          have hj3 : (jm : Int) < (M : Int) := by omega
          have hj4 : ¬ (M : Int) ≤ (jm : Int) := by omega
          have hj5 : jm < M := by omega
          have hj6 : ¬ M ≤ jm := by omega
          have hj7 : (0 : Int) < (j : Int) := by omega
          have hj8 : decide ((0 : Int) < (j : Int)) = true := decide_eq_true hj7
          have hj9 : decide (0 < j) = true := decide_eq_true hj0
          have hja : decide ((pa : Int) < (qb2 : Int)) = false := decide_eq_false (by omega)
          have hjb : decide (pa < qb2) = false := decide_eq_false (by omega)
          have hjc : ¬ (M : Int) ≤ (j : Int) := by omega
          have hjd : ¬ M ≤ j := by omega
          have hje : ((pa : Int) == (qa2 : Int) && (pb : Int) == (qb2 : Int)) = false := by
            rw [Bool.eq_false_iff, ne_eq, Bool.and_eq_true, beq_iff_eq, beq_iff_eq]
            omega
          have heq := fun w => eq32 (pa : Int) (pb : Int) (qa2 : Int) (qb2 : Int) false hje w
          have Hp := hide hp
          clear hp hq hm hin hpa hpb hqa hqb hn2 hjm hpq
          go_wp2_with fail
          have HK := hide (show ∀ X : World, Below x.heap.size x X → (X.cell? ⟨w.heap.size, 0, none⟩ = some (.int .i64 qa) ∧ X.cell? ⟨w.heap.size, 1, none⟩ = some (.slice Aa na ca) ∧ X.cell? ⟨w.heap.size, 2, none⟩ = some (.int .i64 ya) ∧ X.cell? ⟨w.heap.size, 3, none⟩ = some (.int .i64 za) ∧ X.cell? ⟨w.heap.size, 4, none⟩ = some (.slice Da ma da) ∧ X.cell? ⟨g, o + j * 2, none⟩ = some (.int .i64 (pa : Int)) ∧ X.cell? ⟨g, o + j * 2 + 1, none⟩ = some (.int .i64 (pb : Int)) ∧ X.cell? ⟨g, o + jm * 2, none⟩ = some (.int .i64 (qa2 : Int)) ∧ X.cell? ⟨g, o + jm * 2 + 1, none⟩ = some (.int .i64 (qb2 : Int))) ∧ Below x.heap.size x X from fun X hb => by
            obtain ⟨-, t0, t1, t2, t3, t4⟩ := Fa3.out.keep hb
            exact ⟨⟨t0, t1, t2, t3, t4, (hb.cell (World.block_lt_of_cell? _ _ a0)).trans a0, (hb.cell (World.block_lt_of_cell? _ _ a1)).trans a1, (hb.cell (World.block_lt_of_cell? _ _ c0)).trans c0, (hb.cell (World.block_lt_of_cell? _ _ c1)).trans c1⟩, hb⟩)
          have HS0 := hide (bel_drew x)
          have HKs := hide (show ∀ X Y : World, (X.cell? ⟨w.heap.size, 0, none⟩ = some (.int .i64 qa) ∧ X.cell? ⟨w.heap.size, 1, none⟩ = some (.slice Aa na ca) ∧ X.cell? ⟨w.heap.size, 2, none⟩ = some (.int .i64 ya) ∧ X.cell? ⟨w.heap.size, 3, none⟩ = some (.int .i64 za) ∧ X.cell? ⟨w.heap.size, 4, none⟩ = some (.slice Da ma da) ∧ X.cell? ⟨g, o + j * 2, none⟩ = some (.int .i64 (pa : Int)) ∧ X.cell? ⟨g, o + j * 2 + 1, none⟩ = some (.int .i64 (pb : Int)) ∧ X.cell? ⟨g, o + jm * 2, none⟩ = some (.int .i64 (qa2 : Int)) ∧ X.cell? ⟨g, o + jm * 2 + 1, none⟩ = some (.int .i64 (qb2 : Int))) ∧ Below x.heap.size x X → Below X.heap.size X Y → (Y.cell? ⟨w.heap.size, 0, none⟩ = some (.int .i64 qa) ∧ Y.cell? ⟨w.heap.size, 1, none⟩ = some (.slice Aa na ca) ∧ Y.cell? ⟨w.heap.size, 2, none⟩ = some (.int .i64 ya) ∧ Y.cell? ⟨w.heap.size, 3, none⟩ = some (.int .i64 za) ∧ Y.cell? ⟨w.heap.size, 4, none⟩ = some (.slice Da ma da) ∧ Y.cell? ⟨g, o + j * 2, none⟩ = some (.int .i64 (pa : Int)) ∧ Y.cell? ⟨g, o + j * 2 + 1, none⟩ = some (.int .i64 (pb : Int)) ∧ Y.cell? ⟨g, o + jm * 2, none⟩ = some (.int .i64 (qa2 : Int)) ∧ Y.cell? ⟨g, o + jm * 2 + 1, none⟩ = some (.int .i64 (qb2 : Int))) ∧ Below x.heap.size x Y from fun X Y h hb => HK.out Y (bgo h.2 hb))
          have HKb := hide (show ∀ X : World, (X.cell? ⟨w.heap.size, 0, none⟩ = some (.int .i64 qa) ∧ X.cell? ⟨w.heap.size, 1, none⟩ = some (.slice Aa na ca) ∧ X.cell? ⟨w.heap.size, 2, none⟩ = some (.int .i64 ya) ∧ X.cell? ⟨w.heap.size, 3, none⟩ = some (.int .i64 za) ∧ X.cell? ⟨w.heap.size, 4, none⟩ = some (.slice Da ma da) ∧ X.cell? ⟨g, o + j * 2, none⟩ = some (.int .i64 (pa : Int)) ∧ X.cell? ⟨g, o + j * 2 + 1, none⟩ = some (.int .i64 (pb : Int)) ∧ X.cell? ⟨g, o + jm * 2, none⟩ = some (.int .i64 (qa2 : Int)) ∧ X.cell? ⟨g, o + jm * 2 + 1, none⟩ = some (.int .i64 (qb2 : Int))) ∧ Below x.heap.size x X → Below w.heap.size w X ∧ Below x.heap.size x X from fun X h => ⟨bgo B3.out h.2, h.2⟩)
          have HRa := hide (show ∀ X : World, (X.cell? ⟨w.heap.size, 0, none⟩ = some (.int .i64 qa) ∧ X.cell? ⟨w.heap.size, 1, none⟩ = some (.slice Aa na ca) ∧ X.cell? ⟨w.heap.size, 2, none⟩ = some (.int .i64 ya) ∧ X.cell? ⟨w.heap.size, 3, none⟩ = some (.int .i64 za) ∧ X.cell? ⟨w.heap.size, 4, none⟩ = some (.slice Da ma da) ∧ X.cell? ⟨g, o + j * 2, none⟩ = some (.int .i64 (pa : Int)) ∧ X.cell? ⟨g, o + j * 2 + 1, none⟩ = some (.int .i64 (pb : Int)) ∧ X.cell? ⟨g, o + jm * 2, none⟩ = some (.int .i64 (qa2 : Int)) ∧ X.cell? ⟨g, o + jm * 2 + 1, none⟩ = some (.int .i64 (qb2 : Int))) ∧ Below x.heap.size x X → RxV X ok (.agg #[.int .i64 qa, .slice Aa na ca, .int .i64 ya, .int .i64 za, .slice Da ma da]) r from fun X h => Ra3.out.kept h.2)
          have HTa := hide (show ∀ X : World, (X.cell? ⟨w.heap.size, 0, none⟩ = some (.int .i64 qa) ∧ X.cell? ⟨w.heap.size, 1, none⟩ = some (.slice Aa na ca) ∧ X.cell? ⟨w.heap.size, 2, none⟩ = some (.int .i64 ya) ∧ X.cell? ⟨w.heap.size, 3, none⟩ = some (.int .i64 za) ∧ X.cell? ⟨w.heap.size, 4, none⟩ = some (.slice Da ma da) ∧ X.cell? ⟨g, o + j * 2, none⟩ = some (.int .i64 (pa : Int)) ∧ X.cell? ⟨g, o + j * 2 + 1, none⟩ = some (.int .i64 (pb : Int)) ∧ X.cell? ⟨g, o + jm * 2, none⟩ = some (.int .i64 (qa2 : Int)) ∧ X.cell? ⟨g, o + jm * 2 + 1, none⟩ = some (.int .i64 (qb2 : Int))) ∧ Below x.heap.size x X → HasT X from fun X h => Ta3.out.below h.2)

          go_region_held3 (fun w' => (w'.cell? ⟨w.heap.size, 0, none⟩ = some (.int .i64 qa) ∧ w'.cell? ⟨w.heap.size, 1, none⟩ = some (.slice Aa na ca) ∧ w'.cell? ⟨w.heap.size, 2, none⟩ = some (.int .i64 ya) ∧ w'.cell? ⟨w.heap.size, 3, none⟩ = some (.int .i64 za) ∧ w'.cell? ⟨w.heap.size, 4, none⟩ = some (.slice Da ma da) ∧ w'.cell? ⟨g, o + j * 2, none⟩ = some (.int .i64 (pa : Int)) ∧ w'.cell? ⟨g, o + j * 2 + 1, none⟩ = some (.int .i64 (pb : Int)) ∧ w'.cell? ⟨g, o + jm * 2, none⟩ = some (.int .i64 (qa2 : Int)) ∧ w'.cell? ⟨g, o + jm * 2 + 1, none⟩ = some (.int .i64 (qb2 : Int))) ∧ Below x.heap.size x w')
            (first | exact HK.out _ HS0.out | exact HKs.out _ _ (by assumption) hb4 | assumption)
            (first
              | (go_at_call 12; (with_reducible refine (H12.out _ pa m Hm.out (HRa.out _ ?_) (HTa.out _ ?_)).mono ?_); assumption; assumption; rintro e w4 ⟨AA, cA, rfl, hsA, hb4⟩)
              | (go_at_call 25; (with_reducible refine (H25.out _ pa pb m _ _ hm6 Hin.out hsA).mono ?_); rintro e w5 ⟨rfl, rfl⟩))
          have B5 := hide (bgo Bx2.out (HKb.out _ (by assumption)).2)
          clear HK HS0 HKs HKb HRa HTa
          go_wp2
          go_roundw
          case rel => exact ⟨j + 1, by omega, by go_num, B5.out⟩
          case measure => simp [intOf]; omega
      · have hlt' : ¬ (j : Int) < (M : Int) := by omega
        have HC := hide (H16.out x Ra3.out Ta3.out)
        obtain ⟨-, t0, t1, t2, t3, t4⟩ := Fa3.out
        go_wp2_with fail
        with_reducible refine HC.out.mono ?_
        rintro e w4 ⟨rfl, hb⟩
        have B4 := hide (bgo B3.out hb)
        clear hb t0 t1 t2 t3 t4
        go_wp2
        go_ret
        exact ⟨rfl, B4.out⟩
end Go.Proofs.YtkghbhcjgogaeaaDoor
