/- Layer 10: arguments that are an expression, a condition, a slice of ints, opened, with what the bound on their bulk gives. -/
import Derived.Test.YtlnbjdlooghpeaaQr
import Derived.Test.YtlnbjdlooghpeaaRows
import Derived.ProofKit
import Derived.OpenShut
import Derived.Deep.Slices
import Derived.Lib.SmallJoins
import Derived.Lib.LaidTab
namespace Go.Proofs.Ytlnbjdlooghpeaa
open Go.RowKit Go.ChangeShapes Go.WideShapes Go.Joins

variable {H : Type} {enc : TypeId × Value → H} {W : World}

theorem VsS.nil (W : World) (ok : Nat → Prop) : VsS W ok none 0 0 [] := ⟨Nat.le_refl _, by omega, rfl, fun i v h => by simp at h⟩
theorem wf_u8 (z : Int) (h : (Lit.int .u8 z).wf = true) : 0 ≤ z ∧ z ≤ 255 := by simpa [Lit.wf, IntKind.min, IntKind.max, IntKind.signed, IntKind.bits] using h
theorem wf_i64 (z : Int) (h : (Lit.int .i64 z).wf = true) : -9223372036854775808 ≤ z ∧ z ≤ 9223372036854775807 := by simpa [Lit.wf, IntKind.min, IntKind.max, IntKind.signed, IntKind.bits] using h
theorem list_of {α : Type} (n : Nat) (P : Nat → α → Prop) (h : ∀ i, i < n → ∃ x, P i x) : ∃ l : List α, l.length = n ∧ ∀ i x, l[i]? = some x → P i x := by
  induction n with
  | zero => exact ⟨[], rfl, fun i x hx => by simp at hx⟩
  | succ n ih =>
    obtain ⟨l, hl, hP⟩ := ih fun i hi => h i (by omega)
    obtain ⟨x, hx⟩ := h n (by omega)
    refine ⟨l ++ [x], by simp [hl], fun i y hy => ?_⟩
    by_cases hi : i < n
    · rw [List.getElem?_append_left (by omega)] at hy
      exact hP i y hy
    · rw [List.getElem?_append_right (by omega)] at hy
      have hlt := (List.getElem?_eq_some_iff.1 hy).1
      have : i = n := by simp at hlt; omega
      subst this
      rw [hl, Nat.sub_self] at hy
      cases hy
      exact hx
theorem array5 {α : Type} {cs : Array α} (h : cs.size = 5) : ∃ c0 c1 c2 c3 c4, cs = #[c0, c1, c2, c3, c4] := by
  obtain ⟨l⟩ := cs
  match l, h with
  | [c0, c1, c2, c3, c4], _ => exact ⟨c0, c1, c2, c3, c4, rfl⟩
theorem cellsRx : Try.prog.cellsOf 25 = 5 := by kernel_rfl
theorem cellsRg : Try.prog.cellsOf 61 = 2 := by kernel_rfl
theorem no_spot {W : World} {a : Addr} {v : Value} (h : W.cell? a = some v) : ∃ g o, a = ⟨g, o, none⟩ := by
  obtain ⟨g, o, s⟩ := a
  cases s with
  | none => exact ⟨g, o, rfl⟩
  | some s =>
    unfold World.cell? at h
    split at h
    · simp at h
    · cases h
set_option maxRecDepth 100000 in
/-- One range. -/
theorem range_of {fuel : Nat} {v0 v1 : Value} {y : DataW H × List MemPlace} (h : DataW.trod enc Try.prog W 0 (fun _ => true) true fuel 61 [v0, v1] = some y) : ∃ r : UInt8 × UInt8, v0 = .int .u8 (r.1.toNat : Int) ∧ v1 = .int .u8 (r.2.toNat : Int) := by
  obtain ⟨xs, n, _, _, hl, hlen, hall⟩ := DataW.trod_struct Try.underlying61 h
  match xs, hlen with
  | [y0, y1], _ =>
    have h0 := hall 0 _ rfl
    have h1 := hall 1 _ rfl
    have h0' : DataW.trod enc Try.prog W 0 (fun _ => true) true n 5 [v0] = some y0 := h0
    have h1' : DataW.trod enc Try.prog W 0 (fun _ => true) true n 5 [v1] = some y1 := h1
    obtain ⟨z0, q0, _, w0⟩ := DataW.trod_int Try.underlying5 h0'
    obtain ⟨z1, q1, _, w1⟩ := DataW.trod_int Try.underlying5 h1'
    have r0 : v0 = .int .u8 z0 := (List.cons.inj (q0 : [v0] = [.int .u8 z0])).1
    have r1 : v1 = .int .u8 z1 := (List.cons.inj (q1 : [v1] = [.int .u8 z1])).1
    have k0 := wf_u8 _ w0
    have k1 := wf_u8 _ w1
    refine ⟨(UInt8.ofNat z0.toNat, UInt8.ofNat z1.toNat), ?_, ?_⟩
    · rw [r0, UInt8.toNat_ofNat']
      congr 1
      omega
    · rw [r1, UInt8.toNat_ofNat']
      congr 1
      omega
theorem one_le {H : Type} (d : DataW H) : 1 ≤ Rows.uptoBulk d := by
  cases d with
  | lit l => cases l <;> simp [Rows.uptoBulk]
  | nil => simp [Rows.uptoBulk]
  | ptr d => simp [Rows.uptoBulk]
  | slice elems spare => simp [Rows.uptoBulk]
  | agg parts => simp [Rows.uptoBulk]
  | iface t d => simp [Rows.uptoBulk]
  | map entries => simp [Rows.uptoBulk]
  | held h => simp [Rows.uptoBulk]
theorem len_bulk {H : Type} : ∀ l : List (DataW H), l.length ≤ Rows.uptoBulkAll l
  | [] => Nat.zero_le _
  | d :: l => by
    have h1 := one_le d
    have h2 := len_bulk l
    simp only [Rows.uptoBulkAll, List.length_cons]
    omega
theorem len_bulk2 {H : Type} : ∀ l : List (DataW H), (∀ d ∈ l, 2 ≤ Rows.uptoBulk d) → 2 * l.length ≤ Rows.uptoBulkAll l
  | [], _ => Nat.zero_le _
  | d :: l, h => by
    have h1 := h d (by simp)
    have h2 := len_bulk2 l fun x hx => h x (List.mem_cons_of_mem _ hx)
    simp only [Rows.uptoBulkAll, List.length_cons]
    omega
set_option maxRecDepth 100000 in
theorem ranges_of {fuel : Nat} {v : Value} {y : DataW H × List MemPlace} (h : DataW.trod enc Try.prog W 0 (fun _ => true) true fuel 22 [v] = some y) : ∃ A n c set, v = .slice A n c ∧ RgS W (fun _ => True) A n c set ∧ 2 * set.length ≤ Rows.uptoBulk y.1 := by
  rcases Go.Deep.open_slice Try.underlying22 h with ⟨hcs, _⟩ | ⟨a, len, cap, m, q, D, Pl, hcs, _, hl, hm, hmm, hyy, hx⟩
  · cases hcs
    exact ⟨none, 0, 0, [], rfl, RgS.nil W _, Nat.zero_le _⟩
  · cases hcs
    have hm' : m = cap := by simpa using hmm
    obtain ⟨set, hfl, hfs⟩ := list_of len (fun i (r : UInt8 × UInt8) => ∃ g o, a = ⟨g, o, none⟩ ∧ W.cell? ⟨g, o + i * 2, none⟩ = some (.int .u8 (r.1.toNat : Int)) ∧ W.cell? ⟨g, o + i * 2 + 1, none⟩ = some (.int .u8 (r.2.toNat : Int))) fun i hi => by
      have key : ∀ j, j < cap → ∃ v0 v1 g' o', a.add (j * 2) = ⟨g', o', none⟩ ∧ W.cell? ⟨g', o', none⟩ = some v0 ∧ W.cell? ⟨g', o' + 1, none⟩ = some v1 ∧ ∃ y', DataW.trod enc Try.prog W 0 (fun _ => true) true q 61 [v0, v1] = some y' := fun j hj => by
        obtain ⟨cs, hc, ht⟩ := hx j (by omega)
        rw [cellsRg] at hc
        obtain ⟨_, hcl, hat⟩ := World.cells?_some hc
        match cs, hcl with
        | [v0, v1], _ =>
          have e0 := hat 0 (by omega)
          have e1 := hat 1 (by omega)
          obtain ⟨g', o', ha⟩ := no_spot (show W.cell? (a.add (j * 2)) = some v0 from e0)
          rw [ha] at e0 e1
          exact ⟨v0, v1, g', o', ha, e0, e1, _, ht⟩
      obtain ⟨_, _, g, o, ha0, _, _, _, _⟩ := key 0 (by omega)
      have ha : a = ⟨g, o, none⟩ := by simpa [Addr.add] using ha0
      obtain ⟨v0, v1, g', o', hai, e0, e1, y', ht⟩ := key i (by omega)
      obtain ⟨r, rfl, rfl⟩ := range_of ht
      have hgo : g' = g ∧ o' = o + i * 2 := by
        rw [ha] at hai
        unfold Addr.add at hai
        split at hai
        · rename_i hz
          injection hai with h1 h2
          exact ⟨h1.symm, by omega⟩
        · injection hai with h1 h2
          exact ⟨h1.symm, h2.symm⟩
      obtain ⟨rfl, rfl⟩ := hgo
      exact ⟨r, g', o, ha, e0, e1⟩
    exact ⟨some a, len, cap, set, rfl, ⟨hl, by unfold maxLen at hm; omega, hfl, fun i r hr => by
      obtain ⟨g, o, h1, h2, h3⟩ := hfs i r hr
      exact ⟨g, o, by rw [h1], trivial, h2, h3⟩⟩, by
      have hln := len_bulk2 ((List.range len).map D) fun d hd => by
        obtain ⟨i, hi, rfl⟩ := List.mem_map.1 hd
        obtain ⟨cs, hc, ht⟩ := hx i (by have := List.mem_range.1 hi; omega)
        obtain ⟨xs, n, _, hy, _, hlen, _⟩ := DataW.trod_struct Try.underlying61 ht
        match xs, hlen with
        | [y0, y1], _ =>
          have e : D i = .agg [y0.1, y1.1] := congrArg Prod.fst hy
          have k0 := one_le y0.1
          have k1 := one_le y1.1
          rw [e]
          simp only [Rows.uptoBulk, Rows.uptoBulkAll]
          omega
      rw [List.length_map, List.length_range] at hln
      rw [hyy]
      simp only [Rows.uptoBulk]
      omega⟩
theorem size_bulk {H : Type} : ∀ (l : List Rx) (es : List (DataW H)), l.length = es.length → (∀ (i : Nat) (x : Rx) (e : DataW H), l[i]? = some x → es[i]? = some e → 2 * weightR x ≤ Rows.uptoBulk e) → 2 * weightL l ≤ Rows.uptoBulkAll es
  | [], es, _, _ => by rw [weightL]; omega
  | x :: l, [], h, _ => by simp at h
  | x :: l, e :: es, h, hk => by
    have h1 := hk 0 x e rfl rfl
    have h2 := size_bulk l es (by simpa using h) fun i y d hy hd => hk (i + 1) y d (by simpa using hy) (by simpa using hd)
    rw [weightL]
    simp only [Rows.uptoBulkAll]
    omega
set_option maxRecDepth 100000 in
theorem regex_of : ∀ (fuel : Nat) (v0 v1 v2 v3 v4 : Value) (y : DataW H × List MemPlace), DataW.trod enc Try.prog W 0 (fun _ => true) true fuel 25 [v0, v1, v2, v3, v4] = some y → ∃ r, RxV W (fun _ => True) (.agg #[v0, v1, v2, v3, v4]) r ∧ 2 * weightR r ≤ Rows.uptoBulk y.1 := by
  intro fuel
  induction fuel using Nat.strongRecOn with
  | ind fuel ih =>
    intro v0 v1 v2 v3 v4 y h
    obtain ⟨xs, n, hfu, hy, hl, hlen, hall⟩ := DataW.trod_struct Try.underlying25 h
    match xs, hlen with
    | [y0, y1, y2, y3, y4], _ =>
      have hbk : 2 + Rows.uptoBulk y1.1 + Rows.uptoBulk y4.1 ≤ Rows.uptoBulk y.1 := by
        have k0 := one_le y0.1
        have k1 := one_le y1.1
        have k2 := one_le y2.1
        have k3 := one_le y3.1
        rw [hy]
        simp only [List.map_cons, List.map_nil, Rows.uptoBulk, Rows.uptoBulkAll]
        omega
      have h0 : DataW.trod enc Try.prog W 0 (fun _ => true) true n 3 [v0] = some y0 := hall 0 _ rfl
      have h1 : DataW.trod enc Try.prog W 0 (fun _ => true) true n 22 [v1] = some y1 := hall 1 _ rfl
      have h2 : DataW.trod enc Try.prog W 0 (fun _ => true) true n 3 [v2] = some y2 := hall 2 _ rfl
      have h3 : DataW.trod enc Try.prog W 0 (fun _ => true) true n 3 [v3] = some y3 := hall 3 _ rfl
      have h4 : DataW.trod enc Try.prog W 0 (fun _ => true) true n 23 [v4] = some y4 := hall 4 _ rfl
      obtain ⟨z0, q0, _, w0⟩ := DataW.trod_int Try.underlying3 h0
      obtain ⟨z2, q2, _, w2⟩ := DataW.trod_int Try.underlying3 h2
      obtain ⟨z3, q3, _, w3⟩ := DataW.trod_int Try.underlying3 h3
      obtain rfl : v0 = .int .i64 z0 := (List.cons.inj (q0 : [v0] = [.int .i64 z0])).1
      obtain rfl : v2 = .int .i64 z2 := (List.cons.inj (q2 : [v2] = [.int .i64 z2])).1
      obtain rfl : v3 = .int .i64 z3 := (List.cons.inj (q3 : [v3] = [.int .i64 z3])).1
      obtain ⟨A, nn, c, set, rfl, hset, hsetl⟩ := ranges_of h1
      rcases DataW.trod_slice Try.underlying23 h4 with ⟨hcs, _⟩ | ⟨a, len, cap, elems, rest, q, hnq, hcs, hy4, _, hll, hm, hel, hx, _⟩
      · cases hcs
        exact ⟨.mk z0 set z2 z3 [], .mk _ _ _ _ _ _ _ _ _ _ [] [] hset (VsS.nil W _) rfl (wf_i64 _ w0) (wf_i64 _ w2) (wf_i64 _ w3) (fun i v x hv => by simp at hv), by rw [weightR, weightL]; omega⟩
      · cases hcs
        have hq : q < fuel := by omega
        have key : ∀ j, j < len → ∃ c0 c1 c2 c3 c4 g' o', a.add (j * 5) = ⟨g', o', none⟩ ∧ W.cell? ⟨g', o', none⟩ = some c0 ∧ W.cell? ⟨g', o' + 1, none⟩ = some c1 ∧ W.cell? ⟨g', o' + 2, none⟩ = some c2 ∧ W.cell? ⟨g', o' + 3, none⟩ = some c3 ∧ W.cell? ⟨g', o' + 4, none⟩ = some c4 ∧
            ∃ r, RxV W (fun _ => True) (.agg #[c0, c1, c2, c3, c4]) r ∧ ∃ e, elems[j]? = some e ∧ 2 * weightR r ≤ Rows.uptoBulk e.1 := fun j hj => by
          have hxj := hx j hj
          rw [List.getElem?_eq_getElem (by omega)] at hxj
          obtain ⟨cs, hc, ht⟩ := Option.bind_eq_some_iff.1 hxj
          rw [cellsRx] at hc
          obtain ⟨_, hcl, hat⟩ := World.cells?_some hc
          match cs, hcl with
          | [c0, c1, c2, c3, c4], _ =>
            have e0 := hat 0 (by omega)
            have e1 := hat 1 (by omega)
            have e2 := hat 2 (by omega)
            have e3 := hat 3 (by omega)
            have e4 := hat 4 (by omega)
            obtain ⟨g', o', ha⟩ := no_spot (show W.cell? (a.add (j * 5)) = some c0 from e0)
            rw [ha] at e0 e1 e2 e3 e4
            obtain ⟨r, hr1, hr2⟩ := ih q hq _ _ _ _ _ _ ht
            exact ⟨c0, c1, c2, c3, c4, g', o', ha, e0, e1, e2, e3, e4, r, hr1, _, List.getElem?_eq_getElem (by omega), hr2⟩
        obtain ⟨ps, hpl, hps⟩ := list_of len (fun i (x : Value × Rx) => ∃ g o c0 c1 c2 c3 c4, a = ⟨g, o, none⟩ ∧ x.1 = .agg #[c0, c1, c2, c3, c4] ∧ W.cell? ⟨g, o + i * 5, none⟩ = some c0 ∧ W.cell? ⟨g, o + i * 5 + 1, none⟩ = some c1 ∧ W.cell? ⟨g, o + i * 5 + 2, none⟩ = some c2 ∧
            W.cell? ⟨g, o + i * 5 + 3, none⟩ = some c3 ∧ W.cell? ⟨g, o + i * 5 + 4, none⟩ = some c4 ∧ RxV W (fun _ => True) x.1 x.2 ∧ ∃ e, elems[i]? = some e ∧ 2 * weightR x.2 ≤ Rows.uptoBulk e.1) fun i hi => by
          obtain ⟨_, _, _, _, _, g, o, ha0, _⟩ := key 0 (by omega)
          have ha : a = ⟨g, o, none⟩ := by simpa [Addr.add] using ha0
          obtain ⟨c0, c1, c2, c3, c4, g', o', hai, e0, e1, e2, e3, e4, r, hr⟩ := key i (by omega)
          have hgo : g' = g ∧ o' = o + i * 5 := by
            rw [ha] at hai
            unfold Addr.add at hai
            split at hai
            · rename_i hz
              injection hai with h1 h2
              exact ⟨h1.symm, by omega⟩
            · injection hai with h1 h2
              exact ⟨h1.symm, h2.symm⟩
          obtain ⟨rfl, rfl⟩ := hgo
          exact ⟨(_, r), g', o, c0, c1, c2, c3, c4, ha, rfl, e0, e1, e2, e3, e4, hr⟩
        refine ⟨.mk z0 set z2 z3 (ps.map Prod.snd), .mk _ _ _ _ _ _ _ _ _ _ (ps.map Prod.fst) _ hset ⟨hll, by unfold maxLen at hm; omega, by simp [hpl], fun i v hv => ?_⟩ (by simp [hpl]) (wf_i64 _ w0) (wf_i64 _ w2) (wf_i64 _ w3) (fun i v x hv hx' => ?_), ?_⟩
        · rw [List.getElem?_map] at hv
          obtain ⟨x, hx1, rfl⟩ := Option.map_eq_some_iff.1 hv
          obtain ⟨g, o, c0, c1, c2, c3, c4, ha, hv1, e0, e1, e2, e3, e4, _⟩ := hps i x hx1
          exact ⟨g, o, c0, c1, c2, c3, c4, by rw [ha], trivial, hv1, e0, e1, e2, e3, e4⟩
        · rw [List.getElem?_map] at hv hx'
          obtain ⟨p1, hp1, rfl⟩ := Option.map_eq_some_iff.1 hv
          rw [hp1] at hx'
          cases hx'
          obtain ⟨_, _, _, _, _, _, _, _, _, _, _, _, _, _, hr, _⟩ := hps i p1 hp1
          exact hr
        · have hsz := size_bulk (ps.map Prod.snd) (elems.map (·.1)) (by simp [hpl, hel]) fun i x e h1 h2 => by
            rw [List.getElem?_map] at h1 h2
            obtain ⟨p1, hp1, rfl⟩ := Option.map_eq_some_iff.1 h1
            obtain ⟨e1, he1, rfl⟩ := Option.map_eq_some_iff.1 h2
            obtain ⟨_, _, _, _, _, _, _, _, _, _, _, _, _, _, _, e2, he2, hle⟩ := hps i p1 hp1
            rw [he1] at he2
            cases he2
            exact hle
          have hb4 : Rows.uptoBulkAll (elems.map (·.1)) + 1 ≤ Rows.uptoBulk y4.1 := by
            rw [hy4]
            simp only [Rows.uptoBulk]
            omega
          rw [weightR]
          omega
set_option maxRecDepth 100000 in
/-- A parameter that is an expression. -/
theorem regex_arg {r : Reach} {b0 : Nat} {v : Value} {d : DataW H} {p : List MemPlace} (hv : Value.okWide Try.prog W r b0 25 v) (h : DataW.Trod enc Try.prog W 0 (fun _ => true) true 25 v d p) : ∃ x, RxV W (fun _ => True) v x ∧ 2 * weightR x ≤ Rows.uptoBulk d := by
  obtain ⟨cs, rfl, hsz⟩ := okWide_struct Try.underlying25 hv
  rw [cellsRx] at hsz
  obtain ⟨v0, v1, v2, v3, v4, rfl⟩ := array5 hsz
  obtain ⟨fuel, hf⟩ := h
  exact regex_of fuel v0 v1 v2 v3 v4 _ (by simpa [Value.cells] using hf)
theorem array3 {α : Type} {cs : Array α} (h : cs.size = 3) : ∃ c0 c1 c2, cs = #[c0, c1, c2] := by
  obtain ⟨l⟩ := cs
  match l, h with
  | [c0, c1, c2], _ => exact ⟨c0, c1, c2, rfl⟩
theorem cellsNd : Try.prog.cellsOf 35 = 3 := by kernel_rfl
theorem sizeN_bulk {H : Type} : ∀ (l : List Nd) (es : List (DataW H)), l.length = es.length → (∀ (i : Nat) (x : Nd) (e : DataW H), l[i]? = some x → es[i]? = some e → 2 * sizeN x ≤ Rows.uptoBulk e) → 2 * sizeNL l ≤ Rows.uptoBulkAll es
  | [], es, _, _ => by rw [sizeNL]; omega
  | x :: l, [], h, _ => by simp at h
  | x :: l, e :: es, h, hk => by
    have h1 := hk 0 x e rfl rfl
    have h2 := sizeN_bulk l es (by simpa using h) fun i y d hy hd => hk (i + 1) y d (by simpa using hy) (by simpa using hd)
    rw [sizeNL]
    simp only [Rows.uptoBulkAll]
    omega
set_option maxRecDepth 100000 in
theorem need_of : ∀ (fuel : Nat) (v0 v1 v2 : Value) (y : DataW H × List MemPlace), DataW.trod enc Try.prog W 0 (fun _ => true) true fuel 35 [v0, v1, v2] = some y → ∃ r, NdV W (fun _ => True) (.agg #[v0, v1, v2]) r ∧ 2 * sizeN r ≤ Rows.uptoBulk y.1 := by
  intro fuel
  induction fuel using Nat.strongRecOn with
  | ind fuel ih =>
    intro v0 v1 v2 y h
    obtain ⟨xs, n, hfu, hy, hl, hlen, hall⟩ := DataW.trod_struct Try.underlying35 h
    match xs, hlen with
    | [y0, y1, y2], _ =>
      have hbk : 2 + Rows.uptoBulk y2.1 ≤ Rows.uptoBulk y.1 := by
        have k0 := one_le y0.1
        have k1 := one_le y1.1
        rw [hy]
        simp only [List.map_cons, List.map_nil, Rows.uptoBulk, Rows.uptoBulkAll]
        omega
      have h0 : DataW.trod enc Try.prog W 0 (fun _ => true) true n 3 [v0] = some y0 := hall 0 _ rfl
      have h1 : DataW.trod enc Try.prog W 0 (fun _ => true) true n 3 [v1] = some y1 := hall 1 _ rfl
      have h2 : DataW.trod enc Try.prog W 0 (fun _ => true) true n 33 [v2] = some y2 := hall 2 _ rfl
      obtain ⟨z0, q0, _, w0⟩ := DataW.trod_int Try.underlying3 h0
      obtain ⟨z1, q1, _, w1⟩ := DataW.trod_int Try.underlying3 h1
      obtain rfl : v0 = .int .i64 z0 := (List.cons.inj (q0 : [v0] = [.int .i64 z0])).1
      obtain rfl : v1 = .int .i64 z1 := (List.cons.inj (q1 : [v1] = [.int .i64 z1])).1
      rcases DataW.trod_slice Try.underlying33 h2 with ⟨hcs, _⟩ | ⟨a, len, cap, elems, rest, q, hnq, hcs, hy4, _, hll, hm, hel, hx, _⟩
      · cases hcs
        exact ⟨.mk z0 z1 [], .mk _ _ _ _ _ [] [] (NsS.nil W _) rfl (wf_i64 _ w0) (wf_i64 _ w1) (fun i v x hv => by simp at hv), by rw [sizeN, sizeNL]; omega⟩
      · cases hcs
        have hq : q < fuel := by omega
        have key : ∀ j, j < len → ∃ c0 c1 c2 g' o', a.add (j * 3) = ⟨g', o', none⟩ ∧ W.cell? ⟨g', o', none⟩ = some c0 ∧ W.cell? ⟨g', o' + 1, none⟩ = some c1 ∧ W.cell? ⟨g', o' + 2, none⟩ = some c2 ∧
            ∃ r, NdV W (fun _ => True) (.agg #[c0, c1, c2]) r ∧ ∃ e, elems[j]? = some e ∧ 2 * sizeN r ≤ Rows.uptoBulk e.1 := fun j hj => by
          have hxj := hx j hj
          rw [List.getElem?_eq_getElem (by omega)] at hxj
          obtain ⟨cs, hc, ht⟩ := Option.bind_eq_some_iff.1 hxj
          rw [cellsNd] at hc
          obtain ⟨_, hcl, hat⟩ := World.cells?_some hc
          match cs, hcl with
          | [c0, c1, c2], _ =>
            have e0 := hat 0 (by omega)
            have e1 := hat 1 (by omega)
            have e2 := hat 2 (by omega)
            obtain ⟨g', o', ha⟩ := no_spot (show W.cell? (a.add (j * 3)) = some c0 from e0)
            rw [ha] at e0 e1 e2
            obtain ⟨r, hr1, hr2⟩ := ih q hq _ _ _ _ ht
            exact ⟨c0, c1, c2, g', o', ha, e0, e1, e2, r, hr1, _, List.getElem?_eq_getElem (by omega), hr2⟩
        obtain ⟨ps, hpl, hps⟩ := list_of len (fun i (x : Value × Nd) => ∃ g o c0 c1 c2, a = ⟨g, o, none⟩ ∧ x.1 = .agg #[c0, c1, c2] ∧ W.cell? ⟨g, o + i * 3, none⟩ = some c0 ∧ W.cell? ⟨g, o + i * 3 + 1, none⟩ = some c1 ∧ W.cell? ⟨g, o + i * 3 + 2, none⟩ = some c2 ∧
            NdV W (fun _ => True) x.1 x.2 ∧ ∃ e, elems[i]? = some e ∧ 2 * sizeN x.2 ≤ Rows.uptoBulk e.1) fun i hi => by
          obtain ⟨_, _, _, g, o, ha0, _⟩ := key 0 (by omega)
          have ha : a = ⟨g, o, none⟩ := by simpa [Addr.add] using ha0
          obtain ⟨c0, c1, c2, g', o', hai, e0, e1, e2, r, hr⟩ := key i (by omega)
          have hgo : g' = g ∧ o' = o + i * 3 := by
            rw [ha] at hai
            unfold Addr.add at hai
            split at hai
            · rename_i hz
              injection hai with h1 h2
              exact ⟨h1.symm, by omega⟩
            · injection hai with h1 h2
              exact ⟨h1.symm, h2.symm⟩
          obtain ⟨rfl, rfl⟩ := hgo
          exact ⟨(_, r), g', o, c0, c1, c2, ha, rfl, e0, e1, e2, hr⟩
        refine ⟨.mk z0 z1 (ps.map Prod.snd), .mk _ _ _ _ _ (ps.map Prod.fst) _ ⟨hll, by unfold maxLen at hm; omega, by simp [hpl], fun i v hv => ?_⟩ (by simp [hpl]) (wf_i64 _ w0) (wf_i64 _ w1) (fun i v x hv hx' => ?_), ?_⟩
        · rw [List.getElem?_map] at hv
          obtain ⟨x, hx1, rfl⟩ := Option.map_eq_some_iff.1 hv
          obtain ⟨g, o, c0, c1, c2, ha, hv1, e0, e1, e2, _⟩ := hps i x hx1
          exact ⟨g, o, c0, c1, c2, by rw [ha], trivial, hv1, e0, e1, e2⟩
        · rw [List.getElem?_map] at hv hx'
          obtain ⟨p1, hp1, rfl⟩ := Option.map_eq_some_iff.1 hv
          rw [hp1] at hx'
          cases hx'
          obtain ⟨_, _, _, _, _, _, _, _, _, _, hr, _⟩ := hps i p1 hp1
          exact hr
        · have hsz := sizeN_bulk (ps.map Prod.snd) (elems.map (·.1)) (by simp [hpl, hel]) fun i x e h1 h2 => by
            rw [List.getElem?_map] at h1 h2
            obtain ⟨p1, hp1, rfl⟩ := Option.map_eq_some_iff.1 h1
            obtain ⟨e1, he1, rfl⟩ := Option.map_eq_some_iff.1 h2
            obtain ⟨_, _, _, _, _, _, _, _, _, _, _, e2, he2, hle⟩ := hps i p1 hp1
            rw [he1] at he2
            cases he2
            exact hle
          have hb4 : Rows.uptoBulkAll (elems.map (·.1)) + 1 ≤ Rows.uptoBulk y2.1 := by
            rw [hy4]
            simp only [Rows.uptoBulk]
            omega
          rw [sizeN]
          omega
set_option maxRecDepth 100000 in
/-- A parameter that is a condition. -/
theorem need_arg {r : Reach} {b0 : Nat} {v : Value} {d : DataW H} {p : List MemPlace} (hv : Value.okWide Try.prog W r b0 35 v) (h : DataW.Trod enc Try.prog W 0 (fun _ => true) true 35 v d p) : ∃ x, NdV W (fun _ => True) v x ∧ 2 * sizeN x ≤ Rows.uptoBulk d := by
  obtain ⟨cs, rfl, hsz⟩ := okWide_struct Try.underlying35 hv
  rw [cellsNd] at hsz
  obtain ⟨v0, v1, v2, rfl⟩ := array3 hsz
  obtain ⟨fuel, hf⟩ := h
  exact need_of fuel v0 v1 v2 _ (by simpa [Value.cells] using hf)

theorem reads_of {a : Addr} {len : Nat} {xs : List Value} (hl : xs.length = len) (hc : ∀ j u, xs[j]? = some u → W.cell? (a.add j) = some u) : Reads W W.heap.size (some a) len xs :=
  ⟨hl, fun j u hu => ⟨a, rfl, by
    have := World.block_lt_of_cell? _ _ (hc j u hu)
    rwa [block_add] at this, hc j u hu⟩⟩
theorem lits_len {H : Type} (zs : List Int) : zs.length ≤ Rows.uptoBulkAll (lits (H := H) .i64 zs) := by
  have h := len_bulk (lits (H := H) .i64 zs)
  rwa [show (lits (H := H) .i64 zs).length = zs.length by simp [lits]] at h
set_option maxRecDepth 100000 in
/-- A parameter that is a slice of ints. -/
theorem ints_arg {A : Option Addr} {n c : Nat} {d : DataW H} {p : List MemPlace} (h : DataW.Trod enc Try.prog W 0 (fun _ => true) true 36 (.slice A n c) d p) : ∃ l, Sl W A n c (numCells l) ∧ (∀ z ∈ l, (Lit.int .i64 z).wf = true) ∧ l.length ≤ Rows.uptoBulk d := by
  obtain ⟨fuel, hf⟩ := h
  have hf' : DataW.trod enc Try.prog W 0 (fun _ => true) true fuel 36 [.slice A n c] = some (d, p) := by simpa [Value.cells] using hf
  rcases open_ints Try.underlying36 Try.underlying3 (by kernel_rfl) hf' with ⟨hcs, _⟩ | ⟨a, len, cap, zs, hcs, _, hl, hm, hz, hx, hcell, hw⟩
  · cases hcs
    exact ⟨[], Sl.nil W, (fun z hz => by cases hz), Nat.zero_le _⟩
  · cases hcs
    have hz' : zs.length = c := by simpa using hz
    refine ⟨zs.take n, ⟨hl, by unfold maxLen at hm; omega, (fun e => by cases e), reads_of (by rw [num_len, List.length_take]; omega) ?_⟩, (fun z hz => hw z (List.mem_of_mem_take hz)), ?_⟩
    · intro j u hu
      unfold numCells at hu
      rw [List.getElem?_map, List.getElem?_take] at hu
      split at hu
      · rename_i hj
        have hjl : j < zs.length := by omega
        rw [List.getElem?_eq_getElem hjl] at hu
        simp only [Option.map_some, Option.some.injEq] at hu
        rw [hcell j hjl, ← hu]
        simp [List.getD, hjl]
      · simp at hu
    · have hd : d = .slice (lits .i64 (zs.take n)) (lits .i64 (zs.drop n)) := congrArg Prod.fst hx
      have h1 := lits_len (H := H) (zs.take n)
      rw [hd]
      simp only [Rows.uptoBulk]
      omega
end Go.Proofs.Ytlnbjdlooghpeaa
