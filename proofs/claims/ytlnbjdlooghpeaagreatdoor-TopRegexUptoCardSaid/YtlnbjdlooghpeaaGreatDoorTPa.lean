/- TopRegex: Pa. -/
import Derived.Test.YtlnbjdlooghpeaaGreatDoorTN1
import Derived.Test.YtlnbjdlooghpeaaGreatDoorTQg
namespace Go.Proofs.YtlnbjdlooghpeaaGreatDoor
open Go.RowKit
def NsV (W : World) (ok : Nat → Prop) (B : Option Addr) (m d : Nat) (l : List Nd) : Prop := NdV W ok (.agg #[.int .i64 0, .int .i64 0, .slice B m d]) (.mk 0 0 l)
section
variable {W W' : World} {ok : Nat → Prop} {B : Option Addr} {m d : Nat} {l : List Nd}
theorem NdV.subs {k g : Int} (h : NdV W ok (.agg #[.int .i64 k, .int .i64 g, .slice B m d]) (.mk k g l)) : NsV W ok B m d l := by
  cases h with
  | mk _ _ _ _ _ vs _ hvs hlen hk hg hr => exact .mk 0 0 B m d vs l hvs hlen (by omega) (by omega) hr
theorem NsV.below (h : NsV W ok B m d l) (hb : Below W.heap.size W W') : NsV W' ok B m d l := NdV.kept h hb
theorem NsV.len (h : NsV W ok B m d l) : l.length = m ∧ m ≤ d ∧ d ≤ 9223372036854775807 := by
  cases h with
  | mk _ _ _ _ _ vs _ hvs hlen hk hg hr => exact ⟨hlen, hvs.1, hvs.2.1⟩
theorem NsV.at_ (h : NsV W ok B m d l) {i : Nat} (hi : i < m) : ∃ x b o k g A n c, l[i]? = some x ∧ B = some ⟨b, o, none⟩ ∧
    W.cell? ⟨b, o + i * 3, none⟩ = some (.int .i64 k) ∧ W.cell? ⟨b, o + i * 3 + 1, none⟩ = some (.int .i64 g) ∧ W.cell? ⟨b, o + i * 3 + 2, none⟩ = some (.slice A n c) ∧ NdV W ok (.agg #[.int .i64 k, .int .i64 g, .slice A n c]) x := by
  obtain ⟨b, o, c0, c1, c2, x, hB, hx, hr, h0, h1, h2⟩ := ndv_sub h hi
  obtain ⟨k, g, A, n, c, e, -⟩ := ndv_shape hr
  injection e with e
  injection e with e
  simp only [List.cons.injEq, and_true] at e
  obtain ⟨rfl, rfl, rfl⟩ := e
  exact ⟨x, b, o, k, g, A, n, c, hx, hB, h0, h1, h2, hr⟩
end
theorem tri3_alloc (w : World) (k g : Int) (A : Option Addr) (n c : Nat) (T : TypeId) : Tri3 (w.alloc (.cells #[.int .i64 k, .int .i64 g, .slice A n c] T)) w.heap.size (.int .i64 k) (.int .i64 g) (.slice A n c) := tri3_new _ _ _ _ _
set_option maxRecDepth 20000 in
set_option maxHeartbeats 1600000 in
theorem indexN (N : Nat) (caps : Array Value) (p : Nd → Bool) {W : World} {ok : Nat → Prop} {A : Option Addr} {n c : Nat} {l : List Nd} (h : NsV W ok A n c l)
    (hcf : ∀ (xs : Array Value) (W : World), (callFunc N xs).run Tryz.prog W = .ok (.enter N xs) W)
    (hp : ∀ x ∈ l, ∀ (W' : World) (v : Value), NdV W' ok v x → Below W.heap.size W W' → Calls Tryz.prog N (#[v] ++ caps) W' fun e w' => e = .returned (.bool (p x)) ∧ Below W'.heap.size W' w')
    (q : Bool) (hq : l.any p = q) :
    Calls Tryz.prog 72 #[.slice A n c, .func (.func N) #[] caps] W fun e w' => ∃ z : Int, e = .returned (.int .i64 z) ∧ decide (0 ≤ z) = q ∧ Below W.heap.size W w' := by
  have hnc := h.len.2.1
  have hcc := h.len.2.2
  have Hlen := hide h.len.1
  have H := hide h
  have Hp := hide hp
  have Hq := hide hq
  clear h hq hp
  go_enter Tryz.func72, Tryz.ntmps72
  go_wp2
  go_loopw [8] (fun y wr => ∃ k : Nat, k ≤ n ∧ y = .int .i64 (k : Int) ∧ (l.take k).any p = false ∧ Below W.heap.size W wr) (fun y _ => n - (intOf y).toNat)
  case atStart => exact ⟨0, Nat.zero_le _, rfl, rfl, Below.refl _ _⟩
  case round =>
    obtain ⟨k, hk, rfl, hm, hb⟩ := hrel
    obtain ⟨w2, hw2⟩ : ∃ w2, w2 = wr := ⟨wr, rfl⟩
    subst hw2
    have B := hide hb
    by_cases hlt : k < n
    · obtain ⟨x, g, o, q0, q1, qA, qn, qc, hr, rfl, c0, c1, c2, rx⟩ := (H.out.below hb).at_ hlt
      have ht := any_take p hr
      rw [hm, Bool.false_or] at ht
      have HC := hide (Hp.out x (List.mem_of_getElem? hr) w2 _ rx hb)
      cases hpr : p x with
      | true =>
        have Hy := hide (show true = q by rw [← Hq.out, any_at p hr hpr])
        rw [hpr] at HC
        clear hm ht hr hpr hb rx
        go_wp2_with fail
        with_reducible refine HC.out.mono ?_
        rintro e w3 ⟨rfl, hb3⟩
        have B3 := hide (bgo B.out hb3)
        clear hb3
        go_wp2
        go_ret
        exact ⟨_, rfl, by rw [← Hy.out]; exact decide_eq_true (by omega), B3.out⟩
      | false =>
        have Hn := hide (show (l.take (k + 1)).any p = false by rw [ht, hpr])
        rw [hpr] at HC
        clear hm ht hr hpr hb rx
        go_wp2_with fail
        with_reducible refine HC.out.mono ?_
        rintro e w3 ⟨rfl, hb3⟩
        have B3 := hide (bgo B.out hb3)
        clear hb3
        go_wp2
        go_roundw
        case rel => exact ⟨k + 1, by omega, by go_num, Hn.out, B3.out⟩
        case measure => simp [intOf]; omega
    · rw [List.take_of_length_le (by rw [Hlen.out]; omega)] at hm
      have Hn := hide (show false = q by rw [← Hq.out]; exact hm.symm)
      clear hm hb
      go_wp2
      go_ret
      exact ⟨_, rfl, by rw [← Hn.out]; rfl, B.out⟩
set_option maxRecDepth 20000 in
theorem containsN (N : Nat) (caps : Array Value) (p : Nd → Bool) {W : World} {ok : Nat → Prop} {A : Option Addr} {n c : Nat} {l : List Nd} (h : NsV W ok A n c l)
    (hcf : ∀ (xs : Array Value) (W : World), (callFunc N xs).run Tryz.prog W = .ok (.enter N xs) W)
    (hp : ∀ x ∈ l, ∀ (W' : World) (v : Value), NdV W' ok v x → Below W.heap.size W W' → Calls Tryz.prog N (#[v] ++ caps) W' fun e w' => e = .returned (.bool (p x)) ∧ Below W'.heap.size W' w')
    (q : Bool) (hq : l.any p = q) :
    Calls Tryz.prog 34 #[.slice A n c, .func (.func N) #[] caps] W fun e w' => e = .returned (.bool q) ∧ Below W.heap.size W w' := by
  have HC := hide (indexN N caps p h hcf hp q hq)
  clear h hq hp
  go_enter Tryz.func34, Tryz.ntmps34
  go_wp2_with fail
  with_reducible refine HC.out.mono ?_
  rintro e w2 ⟨z, rfl, hz, hb⟩
  have Hz := hide hz
  have B := hide hb
  clear hz hb
  go_wp2
  go_ret
  exact ⟨ret_bool Hz.out, B.out⟩
theorem run58 (xs : Array Value) (W : World) : (callFunc 97 xs).run Tryz.prog W = .ok (.enter 97 xs) W := by kernel_rfl
theorem ibeq {a b : Int} (h : a = b) : (a == b) = true := beq_iff_eq.2 h
theorem ibne {a b : Int} (h : a ≠ b) : (a == b) = false := beq_eq_false_iff_ne.2 h
theorem any_not (lv : Nat) (l : List Nd) : (l.any fun x => !rightN lv x) = !l.all (rightN lv) := by
  induction l with
  | nil => rfl
  | cons x l ih => simp [ih]
set_option maxRecDepth 20000 in
set_option maxHeartbeats 1600000 in
theorem wrong58 {W : World} {ok : Nat → Prop} {v : Value} {r : Nd} (b : Nat) (L : Nat) (hL : L ≤ 40) (h0 : 0 < L) (hc : W.cell? ⟨b, 0, none⟩ = some (.int .i64 (L : Int))) (hv : NdV W ok v r)
    (IH : ∀ (W' : World) (v : Value), NdV W' ok v r → Calls Tryz.prog 55 #[v, .int .i64 ((L - 1 : Nat) : Int)] W' fun e w' => e = .returned (.bool (rightN (41 - (L - 1)) r)) ∧ Below W'.heap.size W' w') :
    Calls Tryz.prog 97 #[v, .pointer (some ⟨b, 0, none⟩)] W fun e w' => e = .returned (.bool (!rightN (41 - (L - 1)) r)) ∧ Below W.heap.size W w' := by
  obtain ⟨k, g, B, m, d, rfl, -⟩ := ndv_shape hv
  have hb := bnew (Below.refl _ W) (.cells #[.int .i64 k, .int .i64 g, .slice B m d] 32)
  have BB := hide hb
  have hlt : b < W.heap.size := World.block_lt_of_cell? _ _ hc
  have hc' := (hb.cell (p := ⟨b, 0, none⟩) hlt).trans hc
  obtain ⟨-, t0, t1, t2⟩ := tri3_alloc W k g B m d 32
  have HC := hide (IH _ _ (hv.kept hb))
  have hsub : ((L : Int) - 1) = ((L - 1 : Nat) : Int) := by omega
  obtain ⟨Q, hQ⟩ : ∃ Q, rightN (41 - (L - 1)) r = Q := ⟨_, rfl⟩
  have hl1 : L - 1 ≤ 40 := by omega
  rw [hQ] at HC ⊢
  have Hs := hide hsub
  obtain ⟨M, hM⟩ : ∃ M, L - 1 = M := ⟨_, rfl⟩
  rw [hM] at HC hsub hl1
  have hw : IntKind.i64.wrap (M : Int) = (M : Int) := IntWalk.i64_in _ (by omega)
  clear hc hv IH hQ hb Hs hM
  go_enter Tryz.func97, Tryz.ntmps97
  go_wp2_with fail
  with_reducible refine HC.out.mono ?_
  rintro e w2 ⟨rfl, hb2⟩
  have B2 := hide (bgo BB.out hb2)
  clear hb2
  go_wp2
  go_ret
  exact ⟨rfl, B2.out⟩
set_option maxRecDepth 20000 in
set_option maxHeartbeats 6400000 in
theorem rightW31 : ∀ (r : Nd) (L : Nat), L ≤ 40 → ∀ (W : World) (ok : Nat → Prop) (v : Value), NdV W ok v r →
    Calls Tryz.prog 55 #[v, .int .i64 (L : Int)] W fun e w' => e = .returned (.bool (rightN (41 - L) r)) ∧ Below W.heap.size W w' := by
  intro r
  induction r using Nd.ind with
  | h k g l ih =>
    intro L hL W ok v hv
    obtain ⟨k', g', B, m, d, rfl, hk', hg', hm', hmd, hdd, hkk, hgg⟩ := ndv_shape hv
    simp only [Nd.kind, Nd.gram, Nd.subs] at hk' hg' hm'
    subst hk' hg'
    have hb1 := bel_alloc W (.cells #[.int .i64 k', .int .i64 g', .slice B m d] 32)
    have hb2 := bnew hb1 (.cells #[.int .i64 (L : Int)] 3)
    have f1 := (tri3_alloc W k' g' B m d 32).keep (bel_alloc _ (.cells #[.int .i64 (L : Int)] 3))
    have hcL : ((W.alloc (.cells #[.int .i64 k', .int .i64 g', .slice B m d] 32)).alloc (.cells #[.int .i64 (L : Int)] 3)).cell? ⟨W.heap.size + 1, 0, none⟩ = some (.int .i64 (L : Int)) := by
      have e : W.heap.size + 1 = (W.alloc (.cells #[.int .i64 k', .int .i64 g', .slice B m d] 32)).heap.size := by simp
      rw [e, World.cell?_alloc_mark]
      rfl
    have HV := hide ((hv.kept hb2).subs)
    obtain ⟨Q, hQ⟩ : ∃ Q, rightN (41 - L) (.mk k' g' l) = Q := ⟨_, rfl⟩
    rw [hQ]
    obtain ⟨w0, hw0⟩ : ∃ w0, (W.alloc (.cells #[.int .i64 k', .int .i64 g', .slice B m d] 32)).alloc (.cells #[.int .i64 (L : Int)] 3) = w0 := ⟨_, rfl⟩
    rw [hw0] at f1 hcL HV hb2
    have F1 := hide f1
    have BB := hide hb2
    obtain ⟨_, t0, t1, t2⟩ := f1
    unfold rightN at hQ
    by_cases h0 : L = 0
    · have hL0 : ((L : Int) == 0) = true := ibeq (by omega)
      rw [if_pos (by omega)] at hQ
      have Hn := hide hQ
      clear hQ hv hb1 hb2 HV ih hm' h0
      go_enter Tryz.func55, Tryz.ntmps55
      go_wp2
      go_ret
      exact ⟨ret_bool Hn.out, BB.out⟩
    have hL0 : ((L : Int) == 0) = false := ibne (by omega)
    have Hm := hide hm'
    by_cases h1 : k' = 1
    · subst h1
      rw [if_neg (by omega), if_neg (by omega)] at hQ
      by_cases hg : g' = 0
      · have qg := ibeq hg
        rw [if_neg (by omega), if_pos (Or.inl rfl)] at hQ
        by_cases hm : m = 0
        · have qm : ((m : Int) == 0) = true := ibeq (by omega)
          rw [decide_eq_true (by omega)] at hQ
          have Hn := hide hQ
          clear hQ hv hb1 hb2 HV ih hm' hg hm
          go_enter Tryz.func55, Tryz.ntmps55
          go_wp2
          go_ret
          exact ⟨ret_bool Hn.out, BB.out⟩
        · have qm : ((m : Int) == 0) = false := ibne (by omega)
          rw [decide_eq_false (by omega)] at hQ
          have Hn := hide hQ
          clear hQ hv hb1 hb2 HV ih hm' hg hm
          go_enter Tryz.func55, Tryz.ntmps55
          go_wp2
          go_ret
          exact ⟨ret_bool Hn.out, BB.out⟩
      · have qg := ibne hg
        rw [if_pos hg] at hQ
        have Hn := hide hQ
        clear hQ hv hb1 hb2 HV ih hm' hg
        go_enter Tryz.func55, Tryz.ntmps55
        go_wp2
        go_ret
        exact ⟨ret_bool Hn.out, BB.out⟩
    have q1 := ibne h1
    by_cases h2 : k' = 2
    · subst h2
      rw [if_neg (by omega), if_neg (by omega)] at hQ
      by_cases hg : g' = 0
      · have qg := ibeq hg
        rw [if_neg (by omega), if_pos (Or.inr rfl)] at hQ
        by_cases hm : m = 0
        · have qm : ((m : Int) == 0) = true := ibeq (by omega)
          rw [decide_eq_true (by omega)] at hQ
          have Hn := hide hQ
          clear hQ hv hb1 hb2 HV ih hm' hg h1 hm
          go_enter Tryz.func55, Tryz.ntmps55
          go_wp2
          go_ret
          exact ⟨ret_bool Hn.out, BB.out⟩
        · have qm : ((m : Int) == 0) = false := ibne (by omega)
          rw [decide_eq_false (by omega)] at hQ
          have Hn := hide hQ
          clear hQ hv hb1 hb2 HV ih hm' hg h1 hm
          go_enter Tryz.func55, Tryz.ntmps55
          go_wp2
          go_ret
          exact ⟨ret_bool Hn.out, BB.out⟩
      · have qg := ibne hg
        rw [if_pos hg] at hQ
        have Hn := hide hQ
        clear hQ hv hb1 hb2 HV ih hm' hg h1
        go_enter Tryz.func55, Tryz.ntmps55
        go_wp2
        go_ret
        exact ⟨ret_bool Hn.out, BB.out⟩
    have q2 := ibne h2
    by_cases h3 : k' = 3
    · subst h3
      rw [if_neg (by omega), if_pos rfl] at hQ
      by_cases hg1 : 0 ≤ g'
      · rw [decide_eq_true hg1] at hQ
        by_cases hg2 : g' < 16777216
        · rw [decide_eq_true hg2] at hQ
          by_cases hm : m = 0
          · have qm : ((m : Int) == 0) = true := ibeq (by omega)
            rw [decide_eq_true (by omega)] at hQ
            have Hn := hide hQ
            clear hQ hv hb1 hb2 HV ih hm' h1 h2 hm
            go_enter Tryz.func55, Tryz.ntmps55
            go_wp2
            go_ret
            exact ⟨ret_bool Hn.out, BB.out⟩
          · have qm : ((m : Int) == 0) = false := ibne (by omega)
            rw [decide_eq_false (by omega)] at hQ
            have Hn := hide hQ
            clear hQ hv hb1 hb2 HV ih hm' h1 h2 hm
            go_enter Tryz.func55, Tryz.ntmps55
            go_wp2
            go_ret
            exact ⟨ret_bool Hn.out, BB.out⟩
        · rw [decide_eq_false hg2] at hQ
          have Hn := hide hQ
          clear hQ hv hb1 hb2 HV ih hm' h1 h2
          go_enter Tryz.func55, Tryz.ntmps55
          go_wp2
          go_ret
          exact ⟨ret_bool Hn.out, BB.out⟩
      · rw [decide_eq_false hg1] at hQ
        have Hn := hide hQ
        clear hQ hv hb1 hb2 HV ih hm' h1 h2
        go_enter Tryz.func55, Tryz.ntmps55
        go_wp2
        go_ret
        exact ⟨ret_bool Hn.out, BB.out⟩
    have q3 := ibne h3
    by_cases h45 : k' = 4 ∨ k' = 5
    · rw [if_neg (by omega), if_neg (by omega)] at hQ
      by_cases hg : g' = 0
      · have qg := ibeq hg
        rw [if_neg (by omega), if_neg (by omega)] at hQ
        have hcf := run58
        by_cases hm : 2 ≤ m
        · rw [decide_eq_true (by omega), Bool.and_true, rightNL_eq] at hQ
          have HC := hide (containsN 97 #[.pointer (some ⟨W.heap.size + 1, 0, none⟩)] (fun x => !rightN (41 - (L - 1)) x) HV.out hcf (fun x hx W' v' hv' hb' => wrong58 (W.heap.size + 1) L hL (by omega) ((hb'.cell (p := ⟨W.heap.size + 1, 0, none⟩) (World.block_lt_of_cell? _ _ hcL)).trans hcL) hv' fun W'' v'' h'' => ih x hx (L - 1) (by omega) W'' ok v'' h'') (!Q) (by rw [any_not, show 41 - (L - 1) = 41 - L + 1 by omega, hQ]))
          clear hQ hv hb1 hb2 HV ih hm' hg h1 h2 h3
          rcases h45 with rfl | rfl
          · go_enter Tryz.func55, Tryz.ntmps55
            go_wp2_with fail
            with_reducible refine HC.out.mono ?_
            rintro e w2 ⟨rfl, hb⟩
            have B2 := hide (bgo BB.out hb)
            clear hb
            go_wp2
            go_ret
            exact ⟨ret_bool (by simp), B2.out⟩
          · go_enter Tryz.func55, Tryz.ntmps55
            go_wp2_with fail
            with_reducible refine HC.out.mono ?_
            rintro e w2 ⟨rfl, hb⟩
            have B2 := hide (bgo BB.out hb)
            clear hb
            go_wp2
            go_ret
            exact ⟨ret_bool (by simp), B2.out⟩
        · rw [decide_eq_false (by omega), Bool.and_false] at hQ
          have Hn := hide hQ
          have hm2 : ¬ (2 : Int) ≤ (m : Int) := by omega
          clear hQ hv hb1 hb2 HV ih hm' hg h1 h2 h3
          rcases h45 with rfl | rfl
          · go_enter Tryz.func55, Tryz.ntmps55
            go_wp2
            go_ret
            exact ⟨ret_bool Hn.out, BB.out⟩
          · go_enter Tryz.func55, Tryz.ntmps55
            go_wp2
            go_ret
            exact ⟨ret_bool Hn.out, BB.out⟩
      · have qg := ibne hg
        rw [if_pos hg] at hQ
        have Hn := hide hQ
        clear hQ hv hb1 hb2 HV ih hm' hg h1 h2 h3
        rcases h45 with rfl | rfl
        · go_enter Tryz.func55, Tryz.ntmps55
          go_wp2
          go_ret
          exact ⟨ret_bool Hn.out, BB.out⟩
        · go_enter Tryz.func55, Tryz.ntmps55
          go_wp2
          go_ret
          exact ⟨ret_bool Hn.out, BB.out⟩
    have q4 := ibne (show k' ≠ 4 by omega)
    have q5 := ibne (show k' ≠ 5 by omega)
    have hQ' : false = Q := by
      rw [← hQ]
      by_cases hr : 40 < 41 - L ∨ k' < 1 ∨ 5 < k'
      · rw [if_pos hr]
      · omega
    have Hn := hide hQ'
    clear hQ hQ' hv hb1 hb2 HV ih hm' h1 h2 h3 h45
    go_enter Tryz.func55, Tryz.ntmps55
    go_wp2
    go_ret
    exact ⟨ret_bool Hn.out, BB.out⟩
set_option maxRecDepth 20000 in
theorem pright14 {W : World} {ok : Nat → Prop} {v : Value} {r : Nd} (hv : NdV W ok v r) (q : Bool) (hq : rightN 1 r = q) :
    Calls Tryz.prog 27 #[v] W fun e w' => e = .returned (.bool q) ∧ Below W.heap.size W w' := by
  obtain ⟨k, g, B, m, d, rfl, -⟩ := ndv_shape hv
  have hb := bel_alloc W (.cells #[.int .i64 k, .int .i64 g, .slice B m d] 32)
  have BB := hide hb
  obtain ⟨-, t0, t1, t2⟩ := tri3_alloc W k g B m d 32
  have HC := hide (show Calls Tryz.prog 55 #[.agg #[.int .i64 k, .int .i64 g, .slice B m d], .int .i64 40] (W.alloc (.cells #[.int .i64 k, .int .i64 g, .slice B m d] 32)) fun e w' => e = .returned (.bool q) ∧ Below (W.alloc (.cells #[.int .i64 k, .int .i64 g, .slice B m d] 32)).heap.size (W.alloc (.cells #[.int .i64 k, .int .i64 g, .slice B m d] 32)) w' from by rw [← hq]; exact rightW31 r 40 (by omega) _ _ _ (hv.kept hb))
  clear hv hq hb
  go_enter Tryz.func27, Tryz.ntmps27
  go_wp2_with fail
  with_reducible refine HC.out.mono ?_
  rintro e w2 ⟨rfl, hb2⟩
  have B2 := hide (bgo BB.out hb2)
  clear hb2
  go_wp2
  go_ret
  exact ⟨rfl, B2.out⟩
end Go.Proofs.YtlnbjdlooghpeaaGreatDoor
