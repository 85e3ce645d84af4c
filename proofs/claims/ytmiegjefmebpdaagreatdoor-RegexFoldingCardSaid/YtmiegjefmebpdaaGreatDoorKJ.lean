/- Expressions that the call makes: a set's, those without parts, rows of expressions of the call's own; no function of a program. -/
import Derived.Test.YtmiegjefmebpdaaGreatDoorKI
namespace Go.Proofs.YtmiegjefmebpdaaGreatDoor
open Go.RowKit
open Go.ChangeShapes (block_add)

section
variable {W W' : World} {ok : Nat → Prop}
theorem RgS.nil (W : World) (ok : Nat → Prop) : RgS W ok none 0 0 [] := ⟨Nat.le_refl _, by omega, rfl, fun i r h => by simp at h⟩
theorem VsS.nil (W : World) (ok : Nat → Prop) : VsS W ok none 0 0 [] := ⟨Nat.le_refl _, by omega, rfl, fun i r h => by simp at h⟩
theorem rxv_set {A : Option Addr} {n c : Nat} {set : List (UInt8 × UInt8)} (h : RgS W ok A n c set) : RxV W ok (.agg #[.int .i64 1, .slice A n c, .int .i64 0, .int .i64 0, .slice none 0 0]) (.mk 1 set 0 0 []) :=
  .mk 1 0 0 A none n c 0 0 set [] [] h (VsS.nil W ok) rfl (by omega) (by omega) (by omega) fun i v x hv => by simp at hv
theorem rxv_kind (k : Int) (hk : 0 ≤ k ∧ k ≤ 9) : RxV W ok (.agg #[.int .i64 k, .slice none 0 0, .int .i64 0, .int .i64 0, .slice none 0 0]) (.mk k [] 0 0 []) :=
  .mk k 0 0 none none 0 0 0 0 [] [] [] (RgS.nil W ok) (VsS.nil W ok) rfl (by omega) (by omega) (by omega) fun i v x hv => by simp at hv
theorem rxv_zero : RxV W ok (.agg #[.int .i64 0, .slice none 0 0, .int .i64 0, .int .i64 0, .slice none 0 0]) rx0 := rxv_kind 0 (by omega)
theorem RxV.agg {v : Value} {r : Rx} (h : RxV W ok v r) : ∃ c0 c1 c2 c3 c4, v = .agg #[c0, c1, c2, c3, c4] ∧ c0.oneCell' = true ∧ c1.oneCell' = true ∧ c2.oneCell' = true ∧ c3.oneCell' = true ∧ c4.oneCell' = true := by
  cases h
  exact ⟨_, _, _, _, _, rfl, rfl, rfl, rfl, rfl, rfl⟩
end

/-- v is a row of the call's own of the expressions xs; their own memory lies in other blocks. -/
def OwnX (W : World) (B : Nat) (v : Value) (xs : List Rx) : Prop :=
  ∃ cs vs : List Value, W.ownsRow B 25 5 v xs.length cs ∧ vs.length = xs.length ∧
    (∀ (i : Nat) (u : Value), vs[i]? = some u → ∃ c0 c1 c2 c3 c4, u = .agg #[c0, c1, c2, c3, c4] ∧ cs[i * 5]? = some c0 ∧ cs[i * 5 + 1]? = some c1 ∧ cs[i * 5 + 2]? = some c2 ∧ cs[i * 5 + 3]? = some c3 ∧ cs[i * 5 + 4]? = some c4) ∧
    ∀ (i : Nat) (u : Value) (x : Rx), vs[i]? = some u → xs[i]? = some x → RxV W (fun g => B ≤ g ∧ v.ownBlock ≠ some g) u x
theorem OwnX.nil (W : World) (B : Nat) : OwnX W B (.slice none 0 0) [] := ⟨[], [], World.ownsRow_nil _ _ _ _, rfl, fun i u h => by simp at h, fun i u x h => by simp at h⟩
theorem OwnX.below {W W' : World} {B : Nat} {v : Value} {xs : List Rx} (h : OwnX W B v xs) (hb : Below W.heap.size W W') : OwnX W' B v xs := by
  obtain ⟨cs, vs, h1, h2, h3, h4⟩ := h
  exact ⟨cs, vs, owns_below' h1 hb, h2, h3, fun i u x hu hx => (h4 i u x hu hx).kept hb⟩
theorem OwnX.mono {W : World} {B B' : Nat} {v : Value} {xs : List Rx} (h : OwnX W B v xs) (hb : B' ≤ B) : OwnX W B' v xs := by
  obtain ⟨cs, vs, h1, h2, h3, h4⟩ := h
  exact ⟨cs, vs, owns_mono h1 hb, h2, h3, fun i u x hu hx => (h4 i u x hu hx).map (fun _ _ _ => rfl) fun g hg _ => ⟨Nat.le_trans hb hg.1, hg.2⟩⟩
theorem OwnX.s {W : World} {B : Nat} {v : Value} {xs : List Rx} (h : OwnX W B v xs) : ∃ (A : Option Addr) (m d : Nat) (vs : List Value), v = .slice A m d ∧ m = xs.length ∧ VsS W (fun g => B ≤ g) A m d vs ∧ ∀ (i : Nat) (u : Value) (x : Rx), vs[i]? = some u → xs[i]? = some x → RxV W (fun g => B ≤ g) u x := by
  obtain ⟨cs, vs, h1, h2, h3, h4⟩ := h
  have h4' : ∀ (i : Nat) (u : Value) (x : Rx), vs[i]? = some u → xs[i]? = some x → RxV W (fun g => B ≤ g) u x := fun i u x hu hx => (h4 i u x hu hx).map (fun _ _ _ => rfl) fun g hg _ => hg.1
  rcases h1.2 with ⟨rfl, h0⟩ | ⟨g, cap, cur, rfl, hb, hg, hc, hm, r⟩
  · obtain rfl : xs = [] := List.eq_nil_of_length_eq_zero h0
    obtain rfl : vs = [] := List.eq_nil_of_length_eq_zero h2
    exact ⟨none, 0, 0, [], rfl, rfl, VsS.nil _ _, h4'⟩
  · refine ⟨_, xs.length, cap, vs, rfl, rfl, ⟨hc, by unfold maxLen at hm; omega, h2, fun i u hu => ?_⟩, h4'⟩
    obtain ⟨c0, c1, c2, c3, c4, e, e0, e1, e2, e3, e4⟩ := h3 i u hu
    have hi := (List.getElem?_eq_some_iff.1 hu).1
    have key : ∀ j, j < 5 → W.cell? ⟨g, 0 + i * 5 + j, none⟩ = cs[i * 5 + j]? := fun j hj => by
      rw [Nat.zero_add]
      exact h1.cellAt (i * 5 + j) (by omega)
    exact ⟨g, 0, c0, c1, c2, c3, c4, rfl, hb, e, (key 0 (by omega)).trans e0, (key 1 (by omega)).trans e1, (key 2 (by omega)).trans e2, (key 3 (by omega)).trans e3, (key 4 (by omega)).trans e4⟩
/-- A sequence, alternatives: the expressions of a row. -/
theorem OwnX.rx {W : World} {B : Nat} {v : Value} {xs : List Rx} (h : OwnX W B v xs) (k : Int) (hk : 0 ≤ k ∧ k ≤ 9) : RxV W (fun g => B ≤ g) (.agg #[.int .i64 k, .slice none 0 0, .int .i64 0, .int .i64 0, v]) (.mk k [] 0 0 xs) := by
  obtain ⟨A, m, d, vs, rfl, hm, hvs, hr⟩ := h.s
  exact .mk k 0 0 none A 0 0 m d [] vs xs (RgS.nil W _) hvs hm.symm (by omega) (by omega) (by omega) hr
/-- A repetition of what is in a row of one. -/
theorem OwnX.rep {W : World} {B : Nat} {v : Value} {x : Rx} (h : OwnX W B v [x]) (a b : Int) (ha : -1 ≤ a ∧ a ≤ 1000) (hb : -1 ≤ b ∧ b ≤ 1000) : RxV W (fun g => B ≤ g) (.agg #[.int .i64 4, .slice none 0 0, .int .i64 a, .int .i64 b, v]) (repS x a b) := by
  obtain ⟨A, m, d, vs, rfl, hm, hvs, hr⟩ := h.s
  exact .mk 4 a b none A 0 0 m d [] vs [x] (RgS.nil W _) hvs hm.symm (by omega) (by omega) (by omega) hr
/-- A row of one expression, written out. -/
theorem ownX_lit (w : World) (c0 c1 c2 c3 c4 : Value) (x : Rx) (B : Nat) (hB : B ≤ w.heap.size) (h : RxV w (fun g => B ≤ g) (.agg #[c0, c1, c2, c3, c4]) x) : OwnX (w.alloc (.cells #[c0, c1, c2, c3, c4] 25)) B (.slice (some ⟨w.heap.size, 0, none⟩) 1 1) [x] := by
  refine ⟨[c0, c1, c2, c3, c4], [.agg #[c0, c1, c2, c3, c4]], ⟨rfl, Or.inr ⟨w.heap.size, 1, #[c0, c1, c2, c3, c4], rfl, hB, heap_alloc_new w _, Nat.le_refl _, by unfold maxLen; omega, rfl, rfl⟩⟩, rfl, fun i u hu => ?_, fun i u y hu hy => ?_⟩
  · match i, hu with
    | 0, hu =>
      simp at hu
      exact ⟨c0, c1, c2, c3, c4, hu.symm, rfl, rfl, rfl, rfl, rfl⟩
  · match i, hu, hy with
    | 0, hu, hy =>
      simp at hu hy
      subst hu hy
      refine h.map (fun p _ hp => World.cell?_alloc_lt w _ p hp) fun g hg hlt => ⟨hg, fun e => ?_⟩
      simp only [Value.ownBlock, Option.some.injEq] at e
      omega

theorem c1_five (w : World) (c0 c1 c2 c3 c4 : Value) (T : TypeId) : ∀ (j : Nat) (u : Value), [c0, c1, c2, c3, c4][j]? = some u → (w.alloc (.cells #[c0, c1, c2, c3, c4] T)).cell? ((⟨w.heap.size, 0, none⟩ : Addr).add j) = some u := by
  intro j u h
  match j, h with
  | 0, h => simp at h; subst h; rw [addr0, World.cell?_alloc_mark]; rfl
  | 1, h => simp at h; subst h; rw [addr0, World.cell?_alloc_mark]; rfl
  | 2, h => simp at h; subst h; rw [addr0, World.cell?_alloc_mark]; rfl
  | 3, h => simp at h; subst h; rw [addr0, World.cell?_alloc_mark]; rfl
  | 4, h => simp at h; subst h; rw [addr0, World.cell?_alloc_mark]; rfl
section
variable {P : Program} {ops : Array Oper} {rest : List Oper} {o : Oper} {a : Act} {Q : Exit → Act → World → Prop}
/-- l = append(l, re), l a row of expressions of the call's own -/
theorem wp_push_rx (hgd : o.guard = none) (s x : Operand) (t : TypeId) (ho : o.op = .call { callee := .builtin .append, args := #[s, x], argTypes := #[t, t] })
    (i : TypeInfo) (z : Value) (bytes : Nat) (ht : P.underlying t = some (.slice 25)) (hi : P.info? 25 = some i) (hz : i.zero = some z) (hsize : i.size = 5) (hby : i.bytes = bytes) (hzs : z.cells.size = 5)
    (B : Nat) (v : Value) (xs : List Rx) (hs : a.eval s = v) (w0 : World) (c0 c1 c2 c3 c4 : Value) (r : Rx) (hown : OwnX w0 B v xs) (hB : B ≤ w0.heap.size) (H : Nat) (hH : H = w0.heap.size)
    (hx : a.eval x = .slice (some ⟨H, 0, none⟩) 1 1) (hr : RxV w0 (fun g => B ≤ g ∧ v.ownBlock ≠ some g) (.agg #[c0, c1, c2, c3, c4]) r) (hlen : (xs.length + 1) * bytes ≤ 140737488355328) (h63 : xs.length + 1 ≤ maxLen)
    (h : ∀ v' w', OwnX w' B v' (xs ++ [r]) → Below B w0 w' → wpList P ops Q rest (a.put o.dst v') w') : wpList P ops Q (o :: rest) a (w0.alloc (.cells #[c0, c1, c2, c3, c4] 25)) := by
  subst hH
  obtain ⟨cs, vs, hown, hvl, h3, h4⟩ := hown
  have hone : ∀ u ∈ [c0, c1, c2, c3, c4], u.oneCell' = true := by
    obtain ⟨d0, d1, d2, d3, d4, e, h0, h1, h2, h3', h4'⟩ := hr.agg
    injection e with e
    injection e with e
    simp only [List.cons.injEq, and_true] at e
    obtain ⟨rfl, rfl, rfl, rfl, rfl⟩ := e
    intro u hu
    simp only [List.mem_cons, List.not_mem_nil, or_false] at hu
    rcases hu with rfl | rfl | rfl | rfl | rfl <;> assumption
  refine wpList_append_own_at _ hgd s x t ho B 25 i z 5 bytes ht hi hz hsize hby hzs (by decide) v xs.length cs hs (hown.alloc _) ⟨w0.heap.size, 0, none⟩ 1 1 [c0, c1, c2, c3, c4] hx rfl (c1_five _ _ _ _ _ _ _) hone h63 hlen (by simp; omega) ?_
  intro v' w' hown' hg _ hat
  have hF : Far w0 w' v v' := by
    refine ⟨by have := hg.size; simp at this; omega, fun g hlt hne => ⟨?_, ?_⟩⟩
    · exact (hg.block g (by simp; omega) (fun e => hne e.symm)).trans (((Below.refl w0.heap.size w0).alloc (Nat.le_refl _) _).block g hlt)
    · rcases hat with hat | hat
      · rw [hat]; exact hne
      · rw [hat]; intro e; injection e with e; simp at e; omega
  have hmap : ∀ (u : Value) (y : Rx), RxV w0 (fun g => B ≤ g ∧ v.ownBlock ≠ some g) u y → RxV w' (fun g => B ≤ g ∧ v'.ownBlock ≠ some g) u y := fun u y hy =>
    hy.map (fun p hp hlt => World.cell?_of_block (hF.2 p.block hlt hp.2).1) fun g hg hlt => ⟨hg.1, (hF.2 g hlt hg.2).2⟩
  have hcl : cs.length = xs.length * 5 := hown.1
  refine h v' w' ⟨cs ++ [c0, c1, c2, c3, c4], vs ++ [.agg #[c0, c1, c2, c3, c4]], by rw [List.length_append]; exact hown', by simp [hvl], fun j u hu => ?_, fun j u y hu hy => ?_⟩ ?_
  · by_cases hj : j < vs.length
    · rw [List.getElem?_append_left hj] at hu
      obtain ⟨d0, d1, d2, d3, d4, e, e0, e1, e2, e3, e4⟩ := h3 j u hu
      have key : ∀ (q : Nat) (d : Value), q < 5 → cs[j * 5 + q]? = some d → (cs ++ [c0, c1, c2, c3, c4])[j * 5 + q]? = some d := fun q d hq hd => by
        rw [List.getElem?_append_left (by omega)]; exact hd
      exact ⟨d0, d1, d2, d3, d4, e, key 0 _ (by omega) e0, key 1 _ (by omega) e1, key 2 _ (by omega) e2, key 3 _ (by omega) e3, key 4 _ (by omega) e4⟩
    · rw [List.getElem?_append_right (by omega)] at hu
      have hj' : j = vs.length := by
        have := (List.getElem?_eq_some_iff.1 hu).1
        simp at this
        omega
      subst hj'
      rw [Nat.sub_self] at hu
      cases hu
      have key : ∀ q, q < 5 → (cs ++ [c0, c1, c2, c3, c4])[vs.length * 5 + q]? = [c0, c1, c2, c3, c4][q]? := fun q hq => by
        rw [List.getElem?_append_right (by omega), show vs.length * 5 + q - cs.length = q by omega]
      exact ⟨c0, c1, c2, c3, c4, rfl, key 0 (by omega), key 1 (by omega), key 2 (by omega), key 3 (by omega), key 4 (by omega)⟩
  · by_cases hj : j < vs.length
    · rw [List.getElem?_append_left hj] at hu
      rw [List.getElem?_append_left (by omega)] at hy
      exact hmap u y (h4 j u y hu hy)
    · rw [List.getElem?_append_right (by omega)] at hu hy
      have hj' : j = vs.length := by
        have := (List.getElem?_eq_some_iff.1 hu).1
        simp at this
        omega
      subst hj'
      rw [Nat.sub_self] at hu
      rw [hvl, Nat.sub_self] at hy
      cases hu
      cases hy
      exact hmap _ _ hr
  · exact ((Below.refl B w0).alloc hB _).grown hg (by simp; omega) fun k hk => (hown.lt k hk).1
end

end Go.Proofs.YtmiegjefmebpdaaGreatDoor
