/- TopRegex: Mn. -/
import Derived.Test.YtlnbjdlooghpeaaGreatDoorTBa
import Derived.Test.YtlnbjdlooghpeaaGreatDoorTNg
namespace Go.Proofs.YtlnbjdlooghpeaaGreatDoor
open Go.RowKit
open Go.ChangeShapes (block_add)
def NsS (W : World) (ok : Nat → Prop) (B : Option Addr) (m d : Nat) (vs : List Value) : Prop :=
  m ≤ d ∧ d ≤ 9223372036854775807 ∧ vs.length = m ∧ ∀ i v, vs[i]? = some v → ∃ g o c0 c1 c2, B = some ⟨g, o, none⟩ ∧ ok g ∧ v = .agg #[c0, c1, c2] ∧
    W.cell? ⟨g, o + i * 3, none⟩ = some c0 ∧ W.cell? ⟨g, o + i * 3 + 1, none⟩ = some c1 ∧ W.cell? ⟨g, o + i * 3 + 2, none⟩ = some c2
inductive NdV (W : World) (ok : Nat → Prop) : Value → Nd → Prop
  | mk (k g : Int) (B : Option Addr) (m d : Nat) (vs : List Value) (l : List Nd) (hvs : NsS W ok B m d vs) (hlen : l.length = m)
      (hk : -9223372036854775808 ≤ k ∧ k ≤ 9223372036854775807) (hg : -9223372036854775808 ≤ g ∧ g ≤ 9223372036854775807)
      (hr : ∀ (i : Nat) (v : Value) (x : Nd), vs[i]? = some v → l[i]? = some x → NdV W ok v x) : NdV W ok (.agg #[.int .i64 k, .int .i64 g, .slice B m d]) (.mk k g l)
section
variable {W W' : World} {ok ok' : Nat → Prop}
theorem NsS.map {B : Option Addr} {m d : Nat} {vs : List Value} (h : NsS W ok B m d vs) (hc : ∀ (p : Addr), ok p.block → p.block < W.heap.size → W'.cell? p = W.cell? p) (ho : ∀ g, ok g → g < W.heap.size → ok' g) : NsS W' ok' B m d vs := by
  refine ⟨h.1, h.2.1, h.2.2.1, fun i v hv => ?_⟩
  obtain ⟨g, o, c0, c1, c2, hB, hg, e, h0, h1, h2⟩ := h.2.2.2 i v hv
  have hlt : g < W.heap.size := World.block_lt_of_cell? _ _ h0
  exact ⟨g, o, c0, c1, c2, hB, ho g hg hlt, e, (hc ⟨g, _, none⟩ hg hlt).trans h0, (hc ⟨g, _, none⟩ hg hlt).trans h1, (hc ⟨g, _, none⟩ hg hlt).trans h2⟩
theorem NdV.map {v : Value} {r : Nd} (h : NdV W ok v r) (hc : ∀ (p : Addr), ok p.block → p.block < W.heap.size → W'.cell? p = W.cell? p) (ho : ∀ g, ok g → g < W.heap.size → ok' g) : NdV W' ok' v r := by
  induction h with
  | mk k g B m d vs l hvs hlen hk hg hr ih => exact .mk k g B m d vs l (hvs.map hc ho) hlen hk hg ih
theorem NdV.kept {v : Value} {r : Nd} (h : NdV W ok v r) (hb : Below W.heap.size W W') : NdV W' ok v r := h.map (fun _ _ hp => hb.cell hp) fun _ h _ => h
theorem NdV.old {v : Value} {r : Nd} (h : NdV W ok v r) : NdV W (fun g => ok g ∧ g < W.heap.size) v r := h.map (fun _ _ _ => rfl) fun _ h hl => ⟨h, hl⟩
theorem NdV.weak {v : Value} {r : Nd} (h : NdV W ok v r) (ho : ∀ g, ok g → ok' g) : NdV W ok' v r := h.map (fun _ _ _ => rfl) fun g h _ => ho g h
theorem NsS.at_ {B : Option Addr} {m d : Nat} {vs : List Value} (h : NsS W ok B m d vs) {i : Nat} (hi : i < m) :
    ∃ g o c0 c1 c2, B = some ⟨g, o, none⟩ ∧ vs[i]? = some (.agg #[c0, c1, c2]) ∧
    W.cell? ⟨g, o + i * 3, none⟩ = some c0 ∧ W.cell? ⟨g, o + i * 3 + 1, none⟩ = some c1 ∧ W.cell? ⟨g, o + i * 3 + 2, none⟩ = some c2 := by
  have hl : i < vs.length := by rw [h.2.2.1]; exact hi
  obtain ⟨g, o, c0, c1, c2, hB, _, e, h0⟩ := h.2.2.2 i _ (List.getElem?_eq_getElem hl)
  exact ⟨g, o, c0, c1, c2, hB, by rw [List.getElem?_eq_getElem hl, e], h0⟩
theorem NsS.nil (W : World) (ok : Nat → Prop) : NsS W ok none 0 0 [] := ⟨Nat.le_refl _, by omega, rfl, fun i r h => by simp at h⟩
theorem ndv_leaf (k g : Int) (hk : 0 ≤ k ∧ k ≤ 9) (hg : -9223372036854775808 ≤ g ∧ g ≤ 9223372036854775807) : NdV W ok (.agg #[.int .i64 k, .int .i64 g, .slice none 0 0]) (.mk k g []) :=
  .mk k g none 0 0 [] [] (NsS.nil W ok) rfl (by omega) hg fun i v x hv => by simp at hv
theorem NdV.agg {v : Value} {r : Nd} (h : NdV W ok v r) : ∃ c0 c1 c2, v = .agg #[c0, c1, c2] ∧ c0.oneCell' = true ∧ c1.oneCell' = true ∧ c2.oneCell' = true := by
  cases h
  exact ⟨_, _, _, rfl, rfl, rfl, rfl⟩
theorem ndv_shape {v : Value} {r : Nd} (h : NdV W ok v r) : ∃ (k g : Int) (B : Option Addr) (m d : Nat), v = .agg #[.int .i64 k, .int .i64 g, .slice B m d] ∧ k = r.kind ∧ g = r.gram ∧ m = r.subs.length ∧ m ≤ d ∧ d ≤ 9223372036854775807 ∧
    (-9223372036854775808 ≤ k ∧ k ≤ 9223372036854775807) ∧ (-9223372036854775808 ≤ g ∧ g ≤ 9223372036854775807) := by
  cases h with
  | mk k g B m d vs l hvs hlen hk hg hr => exact ⟨k, g, B, m, d, rfl, rfl, rfl, hlen.symm, hvs.1, hvs.2.1, hk, hg⟩
theorem ndv_sub {k g : Int} {B : Option Addr} {m d : Nat} {r : Nd} (h : NdV W ok (.agg #[.int .i64 k, .int .i64 g, .slice B m d]) r) {i : Nat} (hi : i < m) :
    ∃ b o c0 c1 c2 x, B = some ⟨b, o, none⟩ ∧ r.subs[i]? = some x ∧ NdV W ok (.agg #[c0, c1, c2]) x ∧
    W.cell? ⟨b, o + i * 3, none⟩ = some c0 ∧ W.cell? ⟨b, o + i * 3 + 1, none⟩ = some c1 ∧ W.cell? ⟨b, o + i * 3 + 2, none⟩ = some c2 := by
  cases h with
  | mk _ _ _ _ _ vs l hvs hlen hk hg hr =>
    obtain ⟨b, o, c0, c1, c2, hB, hv, h0, h1, h2⟩ := hvs.at_ hi
    have hx : l[i]? = some l[i] := List.getElem?_eq_getElem (by omega)
    exact ⟨b, o, c0, c1, c2, _, hB, hx, hr i _ _ hv hx, h0, h1, h2⟩
end
def Tri3 (w : World) (b : Nat) (c0 c1 c2 : Value) : Prop :=
  b < w.heap.size ∧ w.cell? ⟨b, 0, none⟩ = some c0 ∧ w.cell? ⟨b, 1, none⟩ = some c1 ∧ w.cell? ⟨b, 2, none⟩ = some c2
theorem tri3_new (w : World) (c0 c1 c2 : Value) (T : TypeId) : Tri3 (w.alloc (.cells #[c0, c1, c2] T)) w.heap.size c0 c1 c2 := by
  refine ⟨by simp, ?_, ?_, ?_⟩ <;> (rw [World.cell?_alloc_mark]; rfl)
theorem Tri3.keep {w w' : World} {b : Nat} {c0 c1 c2 : Value} (h : Tri3 w b c0 c1 c2) (hb : Below w.heap.size w w') : Tri3 w' b c0 c1 c2 := by
  obtain ⟨h0, h1, h2, h3⟩ := h
  have key : ∀ (k : Nat) (u : Value), w.cell? ⟨b, k, none⟩ = some u → w'.cell? ⟨b, k, none⟩ = some u := fun k u hu => (hb.cell (p := ⟨b, k, none⟩) h0).trans hu
  exact ⟨Nat.lt_of_lt_of_le h0 hb.size, key _ _ h1, key _ _ h2, key _ _ h3⟩
def OwnN (W : World) (B : Nat) (ok : Nat → Prop) (v : Value) (xs : List Nd) : Prop :=
  ∃ cs vs : List Value, W.ownsRow B 32 3 v xs.length cs ∧ vs.length = xs.length ∧
    (∀ (i : Nat) (u : Value), vs[i]? = some u → ∃ c0 c1 c2, u = .agg #[c0, c1, c2] ∧ cs[i * 3]? = some c0 ∧ cs[i * 3 + 1]? = some c1 ∧ cs[i * 3 + 2]? = some c2) ∧
    ∀ (i : Nat) (u : Value) (x : Nd), vs[i]? = some u → xs[i]? = some x → NdV W (fun g => ok g ∧ v.ownBlock ≠ some g) u x
theorem OwnN.nil (W : World) (B : Nat) (ok : Nat → Prop) : OwnN W B ok (.slice none 0 0) [] := ⟨[], [], World.ownsRow_nil _ _ _ _, rfl, fun i u h => by simp at h, fun i u x h => by simp at h⟩
theorem OwnN.below {W W' : World} {B : Nat} {ok : Nat → Prop} {v : Value} {xs : List Nd} (h : OwnN W B ok v xs) (hb : Below W.heap.size W W') : OwnN W' B ok v xs := by
  obtain ⟨cs, vs, h1, h2, h3, h4⟩ := h
  exact ⟨cs, vs, owns_below' h1 hb, h2, h3, fun i u x hu hx => (h4 i u x hu hx).kept hb⟩
theorem OwnN.lt {W : World} {B : Nat} {ok : Nat → Prop} {v : Value} {xs : List Nd} (h : OwnN W B ok v xs) {g : Nat} (hg : v.ownBlock = some g) : B ≤ g ∧ g < W.heap.size := by
  obtain ⟨cs, vs, h1, -⟩ := h
  exact World.ownsRow.lt h1 g hg
theorem OwnN.s {W : World} {B : Nat} {ok : Nat → Prop} {v : Value} {xs : List Nd} (h : OwnN W B ok v xs) : ∃ (A : Option Addr) (m d : Nat) (vs : List Value), v = .slice A m d ∧ m = xs.length ∧ NsS W (fun g => v.ownBlock = some g) A m d vs ∧ ∀ (i : Nat) (u : Value) (x : Nd), vs[i]? = some u → xs[i]? = some x → NdV W (fun g => ok g ∧ v.ownBlock ≠ some g) u x := by
  obtain ⟨cs, vs, h1, h2, h3, h4⟩ := h
  rcases h1.2 with ⟨rfl, h0⟩ | ⟨g, cap, cur, rfl, hb, hg, hc, hm, r⟩
  · obtain rfl : xs = [] := List.eq_nil_of_length_eq_zero h0
    obtain rfl : vs = [] := List.eq_nil_of_length_eq_zero h2
    exact ⟨none, 0, 0, [], rfl, rfl, NsS.nil _ _, h4⟩
  · refine ⟨_, xs.length, cap, vs, rfl, rfl, ⟨hc, by unfold maxLen at hm; omega, h2, fun i u hu => ?_⟩, h4⟩
    obtain ⟨c0, c1, c2, e, e0, e1, e2⟩ := h3 i u hu
    have hi := (List.getElem?_eq_some_iff.1 hu).1
    have key : ∀ j, j < 3 → W.cell? ⟨g, 0 + i * 3 + j, none⟩ = cs[i * 3 + j]? := fun j hj => by
      rw [Nat.zero_add]
      exact h1.cellAt (i * 3 + j) (by omega)
    exact ⟨g, 0, c0, c1, c2, rfl, rfl, e, (key 0 (by omega)).trans e0, (key 1 (by omega)).trans e1, (key 2 (by omega)).trans e2⟩
theorem OwnN.nd {W : World} {B : Nat} {ok : Nat → Prop} {v : Value} {xs : List Nd} (h : OwnN W B ok v xs) (k : Int) (hk : 0 ≤ k ∧ k ≤ 9) : NdV W (fun g => ok g ∨ (B ≤ g)) (.agg #[.int .i64 k, .int .i64 0, v]) (.mk k 0 xs) := by
  have hlt := fun g hg => (h.lt (g := g) hg).1
  obtain ⟨A, m, d, vs, rfl, hm, hvs, hr⟩ := h.s
  exact .mk k 0 A m d vs xs (hvs.map (fun _ _ _ => rfl) fun g hg _ => Or.inr (hlt g hg)) hm.symm (by omega) (by omega) fun i u x hu hx => (hr i u x hu hx).weak fun g hg => Or.inl hg.1
theorem OwnN.get {W : World} {B : Nat} {ok : Nat → Prop} {A : Option Addr} {m d : Nat} {xs : List Nd} (h : OwnN W B ok (.slice A m d) xs) {i : Nat} (hi : i < m) :
    ∃ b o c0 c1 c2 x, A = some ⟨b, o, none⟩ ∧ xs[i]? = some x ∧ NdV W (fun g => ok g ∧ (Value.slice A m d).ownBlock ≠ some g) (.agg #[c0, c1, c2]) x ∧
    W.cell? ⟨b, o + i * 3, none⟩ = some c0 ∧ W.cell? ⟨b, o + i * 3 + 1, none⟩ = some c1 ∧ W.cell? ⟨b, o + i * 3 + 2, none⟩ = some c2 := by
  obtain ⟨A', m', d', vs, e, hm, hvs, hr⟩ := h.s
  cases e
  obtain ⟨b, o, c0, c1, c2, hB, hv, h0, h1, h2⟩ := hvs.at_ hi
  have hx : xs[i]? = some xs[i] := List.getElem?_eq_getElem (by omega)
  exact ⟨b, o, c0, c1, c2, _, hB, hx, hr i _ _ hv hx, h0, h1, h2⟩
theorem c1_tri (w : World) (c0 c1 c2 : Value) (T : TypeId) : ∀ (j : Nat) (u : Value), [c0, c1, c2][j]? = some u → (w.alloc (.cells #[c0, c1, c2] T)).cell? ((⟨w.heap.size, 0, none⟩ : Addr).add j) = some u := by
  intro j u h
  match j, h with
  | 0, h => simp at h; subst h; rw [addr0, World.cell?_alloc_mark]; rfl
  | 1, h => simp at h; subst h; rw [addr0, World.cell?_alloc_mark]; rfl
  | 2, h => simp at h; subst h; rw [addr0, World.cell?_alloc_mark]; rfl
section
variable {P : Program} {ops : Array Oper} {rest : List Oper} {o : Oper} {a : Act} {Q : Exit → Act → World → Prop}
theorem wp_push_nd (hgd : o.guard = none) (s x : Operand) (t : TypeId) (ho : o.op = .call { callee := .builtin .append, args := #[s, x], argTypes := #[t, t] })
    (i : TypeInfo) (z : Value) (bytes : Nat) (ht : P.underlying t = some (.slice 32)) (hi : P.info? 32 = some i) (hz : i.zero = some z) (hsize : i.size = 3) (hby : i.bytes = bytes) (hzs : z.cells.size = 3)
    (B : Nat) (ok : Nat → Prop) (v : Value) (xs : List Nd) (hs : a.eval s = v) (w0 : World) (c0 c1 c2 : Value) (r : Nd) (hown : OwnN w0 B ok v xs) (hB : B ≤ w0.heap.size) (H : Nat) (hH : H = w0.heap.size)
    (hx : a.eval x = .slice (some ⟨H, 0, none⟩) 1 1) (hr : NdV w0 (fun g => ok g ∧ v.ownBlock ≠ some g) (.agg #[c0, c1, c2]) r) (hlen : (xs.length + 1) * bytes ≤ 140737488355328) (h63 : xs.length + 1 ≤ maxLen)
    (h : ∀ v' w', OwnN w' B ok v' (xs ++ [r]) → Below B w0 w' → Far w0 w' v v' → wpList P ops Q rest (a.put o.dst v') w') : wpList P ops Q (o :: rest) a (w0.alloc (.cells #[c0, c1, c2] 32)) := by
  subst hH
  obtain ⟨cs, vs, hown, hvl, h3, h4⟩ := hown
  have hone : ∀ u ∈ [c0, c1, c2], u.oneCell' = true := by
    obtain ⟨d0, d1, d2, e, h0, h1, h2⟩ := hr.agg
    injection e with e
    injection e with e
    simp only [List.cons.injEq, and_true] at e
    obtain ⟨rfl, rfl, rfl⟩ := e
    intro u hu
    simp only [List.mem_cons, List.not_mem_nil, or_false] at hu
    rcases hu with rfl | rfl | rfl <;> assumption
  refine wpList_append_own_at _ hgd s x t ho B 32 i z 3 bytes ht hi hz hsize hby hzs (by decide) v xs.length cs hs (hown.alloc _) ⟨w0.heap.size, 0, none⟩ 1 1 [c0, c1, c2] hx rfl (c1_tri _ _ _ _ _) hone h63 hlen (by simp; omega) ?_
  intro v' w' hown' hg _ hat
  have hF : Far w0 w' v v' := by
    refine ⟨by have := hg.size; simp at this; omega, fun g hlt hne => ⟨?_, ?_⟩⟩
    · exact (hg.block g (by simp; omega) (fun e => hne e.symm)).trans (((Below.refl w0.heap.size w0).alloc (Nat.le_refl _) _).block g hlt)
    · rcases hat with hat | hat
      · rw [hat]; exact hne
      · rw [hat]; intro e; injection e with e; simp at e; omega
  have hmap : ∀ (u : Value) (y : Nd), NdV w0 (fun g => ok g ∧ v.ownBlock ≠ some g) u y → NdV w' (fun g => ok g ∧ v'.ownBlock ≠ some g) u y := fun u y hy =>
    hy.map (fun p hp hlt => World.cell?_of_block (hF.2 p.block hlt hp.2).1) fun g hg hlt => ⟨hg.1, (hF.2 g hlt hg.2).2⟩
  have hcl : cs.length = xs.length * 3 := hown.1
  refine h v' w' ⟨cs ++ [c0, c1, c2], vs ++ [.agg #[c0, c1, c2]], by rw [List.length_append]; exact hown', by simp [hvl], fun j u hu => ?_, fun j u y hu hy => ?_⟩ ?_ hF
  · by_cases hj : j < vs.length
    · rw [List.getElem?_append_left hj] at hu
      obtain ⟨d0, d1, d2, e, e0, e1, e2⟩ := h3 j u hu
      have key : ∀ (q : Nat) (d : Value), q < 3 → cs[j * 3 + q]? = some d → (cs ++ [c0, c1, c2])[j * 3 + q]? = some d := fun q d hq hd => by
        rw [List.getElem?_append_left (by omega)]; exact hd
      exact ⟨d0, d1, d2, e, key 0 _ (by omega) e0, key 1 _ (by omega) e1, key 2 _ (by omega) e2⟩
    · rw [List.getElem?_append_right (by omega)] at hu
      have hj' : j = vs.length := by
        have := (List.getElem?_eq_some_iff.1 hu).1
        simp at this
        omega
      subst hj'
      rw [Nat.sub_self] at hu
      cases hu
      have key : ∀ q, q < 3 → (cs ++ [c0, c1, c2])[vs.length * 3 + q]? = [c0, c1, c2][q]? := fun q hq => by
        rw [List.getElem?_append_right (by omega), show vs.length * 3 + q - cs.length = q by omega]
      exact ⟨c0, c1, c2, rfl, key 0 (by omega), key 1 (by omega), key 2 (by omega)⟩
  · by_cases hj : j < vs.length
    · rw [List.getElem?_append_left hj] at hu
      rw [List.getElem?_append_left (by omega)] at hy
      exact hmap u y (h4 j u y hu hy)
    · rw [List.getElem?_append_right (by omega)] at hu hy
      have hj' : j = vs.length := by
        have := (List.getElem?_eq_some_iff.1 hu).1
        simp at this
        omega
      subst hj'
      rw [Nat.sub_self] at hu
      rw [hvl, Nat.sub_self] at hy
      cases hu
      cases hy
      exact hmap _ _ hr
  · exact ((Below.refl B w0).alloc hB _).grown hg (by simp; omega) fun k hk => (hown.lt k hk).1
end
def bsx (l : List UInt8) : ByteArray := ⟨l.toArray⟩
theorem bsx_list (l : List UInt8) : (bsx l).data.toList = l := by simp [bsx]
theorem bsx_size (l : List UInt8) : (bsx l).size = l.length := by simp [bsx, ByteArray.size]
theorem bsx_app (a b : List UInt8) : bsx a ++ bsx b = bsx (a ++ b) := by
  apply ByteArray.ext
  apply Array.ext'
  simp [bsx]
def strCells (l : List (List UInt8)) : List Value := l.map fun s => Value.string (bsx s)
theorem str_len (l : List (List UInt8)) : (strCells l).length = l.length := by simp [strCells]
theorem str_app (l m : List (List UInt8)) : strCells (l ++ m) = strCells l ++ strCells m := by simp [strCells]
theorem str_one (l : List (List UInt8)) : ∀ u ∈ strCells l, u.oneCell' = true := by
  intro u hu
  unfold strCells at hu
  obtain ⟨b, _, rfl⟩ := List.mem_map.1 hu
  rfl
theorem str_cell {w : World} {B n : Nat} {A : Option Addr} {l : List (List UInt8)} (h : Reads w B A n (strCells l)) {k : Nat} (hk : k < n) : ∃ ad z, A = some ad ∧ l[k]? = some z ∧ w.cell? (ad.add k) = some (.string (bsx z)) := by
  obtain ⟨ad, u, hA, _, hu, hc⟩ := h.at_ hk
  unfold strCells at hu
  rw [List.getElem?_map] at hu
  cases hz : l[k]? with
  | none => rw [hz] at hu; simp at hu
  | some z => rw [hz] at hu; simp at hu; exact ⟨ad, z, hA, rfl, by rw [hc, ← hu]⟩
end Go.Proofs.YtlnbjdlooghpeaaGreatDoor
