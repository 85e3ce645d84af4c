/- TopRegex: Lz. -/
import Derived.Test.YtlnbjdlooghpeaaGreatDoorTN3
import Derived.Deep.RegionLaw
import Derived.Deep.AppendLies
import Derived.BigQuiet
import Derived.Deep.RegionHeld3
import Derived.Deep.RegionWith
import Derived.Test.YtlnbjdlooghpeaaGreatDoorTQn
import Derived.Test.YtlnbjdlooghpeaaGreatDoorTQq
import Derived.Test.YtlnbjdlooghpeaaGreatDoorRows
import Derived.ProofKit
import Derived.OpenShut
import Derived.Deep.Slices
import Derived.Lib.SmallJoins
import Derived.Lib.LaidTab
namespace Go.Proofs.YtlnbjdlooghpeaaGreatDoor
open Go.RowKit Go.ChangeShapes Go.WideShapes Go.Joins
variable {H : Type} {enc : TypeId × Value → H} {W : World}
theorem VsS.nil (W : World) (ok : Nat → Prop) : VsS W ok none 0 0 [] := ⟨Nat.le_refl _, by omega, rfl, fun i v h => by simp at h⟩
end Go.Proofs.YtlnbjdlooghpeaaGreatDoor
namespace Go.Proofs.YtlnbjdlooghpeaaGreatDoor
open Go.RowKit
open Go.ChangeShapes (block_add)
def rgCells (l : List (UInt8 × UInt8)) : List Value := l.flatMap fun r => [.int .u8 (r.1.toNat : Int), .int .u8 (r.2.toNat : Int)]
theorem rgCells_len (l : List (UInt8 × UInt8)) : (rgCells l).length = l.length * 2 := by
  induction l with
  | nil => rfl
  | cons r l ih =>
    unfold rgCells at ih ⊢
    rw [List.flatMap_cons, List.length_append, ih, List.length_cons]
    simp
    omega
theorem rgCells_app (a b : List (UInt8 × UInt8)) : rgCells (a ++ b) = rgCells a ++ rgCells b := by simp [rgCells]
theorem rgCells_get (l : List (UInt8 × UInt8)) (i : Nat) (r : UInt8 × UInt8) (h : l[i]? = some r) : (rgCells l)[i * 2]? = some (.int .u8 (r.1.toNat : Int)) ∧ (rgCells l)[i * 2 + 1]? = some (.int .u8 (r.2.toNat : Int)) := by
  induction l generalizing i with
  | nil => simp at h
  | cons x l ih =>
    have e : rgCells (x :: l) = .int .u8 (x.1.toNat : Int) :: .int .u8 (x.2.toNat : Int) :: rgCells l := rfl
    rw [e]
    cases i with
    | zero =>
      simp at h
      subst h
      exact ⟨rfl, rfl⟩
    | succ i =>
      simp at h
      have := ih i h
      rw [show (i + 1) * 2 = i * 2 + 1 + 1 by omega, show i * 2 + 1 + 1 + 1 = (i * 2 + 1) + 1 + 1 by omega]
      exact this
theorem rgCells_set (m : List (UInt8 × UInt8)) (a b c : UInt8) : (rgCells (m ++ [(a, b)])).set (m.length * 2 + 1) (.int .u8 (c.toNat : Int)) = rgCells (m ++ [(a, c)]) := by
  rw [rgCells_app, rgCells_app, List.set_append_right _ _ (by rw [rgCells_len]; omega), rgCells_len, show m.length * 2 + 1 - m.length * 2 = 1 by omega]
  rfl
def OwnR (W : World) (B : Nat) (v : Value) (l : List (UInt8 × UInt8)) : Prop := W.ownsRow B 88 2 v l.length (rgCells l)
theorem OwnR.below {W W' : World} {B : Nat} {v : Value} {l : List (UInt8 × UInt8)} (h : OwnR W B v l) (hb : Below W.heap.size W W') : OwnR W' B v l := owns_below' h hb
theorem OwnR.mono {W : World} {B B' : Nat} {v : Value} {l : List (UInt8 × UInt8)} (h : OwnR W B v l) (hb : B' ≤ B) : OwnR W B' v l := owns_mono h hb
theorem OwnR.s {W : World} {B : Nat} {v : Value} {l : List (UInt8 × UInt8)} (h : OwnR W B v l) : ∃ A n c, v = .slice A n c ∧ n = l.length ∧ RgS W (fun g => B ≤ g) A n c l := by
  have h' : W.ownsRow B 88 2 v l.length (rgCells l) := h
  have h1' := h'
  rcases h1'.2 with ⟨rfl, h0⟩ | ⟨g, cap, cur, rfl, hb, hg, hc, hm, r⟩
  · obtain rfl : l = [] := List.eq_nil_of_length_eq_zero h0
    exact ⟨none, 0, 0, rfl, rfl, Nat.le_refl _, by omega, rfl, fun i x hx => by simp at hx⟩
  · refine ⟨_, l.length, cap, rfl, rfl, hc, by unfold maxLen at hm; omega, rfl, fun i x hx => ?_⟩
    have hi := (List.getElem?_eq_some_iff.1 hx).1
    obtain ⟨e0, e1⟩ := rgCells_get l i x hx
    refine ⟨g, 0, rfl, hb, ?_, ?_⟩
    · rw [Nat.zero_add, h'.cellAt (i * 2) (by omega)]; exact e0
    · rw [Nat.zero_add, h'.cellAt (i * 2 + 1) (by omega)]; exact e1
theorem row_set {w : World} {B e g n cap sz : Nat} {xs : List Value} (h : w.ownsRow B e sz (.slice (some ⟨g, 0, none⟩) n cap) n xs) (j : Nat) (u : Value) : (w.setCell ⟨g, j, none⟩ u).ownsRow B e sz (.slice (some ⟨g, 0, none⟩) n cap) n (xs.set j u) := by
  obtain ⟨h1, h2⟩ := h
  refine ⟨by rw [List.length_set]; exact h1, ?_⟩
  rcases h2 with ⟨h0, _⟩ | ⟨g', cap', cur, hv, hB, hh, hn, hm, hs, ht⟩
  · cases h0
  · simp only [Value.slice.injEq, Option.some.injEq, Addr.mk.injEq, and_true, true_and] at hv
    obtain ⟨rfl, rfl⟩ := hv
    refine Or.inr ⟨g, cap, cur.setIfInBounds j u, rfl, hB, Go.Joins.block_setCell hh u, hn, hm, by simpa using hs, ?_⟩
    rw [Array.toList_setIfInBounds, List.take_set, ht]
theorem infoR : (Tryz.prog.info? 88).map (fun i => (i.zero, i.size, i.bytes)) = some (some (.agg #[.int .u8 0, .int .u8 0]), 2, 2) := by kernel_rfl
section
variable {P : Program} {ops : Array Oper} {rest : List Oper} {o : Oper} {a : Act} {Q : Exit → Act → World → Prop}
theorem wp_push_rg (hgd : o.guard = none) (s x : Operand) (t : TypeId) (ho : o.op = .call { callee := .builtin .append, args := #[s, x], argTypes := #[t, t] })
    (i : TypeInfo) (z : Value) (bytes : Nat) (ht : P.underlying t = some (.slice 88)) (hi : P.info? 88 = some i) (hz : i.zero = some z) (hsize : i.size = 2) (hby : i.bytes = bytes) (hzs : z.cells.size = 2)
    (B : Nat) (v : Value) (l : List (UInt8 × UInt8)) (hs : a.eval s = v) (w0 : World) (r : UInt8 × UInt8) (c0 c1 : Int) (h0 : c0 = (r.1.toNat : Int)) (h1 : c1 = (r.2.toNat : Int)) (hown : OwnR w0 B v l) (hB : B ≤ w0.heap.size) (H : Nat) (hH : H = w0.heap.size)
    (hx : a.eval x = .slice (some ⟨H, 0, none⟩) 1 1) (hlen : (l.length + 1) * bytes ≤ 140737488355328) (h63 : l.length + 1 ≤ maxLen) (T : TypeId)
    (h : ∀ v' w', OwnR w' B v' (l ++ [r]) → Below B w0 w' → wpList P ops Q rest (a.put o.dst v') w') : wpList P ops Q (o :: rest) a (w0.alloc (.cells #[.int .u8 c0, .int .u8 c1] T)) := by
  subst hH h0 h1
  have hone : ∀ u ∈ [Value.int .u8 (r.1.toNat : Int), .int .u8 (r.2.toNat : Int)], u.oneCell' = true := by
    intro u hu
    simp at hu
    rcases hu with rfl | rfl <;> rfl
  refine wpList_append_own_at _ hgd s x t ho B 88 i z 2 bytes ht hi hz hsize hby hzs (by decide) v l.length (rgCells l) hs (World.ownsRow.alloc hown _) ⟨w0.heap.size, 0, none⟩ 1 1 [.int .u8 (r.1.toNat : Int), .int .u8 (r.2.toNat : Int)] hx rfl (c1_two _ _ _ _) hone h63 hlen (by simp; omega) ?_
  intro v' w' hown' hg _ _
  refine h v' w' ?_ (((Below.refl B w0).alloc hB _).grown hg (by simp; omega) fun k hk => (World.ownsRow.lt hown k hk).1)
  unfold OwnR
  rw [List.length_append, rgCells_app]
  exact hown'
end
theorem addB_none {l : List (UInt8 × UInt8)} (n : Nat) (h : l = []) : addB l n = [(UInt8.ofNat n, UInt8.ofNat n)] := by subst h; rfl
theorem addB_yes (m : List (UInt8 × UInt8)) (r : UInt8 × UInt8) (n : Nat) (h : r.2.toNat + 1 = n) : addB (m ++ [r]) n = m ++ [(r.1, UInt8.ofNat n)] := by
  unfold addB
  rw [List.getLast?_append]
  simp [h]
theorem addB_no (m : List (UInt8 × UInt8)) (r : UInt8 × UInt8) (n : Nat) (h : ¬ r.2.toNat + 1 = n) : addB (m ++ [r]) n = m ++ [r] ++ [(UInt8.ofNat n, UInt8.ofNat n)] := by
  unfold addB
  rw [List.getLast?_append]
  simp [h]
theorem addB_len (l : List (UInt8 × UInt8)) (n : Nat) : (addB l n).length ≤ l.length + 1 := by
  unfold addB
  split
  · split
    · simp
    · simp
  · simp
theorem rgN_len (f : Nat → Bool) : ∀ n, (rgN f n).length ≤ n
  | 0 => Nat.le_refl _
  | n + 1 => by
    have h1 := rgN_len f n
    have h2 := addB_len (rgN f n) n
    unfold rgN
    split <;> omega
def GotR (w : World) (l : List (UInt8 × UInt8)) (e : Ending) (w' : World) : Prop := ∃ v, e = .returned v ∧ OwnR w' w.heap.size v l ∧ Below w.heap.size w w'
section
variable {W W' : World} {ok : Nat → Prop}
theorem rxv_set {A : Option Addr} {n c : Nat} {set : List (UInt8 × UInt8)} (h : RgS W ok A n c set) : RxV W ok (.agg #[.int .i64 1, .slice A n c, .int .i64 0, .int .i64 0, .slice none 0 0]) (.mk 1 set 0 0 []) :=
  .mk 1 0 0 A none n c 0 0 set [] [] h (VsS.nil W ok) rfl (by omega) (by omega) (by omega) fun i v x hv => by simp at hv
theorem rxv_kind (k : Int) (hk : 0 ≤ k ∧ k ≤ 9) : RxV W ok (.agg #[.int .i64 k, .slice none 0 0, .int .i64 0, .int .i64 0, .slice none 0 0]) (.mk k [] 0 0 []) :=
  .mk k 0 0 none none 0 0 0 0 [] [] [] (RgS.nil W ok) (VsS.nil W ok) rfl (by omega) (by omega) (by omega) fun i v x hv => by simp at hv
theorem rxv_zero : RxV W ok (.agg #[.int .i64 0, .slice none 0 0, .int .i64 0, .int .i64 0, .slice none 0 0]) rx0 := rxv_kind 0 (by omega)
theorem RxV.agg {v : Value} {r : Rx} (h : RxV W ok v r) : ∃ c0 c1 c2 c3 c4, v = .agg #[c0, c1, c2, c3, c4] ∧ c0.oneCell' = true ∧ c1.oneCell' = true ∧ c2.oneCell' = true ∧ c3.oneCell' = true ∧ c4.oneCell' = true := by
  cases h
  exact ⟨_, _, _, _, _, rfl, rfl, rfl, rfl, rfl, rfl⟩
end
def OwnX (W : World) (B : Nat) (v : Value) (xs : List Rx) : Prop :=
  ∃ cs vs : List Value, W.ownsRow B 25 5 v xs.length cs ∧ vs.length = xs.length ∧
    (∀ (i : Nat) (u : Value), vs[i]? = some u → ∃ c0 c1 c2 c3 c4, u = .agg #[c0, c1, c2, c3, c4] ∧ cs[i * 5]? = some c0 ∧ cs[i * 5 + 1]? = some c1 ∧ cs[i * 5 + 2]? = some c2 ∧ cs[i * 5 + 3]? = some c3 ∧ cs[i * 5 + 4]? = some c4) ∧
    ∀ (i : Nat) (u : Value) (x : Rx), vs[i]? = some u → xs[i]? = some x → RxV W (fun g => B ≤ g ∧ v.ownBlock ≠ some g) u x
theorem OwnX.nil (W : World) (B : Nat) : OwnX W B (.slice none 0 0) [] := ⟨[], [], World.ownsRow_nil _ _ _ _, rfl, fun i u h => by simp at h, fun i u x h => by simp at h⟩
theorem OwnX.below {W W' : World} {B : Nat} {v : Value} {xs : List Rx} (h : OwnX W B v xs) (hb : Below W.heap.size W W') : OwnX W' B v xs := by
  obtain ⟨cs, vs, h1, h2, h3, h4⟩ := h
  exact ⟨cs, vs, owns_below' h1 hb, h2, h3, fun i u x hu hx => (h4 i u x hu hx).kept hb⟩
theorem OwnX.s {W : World} {B : Nat} {v : Value} {xs : List Rx} (h : OwnX W B v xs) : ∃ (A : Option Addr) (m d : Nat) (vs : List Value), v = .slice A m d ∧ m = xs.length ∧ VsS W (fun g => B ≤ g) A m d vs ∧ ∀ (i : Nat) (u : Value) (x : Rx), vs[i]? = some u → xs[i]? = some x → RxV W (fun g => B ≤ g) u x := by
  obtain ⟨cs, vs, h1, h2, h3, h4⟩ := h
  have h4' : ∀ (i : Nat) (u : Value) (x : Rx), vs[i]? = some u → xs[i]? = some x → RxV W (fun g => B ≤ g) u x := fun i u x hu hx => (h4 i u x hu hx).map (fun _ _ _ => rfl) fun g hg _ => hg.1
  rcases h1.2 with ⟨rfl, h0⟩ | ⟨g, cap, cur, rfl, hb, hg, hc, hm, r⟩
  · obtain rfl : xs = [] := List.eq_nil_of_length_eq_zero h0
    obtain rfl : vs = [] := List.eq_nil_of_length_eq_zero h2
    exact ⟨none, 0, 0, [], rfl, rfl, VsS.nil _ _, h4'⟩
  · refine ⟨_, xs.length, cap, vs, rfl, rfl, ⟨hc, by unfold maxLen at hm; omega, h2, fun i u hu => ?_⟩, h4'⟩
    obtain ⟨c0, c1, c2, c3, c4, e, e0, e1, e2, e3, e4⟩ := h3 i u hu
    have hi := (List.getElem?_eq_some_iff.1 hu).1
    have key : ∀ j, j < 5 → W.cell? ⟨g, 0 + i * 5 + j, none⟩ = cs[i * 5 + j]? := fun j hj => by
      rw [Nat.zero_add]
      exact h1.cellAt (i * 5 + j) (by omega)
    exact ⟨g, 0, c0, c1, c2, c3, c4, rfl, hb, e, (key 0 (by omega)).trans e0, (key 1 (by omega)).trans e1, (key 2 (by omega)).trans e2, (key 3 (by omega)).trans e3, (key 4 (by omega)).trans e4⟩
theorem OwnX.rx {W : World} {B : Nat} {v : Value} {xs : List Rx} (h : OwnX W B v xs) (k : Int) (hk : 0 ≤ k ∧ k ≤ 9) : RxV W (fun g => B ≤ g) (.agg #[.int .i64 k, .slice none 0 0, .int .i64 0, .int .i64 0, v]) (.mk k [] 0 0 xs) := by
  obtain ⟨A, m, d, vs, rfl, hm, hvs, hr⟩ := h.s
  exact .mk k 0 0 none A 0 0 m d [] vs xs (RgS.nil W _) hvs hm.symm (by omega) (by omega) (by omega) hr
theorem OwnX.rep {W : World} {B : Nat} {v : Value} {x : Rx} (h : OwnX W B v [x]) (a b : Int) (ha : -1 ≤ a ∧ a ≤ 1000) (hb : -1 ≤ b ∧ b ≤ 1000) : RxV W (fun g => B ≤ g) (.agg #[.int .i64 4, .slice none 0 0, .int .i64 a, .int .i64 b, v]) (repS x a b) := by
  obtain ⟨A, m, d, vs, rfl, hm, hvs, hr⟩ := h.s
  exact .mk 4 a b none A 0 0 m d [] vs [x] (RgS.nil W _) hvs hm.symm (by omega) (by omega) (by omega) hr
theorem ownX_lit (w : World) (c0 c1 c2 c3 c4 : Value) (x : Rx) (B : Nat) (hB : B ≤ w.heap.size) (h : RxV w (fun g => B ≤ g) (.agg #[c0, c1, c2, c3, c4]) x) : OwnX (w.alloc (.cells #[c0, c1, c2, c3, c4] 25)) B (.slice (some ⟨w.heap.size, 0, none⟩) 1 1) [x] := by
  refine ⟨[c0, c1, c2, c3, c4], [.agg #[c0, c1, c2, c3, c4]], ⟨rfl, Or.inr ⟨w.heap.size, 1, #[c0, c1, c2, c3, c4], rfl, hB, heap_alloc_new w _, Nat.le_refl _, by unfold maxLen; omega, rfl, rfl⟩⟩, rfl, fun i u hu => ?_, fun i u y hu hy => ?_⟩
  · match i, hu with
    | 0, hu =>
      simp at hu
      exact ⟨c0, c1, c2, c3, c4, hu.symm, rfl, rfl, rfl, rfl, rfl⟩
  · match i, hu, hy with
    | 0, hu, hy =>
      simp at hu hy
      subst hu hy
      refine h.map (fun p _ hp => World.cell?_alloc_lt w _ p hp) fun g hg hlt => ⟨hg, fun e => ?_⟩
      simp only [Value.ownBlock, Option.some.injEq] at e
      omega
theorem c1_five (w : World) (c0 c1 c2 c3 c4 : Value) (T : TypeId) : ∀ (j : Nat) (u : Value), [c0, c1, c2, c3, c4][j]? = some u → (w.alloc (.cells #[c0, c1, c2, c3, c4] T)).cell? ((⟨w.heap.size, 0, none⟩ : Addr).add j) = some u := by
  intro j u h
  match j, h with
  | 0, h => simp at h; subst h; rw [addr0, World.cell?_alloc_mark]; rfl
  | 1, h => simp at h; subst h; rw [addr0, World.cell?_alloc_mark]; rfl
  | 2, h => simp at h; subst h; rw [addr0, World.cell?_alloc_mark]; rfl
  | 3, h => simp at h; subst h; rw [addr0, World.cell?_alloc_mark]; rfl
  | 4, h => simp at h; subst h; rw [addr0, World.cell?_alloc_mark]; rfl
section
variable {P : Program} {ops : Array Oper} {rest : List Oper} {o : Oper} {a : Act} {Q : Exit → Act → World → Prop}
theorem wp_push_rx (hgd : o.guard = none) (s x : Operand) (t : TypeId) (ho : o.op = .call { callee := .builtin .append, args := #[s, x], argTypes := #[t, t] })
    (i : TypeInfo) (z : Value) (bytes : Nat) (ht : P.underlying t = some (.slice 25)) (hi : P.info? 25 = some i) (hz : i.zero = some z) (hsize : i.size = 5) (hby : i.bytes = bytes) (hzs : z.cells.size = 5)
    (B : Nat) (v : Value) (xs : List Rx) (hs : a.eval s = v) (w0 : World) (c0 c1 c2 c3 c4 : Value) (r : Rx) (hown : OwnX w0 B v xs) (hB : B ≤ w0.heap.size) (H : Nat) (hH : H = w0.heap.size)
    (hx : a.eval x = .slice (some ⟨H, 0, none⟩) 1 1) (hr : RxV w0 (fun g => B ≤ g ∧ v.ownBlock ≠ some g) (.agg #[c0, c1, c2, c3, c4]) r) (hlen : (xs.length + 1) * bytes ≤ 140737488355328) (h63 : xs.length + 1 ≤ maxLen)
    (h : ∀ v' w', OwnX w' B v' (xs ++ [r]) → Below B w0 w' → wpList P ops Q rest (a.put o.dst v') w') : wpList P ops Q (o :: rest) a (w0.alloc (.cells #[c0, c1, c2, c3, c4] 25)) := by
  subst hH
  obtain ⟨cs, vs, hown, hvl, h3, h4⟩ := hown
  have hone : ∀ u ∈ [c0, c1, c2, c3, c4], u.oneCell' = true := by
    obtain ⟨d0, d1, d2, d3, d4, e, h0, h1, h2, h3', h4'⟩ := hr.agg
    injection e with e
    injection e with e
    simp only [List.cons.injEq, and_true] at e
    obtain ⟨rfl, rfl, rfl, rfl, rfl⟩ := e
    intro u hu
    simp only [List.mem_cons, List.not_mem_nil, or_false] at hu
    rcases hu with rfl | rfl | rfl | rfl | rfl <;> assumption
  refine wpList_append_own_at _ hgd s x t ho B 25 i z 5 bytes ht hi hz hsize hby hzs (by decide) v xs.length cs hs (hown.alloc _) ⟨w0.heap.size, 0, none⟩ 1 1 [c0, c1, c2, c3, c4] hx rfl (c1_five _ _ _ _ _ _ _) hone h63 hlen (by simp; omega) ?_
  intro v' w' hown' hg _ hat
  have hF : Far w0 w' v v' := by
    refine ⟨by have := hg.size; simp at this; omega, fun g hlt hne => ⟨?_, ?_⟩⟩
    · exact (hg.block g (by simp; omega) (fun e => hne e.symm)).trans (((Below.refl w0.heap.size w0).alloc (Nat.le_refl _) _).block g hlt)
    · rcases hat with hat | hat
      · rw [hat]; exact hne
      · rw [hat]; intro e; injection e with e; simp at e; omega
  have hmap : ∀ (u : Value) (y : Rx), RxV w0 (fun g => B ≤ g ∧ v.ownBlock ≠ some g) u y → RxV w' (fun g => B ≤ g ∧ v'.ownBlock ≠ some g) u y := fun u y hy =>
    hy.map (fun p hp hlt => World.cell?_of_block (hF.2 p.block hlt hp.2).1) fun g hg hlt => ⟨hg.1, (hF.2 g hlt hg.2).2⟩
  have hcl : cs.length = xs.length * 5 := hown.1
  refine h v' w' ⟨cs ++ [c0, c1, c2, c3, c4], vs ++ [.agg #[c0, c1, c2, c3, c4]], by rw [List.length_append]; exact hown', by simp [hvl], fun j u hu => ?_, fun j u y hu hy => ?_⟩ ?_
  · by_cases hj : j < vs.length
    · rw [List.getElem?_append_left hj] at hu
      obtain ⟨d0, d1, d2, d3, d4, e, e0, e1, e2, e3, e4⟩ := h3 j u hu
      have key : ∀ (q : Nat) (d : Value), q < 5 → cs[j * 5 + q]? = some d → (cs ++ [c0, c1, c2, c3, c4])[j * 5 + q]? = some d := fun q d hq hd => by
        rw [List.getElem?_append_left (by omega)]; exact hd
      exact ⟨d0, d1, d2, d3, d4, e, key 0 _ (by omega) e0, key 1 _ (by omega) e1, key 2 _ (by omega) e2, key 3 _ (by omega) e3, key 4 _ (by omega) e4⟩
    · rw [List.getElem?_append_right (by omega)] at hu
      have hj' : j = vs.length := by
        have := (List.getElem?_eq_some_iff.1 hu).1
        simp at this
        omega
      subst hj'
      rw [Nat.sub_self] at hu
      cases hu
      have key : ∀ q, q < 5 → (cs ++ [c0, c1, c2, c3, c4])[vs.length * 5 + q]? = [c0, c1, c2, c3, c4][q]? := fun q hq => by
        rw [List.getElem?_append_right (by omega), show vs.length * 5 + q - cs.length = q by omega]
      exact ⟨c0, c1, c2, c3, c4, rfl, key 0 (by omega), key 1 (by omega), key 2 (by omega), key 3 (by omega), key 4 (by omega)⟩
  · by_cases hj : j < vs.length
    · rw [List.getElem?_append_left hj] at hu
      rw [List.getElem?_append_left (by omega)] at hy
      exact hmap u y (h4 j u y hu hy)
    · rw [List.getElem?_append_right (by omega)] at hu hy
      have hj' : j = vs.length := by
        have := (List.getElem?_eq_some_iff.1 hu).1
        simp at this
        omega
      subst hj'
      rw [Nat.sub_self] at hu
      rw [hvl, Nat.sub_self] at hy
      cases hu
      cases hy
      exact hmap _ _ hr
  · exact ((Below.refl B w0).alloc hB _).grown hg (by simp; omega) fun k hk => (hown.lt k hk).1
end
def FiveF (w : World) (b : Nat) (c0 c1 c2 c3 c4 : Value) : Prop := Five w b c0 c1 c2 c3 c4 ∧ w.frozen? ⟨b, 0, none⟩ = false ∧ w.frozen? ⟨b, 1, none⟩ = false ∧ w.frozen? ⟨b, 2, none⟩ = false ∧ w.frozen? ⟨b, 3, none⟩ = false ∧ w.frozen? ⟨b, 4, none⟩ = false
theorem fiveF_new (w : World) (c0 c1 c2 c3 c4 : Value) (T : TypeId) : FiveF (w.alloc (.cells #[c0, c1, c2, c3, c4] T)) w.heap.size c0 c1 c2 c3 c4 := by
  refine ⟨five_new w c0 c1 c2 c3 c4 T, ?_, ?_, ?_, ?_, ?_⟩ <;> (rw [World.frozen?_alloc_mark]; simp)
theorem FiveF.at_ {w w' : World} {b B : Nat} {c0 c1 c2 c3 c4 : Value} (h : FiveF w b c0 c1 c2 c3 c4) (hb : Below B w w') (hlt : b < B) : FiveF w' b c0 c1 c2 c3 c4 := by
  obtain ⟨⟨h0, h1, h2, h3, h4, h5⟩, f0, f1, f2, f3, f4⟩ := h
  have key : ∀ k : Nat, w'.cell? ⟨b, k, none⟩ = w.cell? ⟨b, k, none⟩ := fun k => hb.cell (p := ⟨b, k, none⟩) hlt
  have fkey : ∀ k : Nat, w'.frozen? ⟨b, k, none⟩ = w.frozen? ⟨b, k, none⟩ := fun k => hb.frozen (p := ⟨b, k, none⟩) hlt
  exact ⟨⟨Nat.lt_of_lt_of_le h0 hb.size, (key _).trans h1, (key _).trans h2, (key _).trans h3, (key _).trans h4, (key _).trans h5⟩, (fkey _).trans f0, (fkey _).trans f1, (fkey _).trans f2, (fkey _).trans f3, (fkey _).trans f4⟩
def put5 (w : World) (b : Nat) (u0 u1 u2 u3 u4 : Value) : World := ((((w.setCell ⟨b, 0, none⟩ u0).setCell ⟨b, 1, none⟩ u1).setCell ⟨b, 2, none⟩ u2).setCell ⟨b, 3, none⟩ u3).setCell ⟨b, 4, none⟩ u4
theorem put5_five {w : World} {b : Nat} {c0 c1 c2 c3 c4 : Value} (h : FiveF w b c0 c1 c2 c3 c4) (u0 u1 u2 u3 u4 : Value) : Five (put5 w b u0 u1 u2 u3 u4) b u0 u1 u2 u3 u4 := by
  obtain ⟨⟨h0, h1, h2, h3, h4, h5⟩, _⟩ := h
  unfold put5
  refine ⟨by simpa [World.setCell] using h0, ?_, ?_, ?_, ?_, ?_⟩
  · rw [set_off _ _ _ _ _ (by decide), set_off _ _ _ _ _ (by decide), set_off _ _ _ _ _ (by decide), set_off _ _ _ _ _ (by decide)]
    exact World.cell?_setCell_same _ _ _ h1
  · rw [set_off _ _ _ _ _ (by decide), set_off _ _ _ _ _ (by decide), set_off _ _ _ _ _ (by decide)]
    exact World.cell?_setCell_same _ _ _ (by rw [set_off _ _ _ _ _ (by decide)]; exact h2)
  · rw [set_off _ _ _ _ _ (by decide), set_off _ _ _ _ _ (by decide)]
    exact World.cell?_setCell_same _ _ _ (by rw [set_off _ _ _ _ _ (by decide), set_off _ _ _ _ _ (by decide)]; exact h3)
  · rw [set_off _ _ _ _ _ (by decide)]
    exact World.cell?_setCell_same _ _ _ (by rw [set_off _ _ _ _ _ (by decide), set_off _ _ _ _ _ (by decide), set_off _ _ _ _ _ (by decide)]; exact h4)
  · exact World.cell?_setCell_same _ _ _ (by rw [set_off _ _ _ _ _ (by decide), set_off _ _ _ _ _ (by decide), set_off _ _ _ _ _ (by decide), set_off _ _ _ _ _ (by decide)]; exact h5)
theorem put5_below {B b : Nat} {w w' : World} {u0 u1 u2 u3 u4 : Value} (h : Below B w w') (hb : B ≤ b) : Below B w (put5 w' b u0 u1 u2 u3 u4) :=
  ((((h.setCell (by exact hb) _).setCell (by exact hb) _).setCell (by exact hb) _).setCell (by exact hb) _).setCell (by exact hb) _
theorem put5_cell {w : World} {b : Nat} {u0 u1 u2 u3 u4 : Value} {p : Addr} (h : p.block ≠ b) : (put5 w b u0 u1 u2 u3 u4).cell? p = w.cell? p := by
  unfold put5
  have key : ∀ (W : World) (j : Nat) (u : Value), (W.setCell ⟨b, j, none⟩ u).cell? p = W.cell? p := fun W j u => World.cell?_setCell_other _ _ _ _ (fun e => h (congrArg Addr.block e).symm)
  rw [key, key, key, key, key]
theorem put5_rxv {w : World} {b B : Nat} {u0 u1 u2 u3 u4 v : Value} {r : Rx} (h : RxV w (fun g => B ≤ g) v r) (hb : b < B) (B' : Nat) (hB : B' ≤ B) : RxV (put5 w b u0 u1 u2 u3 u4) (fun g => B' ≤ g) v r :=
  h.map (fun p hp _ => put5_cell (by omega)) fun g hg _ => Nat.le_trans hB hg
theorem infoX : (Tryz.prog.info? 25).map (fun i => (i.zero, i.size, i.bytes)) = some (some (.agg #[.int .i64 0, .slice none 0 0, .int .i64 0, .int .i64 0, .slice none 0 0]), 5, 72) := by kernel_rfl
def other (c : UInt8) : UInt8 := if 97 ≤ c.toNat ∧ c.toNat ≤ 122 then UInt8.ofNat (c.toNat - 32) else if 65 ≤ c.toNat ∧ c.toNat ≤ 90 then UInt8.ofNat (c.toNat + 32) else c
theorem other_nat (c : UInt8) : (other c).toNat = if 97 ≤ c.toNat ∧ c.toNat ≤ 122 then c.toNat - 32 else if 65 ≤ c.toNat ∧ c.toNat ≤ 90 then c.toNat + 32 else c.toNat := by
  have := c.toNat_lt
  unfold other
  split
  · simp; omega
  · split
    · simp; omega
    · rfl
set_option maxRecDepth 20000 in
theorem other49 (c : UInt8) (W : World) : Calls Tryz.prog 50 #[.int .u8 (c.toNat : Int)] W fun e w' => e = .returned (.int .u8 ((other c).toNat : Int)) ∧ W = w' := by
  have hc := c.toNat_lt
  have ho := other_nat c
  obtain ⟨x, hx⟩ : ∃ x, c.toNat = x := ⟨_, rfl⟩
  rw [hx] at hc ho ⊢
  clear hx
  have Ho := hide ho
  clear ho
  by_cases h1 : 97 ≤ x
  · have l1 : (97 : Int) ≤ (x : Int) := by omega
    by_cases h2 : x ≤ 122
    · have l2 : (x : Int) ≤ 122 := by omega
      have Hn := hide (show ((x : Int) - 97 + 65) = ((other c).toNat : Int) by rw [Ho.out, if_pos ⟨h1, h2⟩]; omega)
      go_enter Tryz.func50, Tryz.ntmps50
      go_wp2
      go_ret
      exact ⟨ret_int Hn.out, rfl⟩
    · have l2 : ¬ (x : Int) ≤ 122 := by omega
      have l3 : (65 : Int) ≤ (x : Int) := by omega
      have l4 : ¬ (x : Int) ≤ 90 := by omega
      have Hn := hide (show (x : Int) = ((other c).toNat : Int) by rw [Ho.out, if_neg (by omega), if_neg (by omega)])
      go_enter Tryz.func50, Tryz.ntmps50
      go_wp2
      go_ret
      exact ⟨ret_int Hn.out, rfl⟩
  · have l1 : ¬ (97 : Int) ≤ (x : Int) := by omega
    by_cases h3 : 65 ≤ x
    · have l3 : (65 : Int) ≤ (x : Int) := by omega
      by_cases h4 : x ≤ 90
      · have l4 : (x : Int) ≤ 90 := by omega
        have Hn := hide (show ((x : Int) - 65 + 97) = ((other c).toNat : Int) by rw [Ho.out, if_neg (by omega), if_pos ⟨h3, h4⟩]; omega)
        go_enter Tryz.func50, Tryz.ntmps50
        go_wp2
        go_ret
        exact ⟨ret_int Hn.out, rfl⟩
      · have l4 : ¬ (x : Int) ≤ 90 := by omega
        have Hn := hide (show (x : Int) = ((other c).toNat : Int) by rw [Ho.out, if_neg (by omega), if_neg (by omega)])
        go_enter Tryz.func50, Tryz.ntmps50
        go_wp2
        go_ret
        exact ⟨ret_int Hn.out, rfl⟩
    · have l3 : ¬ (65 : Int) ≤ (x : Int) := by omega
      have Hn := hide (show (x : Int) = ((other c).toNat : Int) by rw [Ho.out, if_neg (by omega), if_neg (by omega)])
      go_enter Tryz.func50, Tryz.ntmps50
      go_wp2
      go_ret
      exact ⟨ret_int Hn.out, rfl⟩
end Go.Proofs.YtlnbjdlooghpeaaGreatDoor
namespace Go.Proofs.YtlnbjdlooghpeaaGreatDoor
open Go.RowKit
theorem cont_yes {g : Nat → Bool} {i : Nat} (h0 : 0 < i) (hi : i ≤ 256) (h : g (i - 1) = true) : ∃ m r, rgN g i = m ++ [r] ∧ r.2.toNat + 1 = i := by
  obtain ⟨j, rfl⟩ : ∃ j, i = j + 1 := ⟨i - 1, by omega⟩
  simp only [Nat.add_sub_cancel] at h
  have hv : (UInt8.ofNat j).toNat = j := by simp; omega
  have e : rgN g (j + 1) = addB (rgN g j) j := by show (if g j = true then _ else _) = _; rw [if_pos h]
  rw [e]
  rcases List.eq_nil_or_concat (rgN g j) with hnil | ⟨m, r, hmr⟩
  · exact ⟨[], (UInt8.ofNat j, UInt8.ofNat j), by rw [addB_none j hnil]; rfl, by simp only [hv]⟩
  · rw [List.concat_eq_append] at hmr
    rw [hmr]
    by_cases he : r.2.toNat + 1 = j
    · exact ⟨m, (r.1, UInt8.ofNat j), by rw [addB_yes m r j he], by simp only [hv]⟩
    · exact ⟨m ++ [r], (UInt8.ofNat j, UInt8.ofNat j), by rw [addB_no m r j he], by simp only [hv]⟩
theorem cont_no {g : Nat → Bool} {i : Nat} (hi : i < 256) (h : i = 0 ∨ g (i - 1) = false) (hg : g i = true) : rgN g (i + 1) = rgN g i ++ [(UInt8.ofNat i, UInt8.ofNat i)] := by
  have e : rgN g (i + 1) = addB (rgN g i) i := by show (if g i = true then _ else _) = _; rw [if_pos hg]
  rw [e]
  rcases List.eq_nil_or_concat (rgN g i) with hnil | ⟨m, r, hmr⟩
  · rw [addB_none i hnil, hnil]; rfl
  · rw [List.concat_eq_append] at hmr
    have hmem : r ∈ rgN g i := by rw [hmr]; simp
    obtain ⟨h1, h2⟩ := rgN_has g r.2 i (by omega)
    have h3 := h2 r hmem
    by_cases he : r.2.toNat + 1 = i
    · exfalso
      have hh : hasS (rgN g i) r.2 = true := by
        unfold hasS
        rw [List.any_eq_true]
        exact ⟨r, hmem, by simp [UInt8.le_iff_toNat_le, h3.1]⟩
      rw [h1] at hh
      simp at hh
      rcases h with h | h
      · omega
      · rw [show r.2.toNat = i - 1 by omega, h] at hh
        exact absurd hh.2 (by simp)
    · rw [hmr, addB_no m r i he]
theorem cont_set {g : Nat → Bool} {i : Nat} {m : List (UInt8 × UInt8)} {r : UInt8 × UInt8} (hg : g i = true) (hmr : rgN g i = m ++ [r]) (he : r.2.toNat + 1 = i) : rgN g (i + 1) = m ++ [(r.1, UInt8.ofNat i)] := by
  have e : rgN g (i + 1) = addB (rgN g i) i := by show (if g i = true then _ else _) = _; rw [if_pos hg]
  rw [e, hmr, addB_yes m r i he]
theorem cont_skip {g : Nat → Bool} {i : Nat} (hg : g i = false) : rgN g (i + 1) = rgN g i := by show (if g i = true then _ else _) = _; rw [hg]; rfl
set_option maxRecDepth 100000 in
set_option maxHeartbeats 6400000 in
theorem canon47 (N : Nat) (caps : Array Value) (f : UInt8 → Bool) (W : World)
    (hcf : ∀ (xs : Array Value) (W : World), (callFunc N xs).run Tryz.prog W = .ok (.enter N xs) W)
    (hp : ∀ (W' : World) (c : UInt8) (z : Int), z = (c.toNat : Int) → Below W.heap.size W W' → Calls Tryz.prog N (#[.int .u8 z] ++ caps) W' fun e w' => e = .returned (.bool (f c)) ∧ Below W'.heap.size W' w') :
    Calls Tryz.prog 47 #[.func (.func N) #[] caps] W (GotR W (rgN (fun i => f (UInt8.ofNat i)) 256)) := by
  obtain ⟨i0, hi, hz0, hz1, hz2⟩ := info_parts infoR
  obtain ⟨g, hg⟩ : ∃ g : Nat → Bool, (fun i => f (UInt8.ofNat i)) = g := ⟨_, rfl⟩
  have Hp := hide (show ∀ (W' : World) (i : Nat), i < 256 → Below W.heap.size W W' → Calls Tryz.prog N (#[.int .u8 (i : Int)] ++ caps) W' fun e w' => e = .returned (.bool (g i)) ∧ Below W'.heap.size W' w' from fun W' i hi hb => by
    have := hp W' (UInt8.ofNat i) (i : Int) (by simp; omega) hb
    rw [← hg]
    exact this)
  rw [hg]
  have Hnil := hide (show OwnR W W.heap.size (.slice none 0 0) [] from World.ownsRow_nil _ _ _ _)
  clear hp hg
  go_enter Tryz.func47, Tryz.ntmps47
  go_wp2
  go_loopw [3, 4, 7] (fun v b x wr => ∃ (i : Nat) (q : Bool), i ≤ 256 ∧ x = .int .i64 (i : Int) ∧ b = .bool q ∧ (q = true → 0 < i ∧ g (i - 1) = true) ∧ (q = false → i = 0 ∨ g (i - 1) = false) ∧ OwnR wr W.heap.size v (rgN g i) ∧ Below W.heap.size W wr) (fun _ _ x _ => 256 - (intOf x).toNat)
  case atStart => exact ⟨0, false, Nat.zero_le _, rfl, rfl, fun h => (by cases h), fun _ => Or.inl rfl, Hnil.out, Below.refl _ _⟩
  case round =>
    obtain ⟨i, q, hi1, rfl, rfl, hq1, hq2, ho, hb⟩ := hrel
    obtain ⟨w2, hw2⟩ : ∃ w2, w2 = wr := ⟨wr, rfl⟩
    subst hw2
    obtain ⟨v, hvv⟩ : ∃ v, v = u3 := ⟨u3, rfl⟩
    subst hvv
    have B := hide hb
    by_cases hlt : i < 256
    · have hlt' : (i : Int) < 256 := by omega
      have HC := hide (Hp.out w2 i hlt hb)
      have hln := rgN_len g i
      have hx : ((UInt8.ofNat i).toNat : Int) = (i : Int) := by simp; omega
      have Hx := hide hx
      clear hx
      cases hgi : g i with
      | false =>
        rw [hgi] at HC
        have Hn := hide (cont_skip hgi)
        have Hg := hide hgi
        have O := hide ho
        clear hgi hq1 hq2 ho hb
        go_wp2_with fail
        with_reducible refine HC.out.mono ?_
        rintro e w' ⟨rfl, hb'⟩
        have O' := hide (show OwnR w' W.heap.size v (rgN g (i + 1)) by rw [Hn.out]; exact O.out.below hb')
        have B' := hide (bgo B.out hb')
        clear hb'
        go_wp2
        go_roundw
        case rel => exact ⟨i + 1, false, by omega, by go_num, rfl, fun h => (by cases h), fun _ => Or.inr (by simpa using Hg.out), O'.out, B'.out⟩
        case measure => simp [intOf]; omega
      | true =>
        rw [hgi] at HC
        have Hg := hide hgi
        cases q with
        | false =>
          have Hn := hide (cont_no hlt (hq2 rfl) hgi)
          obtain ⟨l, hl⟩ : ∃ l, rgN g i = l := ⟨_, rfl⟩
          rw [hl] at ho hln Hn
          have O := hide ho
          clear hgi hq1 hq2 ho hb hl
          go_wp2_with fail
          with_reducible refine HC.out.mono ?_
          rintro e w' ⟨rfl, hb'⟩
          have O' := hide (O.out.below hb')
          have hbw := bgo B.out hb'
          have B' := hide hbw
          have hsz := hbw.size
          clear hb' hbw
          go_wp2_with (at_builtin; refine wp_push_rg rfl (.tmp 12) (.tmp 16) 22 rfl i0 (.agg #[.int .u8 0, .int .u8 0]) 2 Tryz.underlying22 hi hz0 hz1 hz2 rfl W.heap.size _ l rfl _ (UInt8.ofNat i, UInt8.ofNat i) _ _ Hx.out.symm Hx.out.symm O'.out hsz _ rfl rfl (by omega) (by unfold maxLen; omega) _ ?_)
          intro v' w5 ho5 hb5
          rw [← Hn.out] at ho5
          have O5 := hide ho5
          have B5 := hide (B'.out.trans hb5)
          clear ho5 hb5
          go_wp2
          go_roundw
          case rel => exact ⟨i + 1, true, by omega, by go_num, rfl, fun _ => ⟨by omega, by simpa using Hg.out⟩, fun h => (by cases h), O5.out, B5.out⟩
          case measure => simp [intOf]; omega
        | true =>
          obtain ⟨h0, h1⟩ := hq1 rfl
          obtain ⟨m, r, hmr, hr⟩ := cont_yes h0 (by omega) h1
          have Hn := hide (cont_set hgi hmr hr)
          rw [hmr] at ho hln
          have O := hide ho
          obtain ⟨j, hj⟩ : ∃ j, m.length = j := ⟨_, rfl⟩
          have Hj := hide hj
          have hjl : j + 1 ≤ i := by rw [List.length_append] at hln; simp at hln; omega
          clear hgi hq1 hq2 ho hb hmr h1 hr hj hln
          go_wp2_with fail
          with_reducible refine HC.out.mono ?_
          rintro e w' ⟨rfl, hb'⟩
          have ho := O.out.below hb'
          have B' := hide (bgo B.out hb')
          have how : w'.ownsRow W.heap.size 88 2 v (j + 1) (rgCells (m ++ [r])) := by
            have : OwnR w' W.heap.size v (m ++ [r]) := ho
            unfold OwnR at this
            rw [List.length_append, Hj.out] at this
            exact this
          obtain ⟨gg, cap, rfl, hgB, hgl⟩ := how.form (by omega)
          have hc := how.cellAt (j * 2 + 1) (by omega)
          have hfz := how.frozenAt (j * 2 + 1)
          have hgt := (rgCells_get (m ++ [r]) j r (by rw [← Hj.out]; simp)).2
          rw [hgt] at hc
          have hcap : j + 1 ≤ cap ∧ cap ≤ 9223372036854775807 := by
            obtain ⟨A1, n1, c1, e1, hn1, hs1⟩ := ho.s
            simp only [Value.slice.injEq] at e1
            obtain ⟨rfl, rfl, rfl⟩ := e1
            exact ⟨hs1.1, hs1.2.1⟩
          obtain ⟨hcap1, hcap2⟩ := hcap
          have O5 := row_set how (j * 2 + 1) (.int .u8 (i : Int))
          have e5 : (rgCells (m ++ [r])).set (j * 2 + 1) (.int .u8 (i : Int)) = rgCells (m ++ [(r.1, UInt8.ofNat i)]) := by
            have := rgCells_set m r.1 r.2 (UInt8.ofNat i)
            rw [Hj.out, Hx.out] at this
            exact this
          rw [e5] at O5
          have O6 := hide (show OwnR (w'.setCell ⟨gg, j * 2 + 1, none⟩ (.int .u8 (i : Int))) W.heap.size (.slice (some ⟨gg, 0, none⟩) (j + 1) cap) (rgN g (i + 1)) by
            unfold OwnR
            rw [Hn.out, List.length_append, Hj.out]
            exact O5)
          have B6 := hide (B'.out.setCell (show W.heap.size ≤ (⟨gg, j * 2 + 1, none⟩ : Addr).block from hgB) (.int .u8 (i : Int)))
          clear ho how hgt O5 e5 O hb'
          go_wp2
          go_roundw
          case rel => exact ⟨i + 1, true, by omega, by go_num, rfl, fun _ => ⟨by omega, by simpa using Hg.out⟩, fun h => (by cases h), O6.out, B6.out⟩
          case measure => simp [intOf]; omega
    · have e256 : i = 256 := by omega
      rw [e256] at ho
      have HO := hide ho
      have hge : ¬ (i : Int) < 256 := by omega
      clear ho hb hq1 hq2 e256 hlt
      go_wp2
      go_ret
      exact ⟨v, rfl, HO.out, B.out⟩
theorem run48 (xs : Array Value) (W : World) : (callFunc 48 xs).run Tryz.prog W = .ok (.enter 48 xs) W := by kernel_rfl
set_option maxRecDepth 100000 in
set_option maxHeartbeats 6400000 in
theorem fold48 {W : World} {ok : Nat → Prop} {A : Option Addr} {n d : Nat} {set : List (UInt8 × UInt8)} (x : UInt8) (z : Int) (hz : z = (x.toNat : Int)) (b : Nat) (hc : W.cell? ⟨b, 1, none⟩ = some (.slice A n d)) (h : RgS W ok A n d set) :
    Calls Tryz.prog 48 #[.int .u8 z, .pointer (some ⟨b, 0, none⟩)] W fun e w' => e = .returned (.bool (hasS set x || hasS set (other x))) ∧ Below W.heap.size W w' := by
  subst hz
  have hlt : b < W.heap.size := World.block_lt_of_cell? _ _ hc
  have Hc := hide (show ∀ X, Below W.heap.size W X → X.cell? ⟨b, 1, none⟩ = some (.slice A n d) from fun X hb => (hb.cell (p := ⟨b, 1, none⟩) hlt).trans hc)
  have H1 := hide (fun X (hb : Below W.heap.size W X) => phas72 (h.below hb) x _ rfl)
  have H2 := hide (fun X (hb : Below W.heap.size W X) => phas72 (h.below hb) (other x) _ rfl)
  obtain ⟨p, hp⟩ : ∃ p, hasS set x = p := ⟨_, rfl⟩
  obtain ⟨q, hq⟩ : ∃ q, hasS set (other x) = q := ⟨_, rfl⟩
  rw [hp] at H1
  rw [hq] at H2
  rw [hp, hq]
  have HO := hide (fun X => other49 x X)
  obtain ⟨y, hy⟩ : ∃ y, other x = y := ⟨_, rfl⟩
  rw [hy] at H2 HO
  clear hp hq hlt h hy
  have HK := hide (show ∀ X, Below W.heap.size W X → X.cell? ⟨b, 1, none⟩ = some (.slice A n d) ∧ Below W.heap.size W X from fun X hb => ⟨Hc.out X hb, hb⟩)
  have HKs := hide (show ∀ X Y, (X.cell? ⟨b, 1, none⟩ = some (.slice A n d) ∧ Below W.heap.size W X) → Below X.heap.size X Y → Y.cell? ⟨b, 1, none⟩ = some (.slice A n d) ∧ Below W.heap.size W Y from fun X Y h hb => HK.out Y (bgo h.2 hb))
  have HK0 := hide (show ∀ X, (X.cell? ⟨b, 1, none⟩ = some (.slice A n d) ∧ Below W.heap.size W X) → Below W.heap.size W X from fun X h => h.2)
  have HS0 := hide (bel_drew W)
  clear Hc
  cases p with
  | true =>
    go_enter Tryz.func48, Tryz.ntmps48
    go_wp2_with fail
    first
      | (go_region_with (first
          | (go_at_call 49; refine (H1.out _ ?_).mono ?_; (first | exact HS0.out | exact Below.refl _ _); rintro e w4 ⟨rfl, hb4⟩)))
      | fail
    all_goals
      have Bf := bgo HS0.out hb4
      go_wp2
      go_ret
      exact ⟨rfl, Bf⟩
  | false =>
    go_enter Tryz.func48, Tryz.ntmps48
    go_wp2_with fail
    first
      | (go_region_held3 (fun w' => w'.cell? ⟨b, 1, none⟩ = some (.slice A n d) ∧ Below W.heap.size W w')
          (first | assumption | exact HK.out _ HS0.out | exact HKs.out _ _ (by assumption) hb4)
          (first
            | (go_at_call 50; with_reducible refine (HO.out _).mono ?_; rintro e w5 ⟨rfl, rfl⟩)
            | (go_at_call 49; with_reducible refine (H1.out _ (HK0.out _ ?_)).mono ?_; assumption; rintro e w4 ⟨rfl, hb4⟩)
            | (go_at_call 49; with_reducible refine (H2.out _ (HK0.out _ ?_)).mono ?_; assumption; rintro e w4 ⟨rfl, hb4⟩)))
      | fail
    all_goals
      have Bf := HK0.out _ (by assumption)
      go_wp2
      go_ret
      exact ⟨rfl, Bf⟩
theorem canon_fold (set : List (UInt8 × UInt8)) : rgN (fun i => hasS set (UInt8.ofNat i) || hasS set (other (UInt8.ofNat i))) 256 = foldSet set := by
  have h := fun i (hi : i < 256) => has_foldSet set (UInt8.ofNat i)
  unfold foldSet at h ⊢
  refine rgN_congr 256 fun i hi => ?_
  have hv : (UInt8.ofNat i).toNat = i := by simp; omega
  have h2 := h i hi
  rw [(rgN_has _ _ 256 (Nat.le_refl _)).1, hv, decide_eq_true hi, Bool.true_and] at h2
  rw [h2]
  rfl
theorem canon_nil : rgN (fun i => hasS [] (UInt8.ofNat i) || hasS [] (other (UInt8.ofNat i))) 256 = [] := by
  have : ∀ n, rgN (fun i => hasS [] (UInt8.ofNat i) || hasS [] (other (UInt8.ofNat i))) n = [] := by
    intro n
    induction n with
    | zero => rfl
    | succ n ih => exact (cont_skip (by rfl)).trans ih
  exact this 256
theorem foldL_app : ∀ (l : List Rx) (x : Rx), foldL (l ++ [x]) = foldL l ++ [foldR x]
  | [], x => rfl
  | y :: l, x => by simp only [List.cons_append, foldL, foldL_app l x]
theorem rxv_agg_set {W : World} {k a b : Int} {v : Value} {set : List (UInt8 × UInt8)} {xs : List Rx} {B : Nat} {u : Value} (hu : OwnR W B u set) (hx : OwnX W B v xs)
    (hk : -9223372036854775808 ≤ k ∧ k ≤ 9223372036854775807) (ha : -9223372036854775808 ≤ a ∧ a ≤ 9223372036854775807) (hb : -9223372036854775808 ≤ b ∧ b ≤ 9223372036854775807) :
    RxV W (fun g => B ≤ g) (.agg #[.int .i64 k, u, .int .i64 a, .int .i64 b, v]) (.mk k set a b xs) := by
  obtain ⟨A, n, c, rfl, _, hs⟩ := hu.s
  obtain ⟨A', m, d, vs, rfl, hm, hvs, hr⟩ := hx.s
  exact .mk k a b A A' n c m d set vs xs hs hvs hm.symm hk ha hb hr
set_option maxRecDepth 100000 in
set_option maxHeartbeats 12800000 in
theorem pfold24 : ∀ (r : Rx) (W : World) (ok : Nat → Prop) (v : Value), RxV W ok v r → nodeR r = 0 → sizeR r ≤ 1000000 → Calls Tryz.prog 17 #[v] W fun e w' => ∃ v', e = .returned v' ∧ RxV w' (fun g => W.heap.size ≤ g) v' (foldR r) ∧ Below W.heap.size W w' := by
  intro r
  induction r using Rx.ind with
  | h k s a b l ih =>
    intro W ok v hv hnode hsz
    obtain ⟨i0, hi, hz0, hz1, hz2⟩ := info_parts infoX
    cases hv with
    | mk _ _ _ A B n c m d _ vs _ hset hvs hlen hk ha hb hr =>
    have hmd := hvs.1
    have hdd := hvs.2.1
    obtain ⟨hf, _, hsub⟩ := node_ok hnode
    have hml : m ≤ 1000000 := by have := sizeL_len l; unfold sizeR at hsz; omega
    have hszl : sizeL l ≤ 1000000 := by unfold sizeR at hsz; omega
    have Hres := hide (show foldR (.mk k s a b l) = .mk k (rgN (fun i => hasS s (UInt8.ofNat i) || hasS s (other (UInt8.ofNat i))) 256) a b (foldL l) by
      unfold foldR
      congr 1
      by_cases h1 : k = 1
      · rw [if_pos h1, canon_fold]
      · have := (fields_of hf).2.1
        rw [if_neg h1]
        have hs : s = [] := by
          cases s with
          | nil => rfl
          | cons x t => exact absurd (this.2 (by simp)) h1
        rw [hs, canon_nil])
    obtain ⟨w1, hw1⟩ : ∃ w1, W.alloc (.cells #[.int .i64 k, .slice A n c, .int .i64 a, .int .i64 b, .slice B m d] 25) = w1 := ⟨_, rfl⟩
    have hs1 : w1.heap.size = W.heap.size + 1 := by rw [← hw1]; simp
    have hB1 : Below W.heap.size W w1 := by rw [← hw1]; exact bnew (Below.refl _ W) _
    obtain ⟨w0, hw0⟩ : ∃ w0, w1.alloc (.cells #[.int .i64 0, .slice none 0 0, .int .i64 0, .int .i64 0, .slice none 0 0] 25) = w0 := ⟨_, rfl⟩
    have hb10 : Below w1.heap.size w1 w0 := by rw [← hw0]; exact bnew (Below.refl _ w1) _
    have hs0 : w0.heap.size = W.heap.size + 2 := by rw [← hw0]; simp [hs1]
    have hF : Five w0 W.heap.size (.int .i64 k) (.slice A n c) (.int .i64 a) (.int .i64 b) (.slice B m d) := by
      have := five_new W (.int .i64 k) (.slice A n c) (.int .i64 a) (.int .i64 b) (.slice B m d) 25
      rw [hw1] at this
      exact this.keep hb10
    have hG : FiveF w0 w1.heap.size (.int .i64 0) (.slice none 0 0) (.int .i64 0) (.int .i64 0) (.slice none 0 0) := by
      have := fiveF_new w1 (.int .i64 0) (.slice none 0 0) (.int .i64 0) (.int .i64 0) (.slice none 0 0) 25
      rw [hw0] at this
      exact this
    have Hs1 := hide hs1
    have hB0 : Below W.heap.size W w0 := bgo hB1 hb10
    have F := hide hF
    have G := hide hG
    have BB := hide hB0
    have Hs := hide ((SubsS.of hvs hlen hr).below hB0)
    have HS := hide (hset.below hB0)
    have Hlen := hide hlen
    have Hsub := hide hsub
    have hs0' : w0.heap.size ≤ W.heap.size + 2 := by omega
    have hs0p : W.heap.size + 2 ≤ w0.heap.size := by omega
    obtain ⟨_, t0, t1, t2, t3, t4⟩ := hF
    clear hset hvs hr hlen hnode hf hsub hB0 hB1 hb10 hG hs0 hs1 hsz
    go_enter Tryz.func17, Tryz.ntmps17
    go_wp2
    clear t0 t1 t2 t3 t4
    go_loopw [3, 10] (fun u x wr => ∃ i : Nat, i ≤ m ∧ x = .int .i64 (i : Int) ∧ OwnX wr (W.heap.size + 2) u (foldL (l.take i)) ∧ Below (W.heap.size + 2) w0 wr) (fun _ x _ => m - (intOf x).toNat)
    case atStart => exact ⟨0, Nat.zero_le _, rfl, OwnX.nil _ _, Below.refl _ _⟩
    case round =>
      obtain ⟨i, hi1, rfl, ho, hbel⟩ := hrel
      obtain ⟨w3, hw3⟩ : ∃ w3, w3 = wr := ⟨wr, rfl⟩
      subst hw3
      obtain ⟨u, huu⟩ : ∃ u, u = u3 := ⟨u3, rfl⟩
      subst huu
      have hbel0 := hbel.mono hs0'
      have hsz3 : W.heap.size + 2 ≤ w3.heap.size := Nat.le_trans hs0p hbel.size
      have B3 := hide hbel
      have O3 := hide ho
      have Fl := hide (show (foldL (l.take i)).length = i by rw [foldL_len, List.length_take, Hlen.out]; omega)
      by_cases hlt : i < m
      · have hlt' : (i : Int) < (m : Int) := by omega
        obtain ⟨x, g, o, q0, qA, qn, qc, q1, q2, qB, qm, qd, hxl, rfl, x0, x1, x2, x3, x4, rx⟩ := (Hs.out.below hbel0).at_ hlt
        have hmem : x ∈ l := List.mem_of_getElem? hxl
        have hb5 := bnew (Below.refl _ w3) (.cells #[.int .i64 q0, .slice qA qn qc, .int .i64 q1, .int .i64 q2, .slice qB qm qd] 25)
        have hfv := five_new w3 (.int .i64 q0) (.slice qA qn qc) (.int .i64 q1) (.int .i64 q2) (.slice qB qm qd) 25
        obtain ⟨-, y0, y1, y2, y3, y4⟩ := hfv
        have HC := hide (ih x hmem _ ok _ (rx.kept hb5) (Hsub.out x hmem) (by have := sizeL_mem hmem; omega))
        have Hn := hide (show foldL (l.take i) ++ [foldR x] = foldL (l.take (i + 1)) by rw [rx_take hxl, foldL_app])
        have O4 := hide (ho.below hb5)
        have B4 := hide (hbel.trans (hb5.mono hsz3))
        have hsz4 : (w3.alloc (.cells #[.int .i64 q0, .slice qA qn qc, .int .i64 q1, .int .i64 q2, .slice qB qm qd] 25)).heap.size = w3.heap.size + 1 := by simp
        have hul : ∀ g, u.ownBlock = some g → g < w3.heap.size := fun g hg => by
          obtain ⟨cs, vs, h1, _⟩ := ho
          exact (h1.lt g hg).2
        have Hul := hide hul
        have Hsz4 := hide hsz4
        clear hxl rx hmem hbel hbel0 ho hul hsz4 hb5
        go_wp2_with fail
        with_reducible refine HC.out.mono ?_
        rintro e w5 ⟨v5, rfl, hr5, hb5⟩
        obtain ⟨p0, pA, pn, pc, p1, p2, pB, pm, pd, rfl⟩ := hr5.nine
        have O5 := hide (O4.out.below hb5)
        have hsz5 : w3.heap.size + 1 ≤ w5.heap.size := by rw [← Hsz4.out]; exact hb5.size
        have B5 := hide (B4.out.trans (hb5.mono (by rw [Hsz4.out]; omega)))
        have hB5 : W.heap.size + 2 ≤ w5.heap.size := by omega
        have R5 := hide (hr5.map (fun _ _ _ => rfl) fun g hg _ => (⟨by rw [Hsz4.out] at hg; omega, fun e => by have := Hul.out g e; rw [Hsz4.out] at hg; omega⟩ : W.heap.size + 2 ≤ g ∧ u.ownBlock ≠ some g))
        clear hr5 hb5 y0 y1 y2 y3 y4 x0 x1 x2 x3 x4
        go_wp2_with (first
          | (at_builtin; refine wp_push_rx rfl (.tmp 14) (.tmp 17) 23 rfl i0 _ 72 Tryz.underlying23 hi hz0 hz1 hz2 rfl (W.heap.size + 2) u (foldL (l.take i)) rfl w5 _ _ _ _ _ (foldR x) O5.out hB5 _ rfl rfl R5.out (by rw [Fl.out]; omega) (by rw [Fl.out]; unfold maxLen; omega) ?_; intro v7 w7 hown7 hb7; rw [Hn.out] at hown7; have O7 := hide hown7; have B7 := hide (B5.out.trans hb7); clear hown7 hb7)
          | fail)
        go_roundw
        case rel => exact ⟨i + 1, by omega, by go_num, O7.out, B7.out⟩
        case measure => simp [intOf]; omega
      · have hlt' : ¬ (i : Int) < (m : Int) := by omega
        have hall : l.take i = l := List.take_of_length_le (by rw [Hlen.out]; omega)
        rw [hall] at ho
        have O4 := hide ho
        have hf3 := F.out.keep hbel0
        have HF3 := hide hf3
        have HC := hide (canon47 48 #[.pointer (some ⟨W.heap.size, 0, none⟩)] (fun x => hasS s x || hasS s (other x)) w3 run48 (fun W' c z hz hb' => fold48 c z hz W.heap.size (hf3.keep hb').2.2.1 ((HS.out.below hbel0).below hb')))
        clear hall ho hbel hbel0 hf3 O3
        go_wp2_with fail
        with_reducible refine HC.out.mono ?_
        rintro e w5 ⟨v5, rfl, ho5, hb5⟩
        have hf5 := HF3.out.keep hb5
        obtain ⟨-, t0, t1, t2, t3, t4⟩ := hf5
        have hB5 := B3.out.trans (hb5.mono hsz3)
        have hg5 := G.out.at_ hB5 (by rw [Hs1.out]; omega)
        have HG5 := hide hg5
        obtain ⟨⟨-, f1, f2, f3, f4, f5⟩, f6, f7, f8, f9, f10⟩ := hg5
        have RX := hide (rxv_agg_set (ho5.mono hsz3) (O4.out.below hb5) hk ha hb)
        obtain ⟨pA, pn, pc, rfl, -, -⟩ := ho5.s
        obtain ⟨oA, on, oc, ovs, rfl, -, -, -⟩ := O4.out.s
        have HBx := hide (BB.out.trans ((hB5).mono (Nat.le_add_right _ 2)))
        clear ho5 hb5 hB5 O4
        go_wp2
        exact bodyPost_ret (res_boxR rfl _ _ w1.heap.size _ _ _ _ _ rfl (put5_five HG5.out (.int .i64 k) (.slice pA pn pc) (.int .i64 a) (.int .i64 b) (.slice oA on oc))) rfl ⟨_, rfl, by rw [Hres.out]; exact put5_rxv RX.out (by rw [Hs1.out]; omega) _ (by omega), put5_below HBx.out (by rw [Hs1.out]; omega)⟩
theorem foldC {W : World} {ok : Nat → Prop} {v : Value} {r : Rx} (h : RxV W ok v r) (hr : rightR r = 0) : Calls Tryz.prog 17 #[v] W fun e w' => ∃ v', e = .returned v' ∧ RxV w' (fun _ => True) v' (foldR r) ∧ Below W.heap.size W w' := by
  obtain ⟨h1, h2, -⟩ := right_node hr
  refine (pfold24 r W ok v h h1 (by omega)).mono ?_
  rintro e w' ⟨v', rfl, h3, h4⟩
  exact ⟨v', rfl, h3.map (fun _ _ _ => rfl) (fun _ _ _ => trivial), h4⟩
end Go.Proofs.YtlnbjdlooghpeaaGreatDoor
