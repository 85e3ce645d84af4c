/- Expressions in memory; no function of a program. -/
import Derived.Test.YtmiegjefmebpdaaGreatDoorMem
import Derived.Test.YtmiegjefmebpdaaGreatDoorRf
namespace Go.Proofs.YtmiegjefmebpdaaGreatDoor
open Go.RowKit
open Go.ChangeShapes (block_add)

/-- The slice at A of n ranges is set; its cells lie in blocks of which ok holds. -/
def RgS (W : World) (ok : Nat → Prop) (A : Option Addr) (n c : Nat) (set : List (UInt8 × UInt8)) : Prop :=
  n ≤ c ∧ c ≤ 9223372036854775807 ∧ set.length = n ∧ ∀ i r, set[i]? = some r → ∃ g o, A = some ⟨g, o, none⟩ ∧ ok g ∧ W.cell? ⟨g, o + i * 2, none⟩ = some (.int .u8 (r.1.toNat : Int)) ∧ W.cell? ⟨g, o + i * 2 + 1, none⟩ = some (.int .u8 (r.2.toNat : Int))
/-- The slice at B of expressions holds the values vs. -/
def VsS (W : World) (ok : Nat → Prop) (B : Option Addr) (m d : Nat) (vs : List Value) : Prop :=
  m ≤ d ∧ d ≤ 9223372036854775807 ∧ vs.length = m ∧ ∀ i v, vs[i]? = some v → ∃ g o c0 c1 c2 c3 c4, B = some ⟨g, o, none⟩ ∧ ok g ∧ v = .agg #[c0, c1, c2, c3, c4] ∧
    W.cell? ⟨g, o + i * 5, none⟩ = some c0 ∧ W.cell? ⟨g, o + i * 5 + 1, none⟩ = some c1 ∧ W.cell? ⟨g, o + i * 5 + 2, none⟩ = some c2 ∧ W.cell? ⟨g, o + i * 5 + 3, none⟩ = some c3 ∧ W.cell? ⟨g, o + i * 5 + 4, none⟩ = some c4
/-- The value is the expression. -/
inductive RxV (W : World) (ok : Nat → Prop) : Value → Rx → Prop
  | mk (k a b : Int) (A B : Option Addr) (n c m d : Nat) (set : List (UInt8 × UInt8)) (vs : List Value) (l : List Rx) (hset : RgS W ok A n c set) (hvs : VsS W ok B m d vs) (hlen : l.length = m)
      (hk : -9223372036854775808 ≤ k ∧ k ≤ 9223372036854775807) (ha : -9223372036854775808 ≤ a ∧ a ≤ 9223372036854775807) (hb : -9223372036854775808 ≤ b ∧ b ≤ 9223372036854775807)
      (hr : ∀ (i : Nat) (v : Value) (x : Rx), vs[i]? = some v → l[i]? = some x → RxV W ok v x) : RxV W ok (.agg #[.int .i64 k, .slice A n c, .int .i64 a, .int .i64 b, .slice B m d]) (.mk k set a b l)

section
variable {W W' : World} {ok ok' : Nat → Prop}
theorem RgS.map {A : Option Addr} {n c : Nat} {set : List (UInt8 × UInt8)} (h : RgS W ok A n c set) (hc : ∀ (p : Addr), ok p.block → p.block < W.heap.size → W'.cell? p = W.cell? p) (ho : ∀ g, ok g → g < W.heap.size → ok' g) : RgS W' ok' A n c set := by
  refine ⟨h.1, h.2.1, h.2.2.1, fun i r hr => ?_⟩
  obtain ⟨g, o, hA, hg, h0, h1⟩ := h.2.2.2 i r hr
  have hlt : g < W.heap.size := World.block_lt_of_cell? _ _ h0
  exact ⟨g, o, hA, ho g hg hlt, (hc ⟨g, o + i * 2, none⟩ hg hlt).trans h0, (hc ⟨g, o + i * 2 + 1, none⟩ hg hlt).trans h1⟩
theorem VsS.map {B : Option Addr} {m d : Nat} {vs : List Value} (h : VsS W ok B m d vs) (hc : ∀ (p : Addr), ok p.block → p.block < W.heap.size → W'.cell? p = W.cell? p) (ho : ∀ g, ok g → g < W.heap.size → ok' g) : VsS W' ok' B m d vs := by
  refine ⟨h.1, h.2.1, h.2.2.1, fun i v hv => ?_⟩
  obtain ⟨g, o, c0, c1, c2, c3, c4, hB, hg, e, h0, h1, h2, h3, h4⟩ := h.2.2.2 i v hv
  have hlt : g < W.heap.size := World.block_lt_of_cell? _ _ h0
  exact ⟨g, o, c0, c1, c2, c3, c4, hB, ho g hg hlt, e, (hc ⟨g, _, none⟩ hg hlt).trans h0, (hc ⟨g, _, none⟩ hg hlt).trans h1, (hc ⟨g, _, none⟩ hg hlt).trans h2, (hc ⟨g, _, none⟩ hg hlt).trans h3, (hc ⟨g, _, none⟩ hg hlt).trans h4⟩
theorem RxV.map {v : Value} {r : Rx} (h : RxV W ok v r) (hc : ∀ (p : Addr), ok p.block → p.block < W.heap.size → W'.cell? p = W.cell? p) (ho : ∀ g, ok g → g < W.heap.size → ok' g) : RxV W' ok' v r := by
  induction h with
  | mk k a b A B n c m d set vs l hset hvs hlen hk ha hb hr ih => exact .mk k a b A B n c m d set vs l (hset.map hc ho) (hvs.map hc ho) hlen hk ha hb ih
theorem RgS.below {A : Option Addr} {n c : Nat} {set : List (UInt8 × UInt8)} (h : RgS W ok A n c set) (hb : Below W.heap.size W W') : RgS W' ok A n c set := h.map (fun _ _ hp => hb.cell hp) fun _ h _ => h
theorem VsS.below {B : Option Addr} {m d : Nat} {vs : List Value} (h : VsS W ok B m d vs) (hb : Below W.heap.size W W') : VsS W' ok B m d vs := h.map (fun _ _ hp => hb.cell hp) fun _ h _ => h
theorem RxV.kept {v : Value} {r : Rx} (h : RxV W ok v r) (hb : Below W.heap.size W W') : RxV W' ok v r := h.map (fun _ _ hp => hb.cell hp) fun _ h _ => h
theorem RgS.at_ {A : Option Addr} {n c : Nat} {set : List (UInt8 × UInt8)} (h : RgS W ok A n c set) {i : Nat} (hi : i < n) :
    ∃ g o r, A = some ⟨g, o, none⟩ ∧ set[i]? = some r ∧ W.cell? ⟨g, o + i * 2, none⟩ = some (.int .u8 (r.1.toNat : Int)) ∧ W.cell? ⟨g, o + i * 2 + 1, none⟩ = some (.int .u8 (r.2.toNat : Int)) := by
  have hl : i < set.length := by rw [h.2.2.1]; exact hi
  obtain ⟨g, o, hA, _, h0, h1⟩ := h.2.2.2 i _ (List.getElem?_eq_getElem hl)
  exact ⟨g, o, set[i], hA, List.getElem?_eq_getElem hl, h0, h1⟩
theorem VsS.at_ {B : Option Addr} {m d : Nat} {vs : List Value} (h : VsS W ok B m d vs) {i : Nat} (hi : i < m) :
    ∃ g o c0 c1 c2 c3 c4, B = some ⟨g, o, none⟩ ∧ vs[i]? = some (.agg #[c0, c1, c2, c3, c4]) ∧
    W.cell? ⟨g, o + i * 5, none⟩ = some c0 ∧ W.cell? ⟨g, o + i * 5 + 1, none⟩ = some c1 ∧ W.cell? ⟨g, o + i * 5 + 2, none⟩ = some c2 ∧ W.cell? ⟨g, o + i * 5 + 3, none⟩ = some c3 ∧ W.cell? ⟨g, o + i * 5 + 4, none⟩ = some c4 := by
  have hl : i < vs.length := by rw [h.2.2.1]; exact hi
  obtain ⟨g, o, c0, c1, c2, c3, c4, hB, _, e, h0⟩ := h.2.2.2 i _ (List.getElem?_eq_getElem hl)
  exact ⟨g, o, c0, c1, c2, c3, c4, hB, by rw [List.getElem?_eq_getElem hl, e], h0⟩
end

/-- Block b holds the five cells. -/
def Five (w : World) (b : Nat) (c0 c1 c2 c3 c4 : Value) : Prop :=
  b < w.heap.size ∧ w.cell? ⟨b, 0, none⟩ = some c0 ∧ w.cell? ⟨b, 1, none⟩ = some c1 ∧ w.cell? ⟨b, 2, none⟩ = some c2 ∧ w.cell? ⟨b, 3, none⟩ = some c3 ∧ w.cell? ⟨b, 4, none⟩ = some c4
theorem five_new (w : World) (c0 c1 c2 c3 c4 : Value) (T : TypeId) : Five (w.alloc (.cells #[c0, c1, c2, c3, c4] T)) w.heap.size c0 c1 c2 c3 c4 := by
  refine ⟨by simp, ?_, ?_, ?_, ?_, ?_⟩ <;> (rw [World.cell?_alloc_mark]; rfl)
theorem Five.keep {w w' : World} {b : Nat} {c0 c1 c2 c3 c4 : Value} (h : Five w b c0 c1 c2 c3 c4) (hb : Below w.heap.size w w') : Five w' b c0 c1 c2 c3 c4 := by
  obtain ⟨h0, h1, h2, h3, h4, h5⟩ := h
  have key : ∀ (k : Nat) (u : Value), w.cell? ⟨b, k, none⟩ = some u → w'.cell? ⟨b, k, none⟩ = some u := fun k u hu => (hb.cell (p := ⟨b, k, none⟩) h0).trans hu
  exact ⟨Nat.lt_of_lt_of_le h0 hb.size, key _ _ h1, key _ _ h2, key _ _ h3, key _ _ h4, key _ _ h5⟩

end Go.Proofs.YtmiegjefmebpdaaGreatDoor
