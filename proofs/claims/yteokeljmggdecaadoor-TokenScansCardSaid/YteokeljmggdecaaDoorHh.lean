/- Walks of layer 11's program: the map of keywords. -/
import Derived.Test.YteokeljmggdecaaDoorHm
import Derived.StringKeys
namespace Go.Proofs.YteokeljmggdecaaDoor
open Go.RowKit Go.Maps

def keyB (l : List UInt8) : Lit := .string l
theorem keyB_inj {a b : List UInt8} : keyB a = keyB b ↔ a = b := ⟨fun h => by injection h, fun h => by rw [h]⟩
theorem keyed9 : Keyed Tryd.prog 9 := string_keyed Tryd.underlying9
theorem zero4 (w : World) : (zeroValue 4).run Tryd.prog w = .ok (.bool false) w := by kernel_rfl
/-- Block b is a map of n keys, the first n keywords. -/
def KwM (w : World) (b n : Nat) : Prop := ∃ D : DataW Unit, w.ownsMap Tryd.prog 9 trueElem b n D ∧ SetD D keyB (fun t => t ∈ kwL.take n)
/-- Block b is the map of the keywords. -/
def KwD (w : World) (b : Nat) : Prop := ∃ (n : Nat) (D : DataW Unit), w.ownsMap Tryd.prog 9 trueElem b n D ∧ ∀ t, Maps.has D (keyB t) = isKw t
theorem KwM.made (w : World) : KwM (w.alloc (.map #[] 0)) w.heap.size 0 := ⟨.map [], World.ownsMap_made w Tryd.prog 9 trueElem, ⟨(SetD.start keyB).1, fun x => ((SetD.start keyB).2 x).trans (by simp)⟩⟩
theorem KwM.all {w : World} {b : Nat} (h : KwM w b 16) : KwD w b := by
  obtain ⟨D, h1, h2⟩ := h
  refine ⟨16, D, h1, fun t => ?_⟩
  rw [Bool.eq_iff_iff, h2.2]
  unfold isKw
  rw [List.contains_iff_mem]
  rfl
theorem KwD.below {w w' : World} {b : Nat} (h : KwD w b) (hb : Below w.heap.size w w') : KwD w' b := by
  obtain ⟨n, D, h1, h2⟩ := h
  exact ⟨n, D, mapB h1 hb, h2⟩
theorem KwD.lt {w : World} {b : Nat} (h : KwD w b) : b < w.heap.size := by
  obtain ⟨n, D, h1, _⟩ := h
  exact h1.lt
/-- Whatever is written elsewhere. -/
theorem KwD.set {w : World} {b : Nat} (h : KwD w b) {p : Addr} {u x : Value} (hc : w.cell? p = some x) : KwD (w.setCell p u) b := by
  obtain ⟨n, D, h1, h2⟩ := h
  refine ⟨n, D, ?_, h2⟩
  obtain ⟨es, clock, hb, h3⟩ := h1
  refine ⟨es, clock, ?_, h3⟩
  have hne : b ≠ p.block := fun e => by
    rw [World.cell?, ← e, hb] at hc
    cases hc
  exact (Below.heap_setCell w p u b hne).trans hb
theorem KwD.look {w : World} {b : Nat} (h : KwD w b) (s : ByteArray) (hs : s.size ≤ maxLen) : (Instr.lookup 39 (.map (some b)) (.string s) false).run Tryd.prog w = .ok (.bool (isKw s.data.toList)) w := by
  obtain ⟨n, D, h1, h2⟩ := h
  have := look_true h1 keyed9 Tryd.underlying39 (zero4 w) (key := .string s) (kl := keyB s.data.toList) (by rw [Go.WideMaps.keyOf_string_mk Tryd.underlying9 hs]; rfl)
  rw [h2] at this
  exact this
section
variable {ops : Array Oper} {rest : List Oper} {o : Oper} {a : Act} {Q : Exit → Act → World → Prop}
/-- The next keyword of a literal. -/
theorem wp_kw (w : World) (b n : Nat) (s : ByteArray) (B : Nat) (hg : o.guard = none) (m x v : Operand) (hop : o.op = Op.insert 39 m x v) (hm : a.eval m = .map (some b)) (hx : a.eval x = .string s) (hv : a.eval v = .bool true)
    (h : KwM w b n) (hs : kwL[n]? = some s.data.toList) (hB : B ≤ b)
    (hK : ∀ w', KwM w' b (n + 1) → Below B w w' → wpList Tryd.prog ops Q rest (a.put o.dst undef) w') : wpList Tryd.prog ops Q (o :: rest) a w := by
  refine wpList_plain hg fun K' hK' => ?_
  obtain ⟨D, h1, h2⟩ := h
  have hlt : n < 16 := (List.getElem?_eq_some_iff.1 hs).1
  have hsz : s.size ≤ maxLen := by
    have hmem : s.data.toList ∈ kwL := List.mem_of_getElem? hs
    have := (kw_facts _ hmem).2.2.2
    rw [size_list] at this
    unfold maxLen
    omega
  obtain ⟨w', hrun, r1, r2⟩ := h1.update (val := .bool true) keyed9 Tryd.underlying39 (by unfold maxLen; omega) (key := .string s) (kl := keyB s.data.toList) (by rw [Go.WideMaps.keyOf_string_mk Tryd.underlying9 hsz]; rfl) trueElem_mk
  unfold Oper.wp
  simp [execOp, hop, hm, hx, hv, hrun, Result.andThen]
  refine hK' _ _ (hK w' ⟨_, r1, ?_⟩ ?_)
  · have h3 := h2.put (fun _ => (show WideAt.IsKeyLit (keyB _) from trivial)) s.data.toList (.lit (.bool true))
    refine ⟨h3.1, fun y => (h3.2 y).trans ?_⟩
    show (y ∈ kwL.take n ∨ keyB y = keyB s.data.toList) ↔ y ∈ kwL.take (n + 1)
    obtain ⟨hlt, e⟩ := List.getElem?_eq_some_iff.1 hs
    rw [keyB_inj, List.take_succ_eq_append_getElem hlt, e, List.mem_append]
    simp
  · exact (Below.refl B w).grown r2 (by have := h1.lt; omega) fun k hk => (by injection hk with hk; subst hk; exact hB)
end

/-- From w0 on a map was made that has the first n keywords. -/
def KwT (w0 w : World) (n : Nat) : Prop := KwM w w0.heap.size n ∧ Below w0.heap.size w0 w
theorem wp_kwt {ops : Array Oper} {rest : List Oper} {o : Oper} {a : Act} {Q : Exit → Act → World → Prop} (w0 w : World) (n : Nat) (s : ByteArray) (hg : o.guard = none) (m x v : Operand) (hop : o.op = Op.insert 39 m x v) (hm : a.eval m = .map (some w0.heap.size)) (hx : a.eval x = .string s) (hv : a.eval v = .bool true)
    (h : KwT w0 w n) (hs : kwL[n]? = some s.data.toList)
    (hK : ∀ w', KwT w0 w' (n + 1) → wpList Tryd.prog ops Q rest (a.put o.dst undef) w') : wpList Tryd.prog ops Q (o :: rest) a w :=
  wp_kw w w0.heap.size n s w0.heap.size hg m x v hop hm hx hv h.1 hs (Nat.le_refl _) fun w' h1 h2 => hK w' ⟨h1, h.2.trans h2⟩

set_option maxRecDepth 20000 in
set_option maxHeartbeats 1600000 in
theorem pkeywords (w : World) : Calls Tryd.prog 28 #[] w fun e w' => e = .returned (.map (some w.heap.size)) ∧ KwD w' w.heap.size ∧ Below w.heap.size w w' := by
  have hm : KwT w (w.alloc (.map #[] 0)) 0 := ⟨KwM.made w, bnew (Below.refl w.heap.size w) (.map #[] 0)⟩
  have hmm := @run_makeMap Tryd.prog
  go_enter Tryd.func28, Tryd.ntmps28
  go_wp2_with (first
    | (refine wp_kwt w _ _ _ rfl _ _ _ rfl rfl rfl rfl (by assumption) (by rfl) ?_; intro w1 h1)
    | fail)
  go_ret
  exact ⟨rfl, h1.1.all, h1.2⟩
set_option maxRecDepth 20000 in
theorem pkeyword (s : ByteArray) (hs : s.size ≤ maxLen) (w : World) : Calls Tryd.prog 20 #[.string s] w fun e w' => e = .returned (.bool (isKw s.data.toList)) ∧ Below w.heap.size w w' := by
  have HC := hide (pkeywords w)
  obtain ⟨q, hq⟩ : ∃ q, isKw s.data.toList = q := ⟨_, rfl⟩
  rw [hq]
  have Hq := hide hq
  clear hq
  go_enter Tryd.func20, Tryd.ntmps20
  go_wp2_with fail
  with_reducible refine HC.out.mono ?_
  rintro e w1 ⟨rfl, hkw, hb⟩
  have hl := hkw.look s hs
  rw [Hq.out] at hl
  have HB := hide hb
  clear hkw hb
  go_wp2
  go_ret
  exact ⟨rfl, HB.out⟩
end Go.Proofs.YteokeljmggdecaaDoor
