/- Walk of layer 8's reference: Fold. -/
import Derived.Test.YtmiegjefmebpdaaGreatDoorQ4
import Derived.Test.YtmiegjefmebpdaaGreatDoorKR
import Derived.Test.YtmiegjefmebpdaaGreatDoorRf
import Derived.Deep.RegionLaw
import Derived.Deep.AppendLies
import Derived.Deep.DeepCutAuto
namespace Go.Proofs.YtmiegjefmebpdaaGreatDoor
open Go.RowKit

/-- The ranges that the first n letters add. -/
def addF (s : List (UInt8 × UInt8)) : Nat → List (UInt8 × UInt8)
  | 0 => []
  | n + 1 => (addF s n ++ (if hasS s (UInt8.ofNat (97 + n)) = true then [(UInt8.ofNat (65 + n), UInt8.ofNat (65 + n))] else [])) ++ (if hasS s (UInt8.ofNat (65 + n)) = true then [(UInt8.ofNat (97 + n), UInt8.ofNat (97 + n))] else [])
theorem addF_len (s : List (UInt8 × UInt8)) : ∀ n, (addF s n).length ≤ 2 * n
  | 0 => by simp [addF]
  | n + 1 => by
    have := addF_len s n
    unfold addF
    rw [List.length_append, List.length_append]
    split <;> split <;> simp <;> omega
theorem has_single (x c : UInt8) : hasS [(x, x)] c = decide (c = x) := by
  rw [has_one]
  by_cases h : c = x
  · subst h; simp
  · rw [decide_eq_false h]
    have : c.toNat ≠ x.toNat := fun e => h (UInt8.toNat_inj.1 e)
    simp
    omega
theorem addF_has (s : List (UInt8 × UInt8)) (c : UInt8) : ∀ n, n ≤ 26 → hasS (addF s n) c = (decide ((65 ≤ c.toNat ∧ c.toNat < 65 + n) ∨ (97 ≤ c.toNat ∧ c.toNat < 97 + n)) && hasS s (othB c))
  | 0, _ => by
    have : ¬ ((65 ≤ c.toNat ∧ c.toNat < 65 + 0) ∨ (97 ≤ c.toNat ∧ c.toNat < 97 + 0)) := by omega
    rw [decide_eq_false this]
    rfl
  | n + 1, hn => by
    have ih := addF_has s c n (by omega)
    unfold addF
    rw [has_app, has_app, ih]
    have hc : c.toNat < 256 := c.toNat_lt
    have e1 : hasS (if hasS s (UInt8.ofNat (97 + n)) = true then [(UInt8.ofNat (65 + n), UInt8.ofNat (65 + n))] else []) c = (decide (c = UInt8.ofNat (65 + n)) && hasS s (UInt8.ofNat (97 + n))) := by
      split
      · rename_i h; rw [has_single, h, Bool.and_true]
      · rename_i h; rw [show hasS s (UInt8.ofNat (97 + n)) = false by simpa using h, Bool.and_false]; rfl
    have e2 : hasS (if hasS s (UInt8.ofNat (65 + n)) = true then [(UInt8.ofNat (97 + n), UInt8.ofNat (97 + n))] else []) c = (decide (c = UInt8.ofNat (97 + n)) && hasS s (UInt8.ofNat (65 + n))) := by
      split
      · rename_i h; rw [has_single, h, Bool.and_true]
      · rename_i h; rw [show hasS s (UInt8.ofNat (65 + n)) = false by simpa using h, Bool.and_false]; rfl
    rw [e1, e2]
    have u1 : c = UInt8.ofNat (65 + n) ↔ c.toNat = 65 + n := by rw [← UInt8.toNat_inj]; simp; omega
    have u2 : c = UInt8.ofNat (97 + n) ↔ c.toNat = 97 + n := by rw [← UInt8.toNat_inj]; simp; omega
    by_cases h1 : c.toNat = 65 + n
    · have ho : othB c = UInt8.ofNat (97 + n) := by unfold othB; rw [if_neg (by omega), if_pos (by omega), h1]; congr 1; omega
      have hd1 : ((65 ≤ c.toNat ∧ c.toNat < 65 + (n + 1)) ∨ (97 ≤ c.toNat ∧ c.toNat < 97 + (n + 1))) := by omega
      have hd0 : ¬ ((65 ≤ c.toNat ∧ c.toNat < 65 + n) ∨ (97 ≤ c.toNat ∧ c.toNat < 97 + n)) := by omega
      rw [decide_eq_true hd1, decide_eq_false hd0, decide_eq_true (u1.2 h1), decide_eq_false (fun e => by have := u2.1 e; omega), ho]
      simp
    · by_cases h2 : c.toNat = 97 + n
      · have ho : othB c = UInt8.ofNat (65 + n) := by unfold othB; rw [if_pos (by omega), h2]; congr 1; omega
        have hd1 : ((65 ≤ c.toNat ∧ c.toNat < 65 + (n + 1)) ∨ (97 ≤ c.toNat ∧ c.toNat < 97 + (n + 1))) := by omega
        have hd0 : ¬ ((65 ≤ c.toNat ∧ c.toNat < 65 + n) ∨ (97 ≤ c.toNat ∧ c.toNat < 97 + n)) := by omega
        rw [decide_eq_true hd1, decide_eq_false hd0, decide_eq_true (u2.2 h2), decide_eq_false (fun e => h1 (u1.1 e)), ho]
        simp
      · have hiff : ((65 ≤ c.toNat ∧ c.toNat < 65 + (n + 1)) ∨ (97 ≤ c.toNat ∧ c.toNat < 97 + (n + 1))) ↔ ((65 ≤ c.toNat ∧ c.toNat < 65 + n) ∨ (97 ≤ c.toNat ∧ c.toNat < 97 + n)) := by omega
        rw [decide_eq_false (fun e => h1 (u1.1 e)), decide_eq_false (fun e => h2 (u2.1 e)), show decide ((65 ≤ c.toNat ∧ c.toNat < 65 + (n + 1)) ∨ (97 ≤ c.toNat ∧ c.toNat < 97 + (n + 1))) = decide ((65 ≤ c.toNat ∧ c.toNat < 65 + n) ∨ (97 ≤ c.toNat ∧ c.toNat < 97 + n)) from decide_eq_decide.2 hiff]
        simp
/-- A set with all its letters' other cases, put in order. -/
theorem foldSet_add (s : List (UInt8 × UInt8)) : rangesS (s ++ addF s 26) false = foldSet s := by
  refine foldSet_is fun c => ?_
  rw [has_app, addF_has s c 26 (Nat.le_refl _)]
  by_cases h : (65 ≤ c.toNat ∧ c.toNat < 65 + 26) ∨ (97 ≤ c.toNat ∧ c.toNat < 97 + 26)
  · rw [decide_eq_true h, Bool.true_and]
  · have ho : othB c = c := by unfold othB; rw [if_neg (by omega), if_neg (by omega)]
    rw [decide_eq_false h, ho]
    simp


section
variable {P : Program} {ops : Array Oper} {o : Oper} {a : Act} {K : Act → World → Prop} {Q : Exit → Act → World → Prop} {E : Prop}
/-- The same at a step of a region that draws its order. -/
theorem step_push_rx (hgd : o.guard = none) (s x : Operand) (t : TypeId) (ho : o.op = .call { callee := .builtin .append, args := #[s, x], argTypes := #[t, t] })
    (i : TypeInfo) (z : Value) (bytes : Nat) (ht : P.underlying t = some (.slice 25)) (hi : P.info? 25 = some i) (hz : i.zero = some z) (hsize : i.size = 5) (hby : i.bytes = bytes) (hzs : z.cells.size = 5)
    (B : Nat) (v : Value) (xs : List Rx) (hs : a.eval s = v) (w0 : World) (c0 c1 c2 c3 c4 : Value) (r : Rx) (hown : OwnX w0 B v xs) (hB : B ≤ w0.heap.size) (H : Nat) (hH : H = w0.heap.size)
    (hx : a.eval x = .slice (some ⟨H, 0, none⟩) 1 1) (hr : RxV w0 (fun g => B ≤ g ∧ v.ownBlock ≠ some g) (.agg #[c0, c1, c2, c3, c4]) r) (hlen : (xs.length + 1) * bytes ≤ 140737488355328) (h63 : xs.length + 1 ≤ maxLen)
    (h : ∀ g cap w', OwnX w' B (.slice (some ⟨g, 0, none⟩) (xs.length + 1) cap) (xs ++ [r]) → Below B w0 w' → K (a.put o.dst (.slice (some ⟨g, 0, none⟩) (xs.length + 1) cap)) w') :
    if Region.wanted o (yielded ops a.tmps) = true then Oper.wp P o a (w0.alloc (.cells #[c0, c1, c2, c3, c4] 25)) K Q else E := by
  subst hH
  obtain ⟨cs, vs, hown, hvl, h3, h4⟩ := hown
  have hone : ∀ u ∈ [c0, c1, c2, c3, c4], u.oneCell' = true := by
    obtain ⟨d0, d1, d2, d3, d4, e, h0, h1, h2, h3', h4'⟩ := hr.agg
    injection e with e
    injection e with e
    simp only [List.cons.injEq, and_true] at e
    obtain ⟨rfl, rfl, rfl, rfl, rfl⟩ := e
    intro u hu
    simp only [List.mem_cons, List.not_mem_nil, or_false] at hu
    rcases hu with rfl | rfl | rfl | rfl | rfl <;> assumption
  refine step_append_lies _ hgd s x t ho B 25 i z 5 bytes ht hi hz hsize hby hzs (by decide) v xs.length cs hs (hown.alloc _) ⟨w0.heap.size, 0, none⟩ 1 1 [c0, c1, c2, c3, c4] hx rfl (c1_five _ _ _ _ _ _ _) hone (by decide) h63 hlen (by simp; omega) (w0.heap.size + 1) (by simp) ?_
  intro g cap w' hown' hg hat0 _
  obtain ⟨v', hv'⟩ : ∃ v', Value.slice (some ⟨g, 0, none⟩) (xs.length + 1) cap = v' := ⟨_, rfl⟩
  have hob : v'.ownBlock = some g := by rw [← hv']; rfl
  have hat : v'.ownBlock = v.ownBlock ∨ v'.ownBlock = some (w0.alloc (.cells #[c0, c1, c2, c3, c4] 25)).heap.size := by
    rcases hat0 with h | h
    · exact Or.inl (hob.trans h.symm)
    · exact Or.inr (by rw [hob, h]; simp)
  rw [hv'] at hown'
  have main : OwnX w' B v' (xs ++ [r]) ∧ Below B w0 w' := by
    have hF : Far w0 w' v v' := by
      refine ⟨by have := hg.size; simp at this; omega, fun g hlt hne => ⟨?_, ?_⟩⟩
      · exact (hg.block g (by simp; omega) (fun e => hne e.symm)).trans (((Below.refl w0.heap.size w0).alloc (Nat.le_refl _) _).block g hlt)
      · rcases hat with hat | hat
        · rw [hat]; exact hne
        · rw [hat]; intro e; injection e with e; simp at e; omega
    have hmap : ∀ (u : Value) (y : Rx), RxV w0 (fun g => B ≤ g ∧ v.ownBlock ≠ some g) u y → RxV w' (fun g => B ≤ g ∧ v'.ownBlock ≠ some g) u y := fun u y hy =>
      hy.map (fun p hp hlt => World.cell?_of_block (hF.2 p.block hlt hp.2).1) fun g hg hlt => ⟨hg.1, (hF.2 g hlt hg.2).2⟩
    have hcl : cs.length = xs.length * 5 := hown.1
    refine ⟨⟨cs ++ [c0, c1, c2, c3, c4], vs ++ [.agg #[c0, c1, c2, c3, c4]], by rw [List.length_append]; exact hown', by simp [hvl], fun j u hu => ?_, fun j u y hu hy => ?_⟩, ?_⟩
    · by_cases hj : j < vs.length
      · rw [List.getElem?_append_left hj] at hu
        obtain ⟨d0, d1, d2, d3, d4, e, e0, e1, e2, e3, e4⟩ := h3 j u hu
        have key : ∀ (q : Nat) (d : Value), q < 5 → cs[j * 5 + q]? = some d → (cs ++ [c0, c1, c2, c3, c4])[j * 5 + q]? = some d := fun q d hq hd => by
          rw [List.getElem?_append_left (by omega)]; exact hd
        exact ⟨d0, d1, d2, d3, d4, e, key 0 _ (by omega) e0, key 1 _ (by omega) e1, key 2 _ (by omega) e2, key 3 _ (by omega) e3, key 4 _ (by omega) e4⟩
      · rw [List.getElem?_append_right (by omega)] at hu
        have hj' : j = vs.length := by
          have := (List.getElem?_eq_some_iff.1 hu).1
          simp at this
          omega
        subst hj'
        rw [Nat.sub_self] at hu
        cases hu
        have key : ∀ q, q < 5 → (cs ++ [c0, c1, c2, c3, c4])[vs.length * 5 + q]? = [c0, c1, c2, c3, c4][q]? := fun q hq => by
          rw [List.getElem?_append_right (by omega), show vs.length * 5 + q - cs.length = q by omega]
        exact ⟨c0, c1, c2, c3, c4, rfl, key 0 (by omega), key 1 (by omega), key 2 (by omega), key 3 (by omega), key 4 (by omega)⟩
    · by_cases hj : j < vs.length
      · rw [List.getElem?_append_left hj] at hu
        rw [List.getElem?_append_left (by omega)] at hy
        exact hmap u y (h4 j u y hu hy)
      · rw [List.getElem?_append_right (by omega)] at hu hy
        have hj' : j = vs.length := by
          have := (List.getElem?_eq_some_iff.1 hu).1
          simp at this
          omega
        subst hj'
        rw [Nat.sub_self] at hu
        rw [hvl, Nat.sub_self] at hy
        cases hu
        cases hy
        exact hmap _ _ hr
    · exact ((Below.refl B w0).alloc hB _).grown hg (by simp; omega) fun k hk => (hown.lt k hk).1
  exact h g cap w' (by rw [hv']; exact main.1) main.2
end
theorem rgS_cells {W : World} {ok : Nat → Prop} {g o n c : Nat} {set : List (UInt8 × UInt8)} (h : RgS W ok (some ⟨g, o, none⟩) n c set) : ∀ j u, (rgCells set)[j]? = some u → W.cell? ((⟨g, o, none⟩ : Addr).add j) = some u := by
  intro j u hu
  have hj : j / 2 < set.length := by
    have := (List.getElem?_eq_some_iff.1 hu).1
    rw [rgCells_len] at this
    omega
  obtain ⟨g', o', hA, _, h1, h2⟩ := h.2.2.2 (j / 2) _ (List.getElem?_eq_getElem hj)
  injection hA with hA
  injection hA with hg ho
  subst hg ho
  obtain ⟨k1, k2⟩ := rgCells_get set (j / 2) _ (List.getElem?_eq_getElem hj)
  have hadd : (⟨g, o, none⟩ : Addr).add j = ⟨g, o + j, none⟩ := by unfold Addr.add; split <;> simp_all
  rw [hadd]
  by_cases hm : j % 2 = 0
  · rw [show j / 2 * 2 = j by omega] at h1 k1
    rw [h1, ← hu, k1]
  · rw [show j / 2 * 2 + 1 = j by omega] at k2
    rw [show o + j / 2 * 2 + 1 = o + j by omega] at h2
    rw [h2, ← hu, k2]
theorem fiveF_set1 {w : World} {b : Nat} {c0 c1 c2 c3 c4 : Value} (h : FiveF w b c0 c1 c2 c3 c4) (u : Value) : FiveF (w.setCell ⟨b, 1, none⟩ u) b c0 u c2 c3 c4 := by
  obtain ⟨⟨h0, h1, h2, h3, h4, h5⟩, f0, f1, f2, f3, f4⟩ := h
  refine ⟨⟨by simpa [World.setCell] using h0, ?_, ?_, ?_, ?_, ?_⟩, by rw [World.frozen?_setCell]; exact f0, by rw [World.frozen?_setCell]; exact f1, by rw [World.frozen?_setCell]; exact f2, by rw [World.frozen?_setCell]; exact f3, by rw [World.frozen?_setCell]; exact f4⟩
  · rw [set_off _ _ _ _ _ (by decide)]; exact h1
  · exact World.cell?_setCell_same _ _ _ h2
  · rw [set_off _ _ _ _ _ (by decide)]; exact h3
  · rw [set_off _ _ _ _ _ (by decide)]; exact h4
  · rw [set_off _ _ _ _ _ (by decide)]; exact h5
theorem fiveF_set4 {w : World} {b : Nat} {c0 c1 c2 c3 c4 : Value} (h : FiveF w b c0 c1 c2 c3 c4) (u : Value) : FiveF (w.setCell ⟨b, 4, none⟩ u) b c0 c1 c2 c3 u := by
  obtain ⟨⟨h0, h1, h2, h3, h4, h5⟩, f0, f1, f2, f3, f4⟩ := h
  refine ⟨⟨by simpa [World.setCell] using h0, ?_, ?_, ?_, ?_, ?_⟩, by rw [World.frozen?_setCell]; exact f0, by rw [World.frozen?_setCell]; exact f1, by rw [World.frozen?_setCell]; exact f2, by rw [World.frozen?_setCell]; exact f3, by rw [World.frozen?_setCell]; exact f4⟩
  · rw [set_off _ _ _ _ _ (by decide)]; exact h1
  · rw [set_off _ _ _ _ _ (by decide)]; exact h2
  · rw [set_off _ _ _ _ _ (by decide)]; exact h3
  · rw [set_off _ _ _ _ _ (by decide)]; exact h4
  · exact World.cell?_setCell_same _ _ _ h5
theorem five_at {w w' : World} {b B : Nat} {c0 c1 c2 c3 c4 : Value} (h : Five w b c0 c1 c2 c3 c4) (hb : Below B w w') (hlt : b < B) : Five w' b c0 c1 c2 c3 c4 := by
  obtain ⟨h0, h1, h2, h3, h4, h5⟩ := h
  have key : ∀ k : Nat, w'.cell? ⟨b, k, none⟩ = w.cell? ⟨b, k, none⟩ := fun k => hb.cell (p := ⟨b, k, none⟩) hlt
  exact ⟨Nat.lt_of_lt_of_le h0 hb.size, (key _).trans h1, (key _).trans h2, (key _).trans h3, (key _).trans h4, (key _).trans h5⟩
theorem addF_step (s : List (UInt8 × UInt8)) (j : Nat) (c U : UInt8) (q1 q2 : Bool) (hc : c = UInt8.ofNat (97 + j)) (hU : U = UInt8.ofNat (65 + j)) (h1 : hasS s c = q1) (h2 : hasS s U = q2) :
    addF s (j + 1) = (addF s j ++ (if q1 = true then [(U, U)] else [])) ++ (if q2 = true then [(c, c)] else []) := by
  subst hc hU h1 h2
  rfl

set_option maxRecDepth 100000 in
set_option maxHeartbeats 12800000 in
theorem fold25 : ∀ (r : Rx) (W : World) (ok : Nat → Prop) (v : Value), RxV W ok v r → nodeR r = 0 → Tame r → sizeR r ≤ 1000 → Calls Tryz.prog 25 #[v] W fun e w' => ∃ v', e = .returned v' ∧ RxV w' (fun g => W.heap.size ≤ g) v' (foldR r) ∧ Below W.heap.size W w' := by
  intro r
  induction r using Rx.ind with
  | h k s a b l ih =>
    intro W ok v hv hnode htame hsz
    obtain ⟨i0, hi, hz0, hz1, hz2⟩ := info_parts infoX
    obtain ⟨j0, ji, jz0, jz1, jz2⟩ := info_parts infoR
    cases hv with
    | mk _ _ _ A B n c m d _ vs _ hset hvs hlen hk ha hb hr =>
    have hmd := hvs.1
    have hdd := hvs.2.1
    obtain ⟨hf, _, hsub⟩ := node_ok hnode
    have hml : m ≤ 1000 := by have := sizeL_len l; unfold sizeR at hsz; omega
    have hszl : sizeL l ≤ 1000 := by unfold sizeR at hsz; omega
    obtain ⟨hs256, htl⟩ : s.length ≤ 256 ∧ ∀ x ∈ l, Tame x := by cases htame with | mk _ _ _ _ _ h1 h2 => exact ⟨h1, h2⟩
    have hnl : s.length = n := hset.2.2.1
    have hk1 : k = 1 ↔ s ≠ [] := (fields_of hf).2.1
    obtain ⟨S', hS'⟩ : ∃ S', (if k = 1 then foldSet s else []) = S' := ⟨_, rfl⟩
    have Hres := hide (show foldR (.mk k s a b l) = .mk k S' a b (foldL l) by rw [← hS']; rfl)
    have HS' := hide hS'
    obtain ⟨w1, hw1⟩ : ∃ w1, W.alloc (.cells #[.int .i64 k, .slice A n c, .int .i64 a, .int .i64 b, .slice B m d] 25) = w1 := ⟨_, rfl⟩
    have hs1 : w1.heap.size = W.heap.size + 1 := by rw [← hw1]; simp
    have hB1 : Below W.heap.size W w1 := by rw [← hw1]; exact bnew (Below.refl _ W) _
    obtain ⟨w2, hw2⟩ : ∃ w2, w1.alloc (.cells #[.int .i64 0, .slice none 0 0, .int .i64 0, .int .i64 0, .slice none 0 0] 25) = w2 := ⟨_, rfl⟩
    have hb12 : Below w1.heap.size w1 w2 := by rw [← hw2]; exact bnew (Below.refl _ w1) _
    have hs2 : w2.heap.size = w1.heap.size + 1 := by rw [← hw2]; simp
    obtain ⟨w3, hw3⟩ : ∃ w3, w2.alloc (.cells #[.int .i64 k, .slice none 0 0, .int .i64 a, .int .i64 b, .slice none 0 0] 25) = w3 := ⟨_, rfl⟩
    have hb23 : Below w2.heap.size w2 w3 := by rw [← hw3]; exact bnew (Below.refl _ w2) _
    have hs3 : w3.heap.size = w2.heap.size + 1 := by rw [← hw3]; simp
    have F2 : Five w2 W.heap.size (.int .i64 k) (.slice A n c) (.int .i64 a) (.int .i64 b) (.slice B m d) := by
      have := five_new W (.int .i64 k) (.slice A n c) (.int .i64 a) (.int .i64 b) (.slice B m d) 25
      rw [hw1] at this
      exact this.keep hb12
    obtain ⟨-, e0, e1, e2, e3, e4⟩ := F2
    have F3 : Five w3 W.heap.size (.int .i64 k) (.slice A n c) (.int .i64 a) (.int .i64 b) (.slice B m d) := by
      have := five_new W (.int .i64 k) (.slice A n c) (.int .i64 a) (.int .i64 b) (.slice B m d) 25
      rw [hw1] at this
      exact (this.keep hb12).keep hb23
    have G3 : FiveF w3 w1.heap.size (.int .i64 0) (.slice none 0 0) (.int .i64 0) (.int .i64 0) (.slice none 0 0) := by
      have := fiveF_new w1 (.int .i64 0) (.slice none 0 0) (.int .i64 0) (.int .i64 0) (.slice none 0 0) 25
      rw [hw2] at this
      exact this.at_ hb23 (by omega)
    have O3 : FiveF w3 w2.heap.size (.int .i64 k) (.slice none 0 0) (.int .i64 a) (.int .i64 b) (.slice none 0 0) := by
      have := fiveF_new w2 (.int .i64 k) (.slice none 0 0) (.int .i64 a) (.int .i64 b) (.slice none 0 0) 25
      rw [hw3] at this
      exact this
    have hB3 : Below W.heap.size W w3 := bgo (bgo hB1 hb12) hb23
    have F := hide F3
    have G := hide G3
    have O := hide O3
    have BB := hide hB3
    have Hset := hide (hset.below hB3)
    have Hsubs := hide (SubsS.of hvs hlen hr)
    have Hlen := hide hlen
    have Hsub := hide hsub
    have Htl := hide htl
    have hz12 : W.heap.size < w1.heap.size := by omega
    have hz22 : w1.heap.size < w2.heap.size := by omega
    have hz32 : w2.heap.size < w3.heap.size := by omega
    have Hz3 := hide hs3
    have Hnl := hide hnl
    have F3x := F3
    rw [← hw3] at F3x
    have Hw3 := hide hw3
    obtain ⟨-, t0, t1, t2, t3, t4⟩ := F3x
    clear hset hvs hr hlen hnode htame hf hsub htl hB3 hB1 hb12 hb23 G3 hs1 hs2 hs3 hsz hS' hnl hw3 F3 O3
    go_enter Tryz.func25, Tryz.ntmps25
    go_upto_if 17 with (fail)
    rw [Hw3.out]
    clear hw1 hw2 e0 e1 e2 e3 e4 t0 t1 t2 t3 t4
    go_cut [4] (fun u wx => ∃ A' n' c', Five wx W.heap.size (.int .i64 k) (.slice A n c) (.int .i64 a) (.int .i64 b) (.slice B m d) ∧ FiveF wx w1.heap.size (.int .i64 0) (.slice none 0 0) (.int .i64 0) (.int .i64 0) (.slice none 0 0) ∧
      FiveF wx w2.heap.size (.int .i64 k) (.slice A' n' c') (.int .i64 a) (.int .i64 b) (.slice none 0 0) ∧ RgS wx (fun g => w3.heap.size ≤ g) A' n' c' S' ∧ Below w2.heap.size w3 wx)
    case first =>
      by_cases hone : k = 1
      · have hsne := hk1.1 hone
        have hq : ((k : Int) == 1) = true := by rw [hone]; rfl
        have HS1 := hide (show S' = rangesS (s ++ addF s 26) false by rw [← HS'.out, if_pos hone, foldSet_add])
        obtain ⟨g, o, rfl⟩ : ∃ g o, A = some ⟨g, o, none⟩ := by
          cases s with
          | nil => exact absurd rfl hsne
          | cons x t =>
            obtain ⟨g, o, h1, _⟩ := Hset.out.2.2.2 0 x rfl
            exact ⟨g, o, h1⟩
        have hn0 : 0 < n := by rw [← Hnl.out]; exact List.length_pos_iff.2 hsne
        have hn256 : n ≤ 256 := by rw [← Hnl.out]; exact hs256
        obtain ⟨w4, hw4⟩ : ∃ w4, w3.alloc (.cells #[] 48) = w4 := ⟨_, rfl⟩
        have hb4 : Below w3.heap.size w3 w4 := by rw [← hw4]; exact bnew (Below.refl _ w3) _
        have hs4 : w3.heap.size + 1 ≤ w4.heap.size := by rw [← hw4]; simp
        have O4 := hide (show OwnR w4 w3.heap.size (.slice (some ⟨w3.heap.size, 0, none⟩) 0 0) [] by rw [← hw4]; exact ownR_lit w3 #[] [] 0 rfl rfl (by decide))
        have S4 := hide (Hset.out.below hb4)
        have B4 := hide hb4
        have F4 := F.out.keep hb4
        obtain ⟨-, e0, e1, e2, e3, e4⟩ := F4
        clear hone hsne hb4
        go_wp2_with (first
          | (at_builtin; refine wpList_append_own _ rfl (.tmp 18) (.tmp 20) 22 rfl w3.heap.size 48 j0 _ 2 2 Tryz.underlying22 ji jz0 jz1 jz2 rfl (by decide) _ 0 [] rfl O4.out ⟨g, o, none⟩ n c (rgCells s) rfl (by rw [rgCells_len, Hnl.out]) (rgS_cells S4.out) (rg_one s) (by unfold maxLen; omega) (by omega) (by omega) ?_; intro v5 w5 hown5 hg5 _; have O5 := hide (show OwnR w5 w3.heap.size v5 s by (unfold OwnR; rw [Hnl.out]; simpa using hown5)); have B5 := hide (B4.out.trans ((Below.refl w3.heap.size w4).grown hg5 (by omega) fun q hq => (World.ownsRow.lt O4.out q hq).1)); clear hown5 hg5)
          | fail)
        clear hw4 e0 e1 e2 e3 e4
        go_loopw [4, 5] (fun u x wr => ∃ (j : Nat) (cc : UInt8), j ≤ 26 ∧ x = .int .u8 (cc.toNat : Int) ∧ 97 + j ≤ cc.toNat ∧ cc.toNat ≤ 97 + j ∧ OwnR wr w3.heap.size u (s ++ addF s j) ∧ Below w3.heap.size w3 wr) (fun _ x _ => 200 - (intOf x).toNat)
        case atStart => exact ⟨0, 97, by decide, rfl, by decide, by decide, by simpa [addF] using O5.out, B5.out⟩
        case round =>
          clear O4 S4 B4 O5 B5
          obtain ⟨j, cc, hj, rfl, hc1, hc2, hown, hbel⟩ := hrel
          obtain ⟨w6, hw6⟩ : ∃ w6, w6 = wr := ⟨wr, rfl⟩
          subst hw6
          obtain ⟨u, huu⟩ : ∃ u, u = u4 := ⟨u4, rfl⟩
          subst huu
          have hsz6 := hbel.size
          have F6 := F.out.keep hbel
          obtain ⟨-, e0, e1, e2, e3, e4⟩ := F6
          have OE := hide hown
          have BE := hide hbel
          by_cases hlt : j < 26
          · have hle : (cc.toNat : Int) ≤ 122 := by omega
            have hge : (97 : Int) ≤ (cc.toNat : Int) := by omega
            obtain ⟨U, hU⟩ : ∃ U, U = UInt8.ofNat (65 + j) := ⟨_, rfl⟩
            have hcc : cc = UInt8.ofNat (97 + j) := UInt8.toNat_inj.1 (by rw [UInt8.toNat_ofNat']; omega)
            have hUn : U.toNat = 65 + j := by rw [hU, UInt8.toNat_ofNat']; omega
            have hUz : (cc.toNat : Int) - 97 + 65 = (U.toNat : Int) := by omega
            obtain ⟨q1, hq1⟩ : ∃ q1, hasS s cc = q1 := ⟨_, rfl⟩
            obtain ⟨q2, hq2⟩ : ∃ q2, hasS s U = q2 := ⟨_, rfl⟩
            have Hst := hide (addF_step s j cc U q1 q2 hcc hU hq1 hq2)
            have Hal := hide (addF_len s j)
            have HUn := hide hUn
            have HC1 := hide (fun X (hb : Below w3.heap.size w3 X) => has21 (Hset.out.below hb) cc q1 hq1)
            have HC2 := hide (fun X (hb : Below w3.heap.size w3 X) => has21 (Hset.out.below hb) U q2 hq2)
            have hll : (s ++ addF s j).length ≤ 308 := by rw [List.length_append]; have := addF_len s j; omega
            have hll8 : ((s ++ addF s j) ++ [(U, U)]).length ≤ 309 := by rw [List.length_append]; simp only [List.length_cons, List.length_nil]; omega
            clear hown hbel hU hcc hq1 hq2 hUn
            cases q1 with
            | true =>
              cases q2 with
              | true =>
                go_wp2_with fail
                with_reducible refine (HC1.out _ BE.out).mono ?_
                rintro e w7 ⟨rfl, rfl⟩
                go_wp2_with (first
                  | (at_builtin; refine wpList_append_own _ rfl (.tmp 33) (.tmp 37) 22 rfl w3.heap.size 48 j0 _ 2 2 Tryz.underlying22 ji jz0 jz1 jz2 rfl (by decide) u (s ++ addF s j).length (rgCells (s ++ addF s j)) rfl (World.ownsRow.alloc OE.out _) ⟨w6.heap.size, 0, none⟩ 1 1 [.int .u8 (U.toNat : Int), .int .u8 (U.toNat : Int)] rfl rfl (c1_two w6 _ _ _) (by intro u' hu'; simp at hu'; rcases hu' with rfl | rfl <;> rfl) (by unfold maxLen; omega) (by omega) (by simp; omega) ?_; intro v8 w8 hown8 hg8 _; have o8 : OwnR w8 w3.heap.size v8 ((s ++ addF s j) ++ [(U, U)]) := (by unfold OwnR; rw [List.length_append, rgCells_app]; exact hown8); clear hown8; obtain ⟨X8, Y8, Z8, hv8, -, -⟩ := o8.s; subst hv8; have O8 := hide o8; clear o8; have B8 := hide (BE.out.trans (((Below.refl w3.heap.size w6).alloc (by omega) (.cells #[.int .u8 (U.toNat : Int), .int .u8 (U.toNat : Int)] 48)).grown hg8 (by simp; omega) fun q hq => (World.ownsRow.lt OE.out q hq).1)); clear hg8; have F8 := F.out.keep B8.out; obtain ⟨-, y0, y1, y2, y3, y4⟩ := F8)
                  | fail)
                have hsz8 := B8.out.size
                with_reducible refine (HC2.out _ B8.out).mono ?_
                rintro e w9 ⟨rfl, rfl⟩
                go_wp2_with (first
                  | (at_builtin; refine wpList_append_own _ rfl (.tmp 43) (.tmp 47) 22 rfl w3.heap.size 48 j0 _ 2 2 Tryz.underlying22 ji jz0 jz1 jz2 rfl (by decide) (.slice X8 Y8 Z8) ((s ++ addF s j) ++ [(U, U)]).length (rgCells ((s ++ addF s j) ++ [(U, U)])) rfl (World.ownsRow.alloc O8.out _) ⟨w8.heap.size, 0, none⟩ 1 1 [.int .u8 (cc.toNat : Int), .int .u8 (cc.toNat : Int)] rfl rfl (c1_two w8 _ _ _) (by intro u' hu'; simp at hu'; rcases hu' with rfl | rfl <;> rfl) (by unfold maxLen; omega) (by omega) (by simp; omega) ?_; intro vA wA hownA hgA _; have oA : OwnR wA w3.heap.size vA (((s ++ addF s j) ++ [(U, U)]) ++ [(cc, cc)]) := (by unfold OwnR; rw [List.length_append, rgCells_app]; exact hownA); clear hownA; obtain ⟨XA, YA, ZA, hvA, -, -⟩ := oA.s; subst hvA; have OA := hide oA; clear oA; have BA := hide (B8.out.trans (((Below.refl w3.heap.size w8).alloc (by omega) (.cells #[.int .u8 (cc.toNat : Int), .int .u8 (cc.toNat : Int)] 48)).grown hgA (by simp; omega) fun q hq => (World.ownsRow.lt O8.out q hq).1)); clear hgA)
                  | fail)
                have Hfin := hide (show OwnR wA w3.heap.size (.slice XA YA ZA) (s ++ addF s (j + 1)) from by
                  have h := OA.out
                  rw [Hst.out]
                  simpa [List.append_assoc] using h)
                have hcn : (cc + 1).toNat = cc.toNat + 1 := by rw [UInt8.toNat_add]; simp; omega
                go_roundw
                case rel => exact ⟨j + 1, cc + 1, by omega, by rw [hcn]; go_num, by omega, by omega, Hfin.out, BA.out⟩
                case measure => simp [intOf]; omega
              | false =>
                go_wp2_with fail
                with_reducible refine (HC1.out _ BE.out).mono ?_
                rintro e w7 ⟨rfl, rfl⟩
                go_wp2_with (first
                  | (at_builtin; refine wpList_append_own _ rfl (.tmp 33) (.tmp 37) 22 rfl w3.heap.size 48 j0 _ 2 2 Tryz.underlying22 ji jz0 jz1 jz2 rfl (by decide) u (s ++ addF s j).length (rgCells (s ++ addF s j)) rfl (World.ownsRow.alloc OE.out _) ⟨w6.heap.size, 0, none⟩ 1 1 [.int .u8 (U.toNat : Int), .int .u8 (U.toNat : Int)] rfl rfl (c1_two w6 _ _ _) (by intro u' hu'; simp at hu'; rcases hu' with rfl | rfl <;> rfl) (by unfold maxLen; omega) (by omega) (by simp; omega) ?_; intro v8 w8 hown8 hg8 _; have o8 : OwnR w8 w3.heap.size v8 ((s ++ addF s j) ++ [(U, U)]) := (by unfold OwnR; rw [List.length_append, rgCells_app]; exact hown8); clear hown8; obtain ⟨X8, Y8, Z8, hv8, -, -⟩ := o8.s; subst hv8; have O8 := hide o8; clear o8; have B8 := hide (BE.out.trans (((Below.refl w3.heap.size w6).alloc (by omega) (.cells #[.int .u8 (U.toNat : Int), .int .u8 (U.toNat : Int)] 48)).grown hg8 (by simp; omega) fun q hq => (World.ownsRow.lt OE.out q hq).1)); clear hg8; have F8 := F.out.keep B8.out; obtain ⟨-, y0, y1, y2, y3, y4⟩ := F8)
                  | fail)
                have hsz8 := B8.out.size
                with_reducible refine (HC2.out _ B8.out).mono ?_
                rintro e w9 ⟨rfl, rfl⟩
                go_wp2
                have Hfin := hide (show OwnR w8 w3.heap.size (.slice X8 Y8 Z8) (s ++ addF s (j + 1)) from by
                  have h := O8.out
                  rw [Hst.out]
                  simpa [List.append_assoc] using h)
                have hcn : (cc + 1).toNat = cc.toNat + 1 := by rw [UInt8.toNat_add]; simp; omega
                go_roundw
                case rel => exact ⟨j + 1, cc + 1, by omega, by rw [hcn]; go_num, by omega, by omega, Hfin.out, B8.out⟩
                case measure => simp [intOf]; omega
            | false =>
              cases q2 with
              | true =>
                go_wp2_with fail
                with_reducible refine (HC1.out _ BE.out).mono ?_
                rintro e w7 ⟨rfl, rfl⟩
                go_wp2_with fail
                with_reducible refine (HC2.out _ BE.out).mono ?_
                rintro e w9 ⟨rfl, rfl⟩
                go_wp2_with (first
                  | (at_builtin; refine wpList_append_own _ rfl (.tmp 43) (.tmp 47) 22 rfl w3.heap.size 48 j0 _ 2 2 Tryz.underlying22 ji jz0 jz1 jz2 rfl (by decide) u (s ++ addF s j).length (rgCells (s ++ addF s j)) rfl (World.ownsRow.alloc OE.out _) ⟨w6.heap.size, 0, none⟩ 1 1 [.int .u8 (cc.toNat : Int), .int .u8 (cc.toNat : Int)] rfl rfl (c1_two w6 _ _ _) (by intro u' hu'; simp at hu'; rcases hu' with rfl | rfl <;> rfl) (by unfold maxLen; omega) (by omega) (by simp; omega) ?_; intro vA wA hownA hgA _; have oA : OwnR wA w3.heap.size vA ((s ++ addF s j) ++ [(cc, cc)]) := (by unfold OwnR; rw [List.length_append, rgCells_app]; exact hownA); clear hownA; obtain ⟨XA, YA, ZA, hvA, -, -⟩ := oA.s; subst hvA; have OA := hide oA; clear oA; have BA := hide (BE.out.trans (((Below.refl w3.heap.size w6).alloc (by omega) (.cells #[.int .u8 (cc.toNat : Int), .int .u8 (cc.toNat : Int)] 48)).grown hgA (by simp; omega) fun q hq => (World.ownsRow.lt OE.out q hq).1)); clear hgA)
                  | fail)
                have Hfin := hide (show OwnR wA w3.heap.size (.slice XA YA ZA) (s ++ addF s (j + 1)) from by
                  have h := OA.out
                  rw [Hst.out]
                  simpa [List.append_assoc] using h)
                have hcn : (cc + 1).toNat = cc.toNat + 1 := by rw [UInt8.toNat_add]; simp; omega
                go_roundw
                case rel => exact ⟨j + 1, cc + 1, by omega, by rw [hcn]; go_num, by omega, by omega, Hfin.out, BA.out⟩
                case measure => simp [intOf]; omega
              | false =>
                go_wp2_with fail
                with_reducible refine (HC1.out _ BE.out).mono ?_
                rintro e w7 ⟨rfl, rfl⟩
                go_wp2_with fail
                with_reducible refine (HC2.out _ BE.out).mono ?_
                rintro e w9 ⟨rfl, rfl⟩
                go_wp2
                have Hfin := hide (show OwnR w6 w3.heap.size u (s ++ addF s (j + 1)) from by
                  have h := OE.out
                  rw [Hst.out]
                  simpa [List.append_assoc] using h)
                have hcn : (cc + 1).toNat = cc.toNat + 1 := by rw [UInt8.toNat_add]; simp; omega
                go_roundw
                case rel => exact ⟨j + 1, cc + 1, by omega, by rw [hcn]; go_num, by omega, by omega, Hfin.out, BE.out⟩
                case measure => simp [intOf]; omega
          · have hj26 : j = 26 := by omega
            have hle : ¬ (cc.toNat : Int) ≤ 122 := by omega
            rw [hj26] at hown
            have OF := hide hown
            clear hown hbel hj26
            obtain ⟨UA, un, uc, rfl, -, hus⟩ := OF.out.s
            have HR := hide (ranges50 hus false)
            have O6 := O.out.at_ BE.out (by omega)
            have HO6 := hide O6
            obtain ⟨⟨-, o0, o1, o2, o3, o4⟩, o5, o6, o7, o8, o9⟩ := O6
            clear hus
            go_wp2_with fail
            with_reducible refine HR.out.mono ?_
            rintro e w8 ⟨v8, rfl, ho8, hb8⟩
            obtain ⟨A8, n8, c8, rfl, -, hs8⟩ := ho8.s
            have hB8 := BE.out.trans (hb8.mono (by omega))
            have O8 := O.out.at_ hB8 (by omega)
            have HO8 := hide O8
            obtain ⟨⟨-, o0, o1, o2, o3, o4⟩, o5, o6, o7, o8, o9⟩ := O8
            have S8 := hide hs8
            have B8 := hide hB8
            have hsz8 := hB8.size
            clear ho8 hb8 hs8 hB8
            go_wp2
            go_meet
            have hbx : Below w2.heap.size w8 (w8.setCell ⟨w2.heap.size, 1, none⟩ (.slice A8 n8 c8)) := (Below.refl w2.heap.size w8).setCell (by exact Nat.le_refl _) _
            exact ⟨A8, n8, c8, five_at (F.out.keep B8.out) hbx (by omega), (G.out.at_ B8.out (by omega)).at_ hbx (by omega), fiveF_set1 HO8.out _, by
              rw [HS1.out]
              exact S8.out.map (fun q hq _ => World.cell?_setCell_other _ _ _ _ (fun e => by have := congrArg Addr.block e; simp at this; omega)) (fun g hg _ => by omega), (B8.out.mono (by omega)).trans hbx⟩
      · have hq : ((k : Int) == 1) = false := beq_eq_false_iff_ne.2 hone
        have HS1 := hide (show S' = [] by rw [← HS'.out, if_neg hone])
        clear hone
        go_wp2
        go_meet
        exact ⟨none, 0, 0, F.out, G.out, O.out, by rw [HS1.out]; exact RgS.nil _ _, Below.refl _ _⟩
    case rest =>
      obtain ⟨A', n', c', f1, g1, o1, s1, b1⟩ := hcut
      have Fc := hide f1
      have Gc := hide g1
      have Oc := hide o1
      have Sc := hide s1
      have Bc := hide b1
      have hszc := b1.size
      have HWc := hide (BB.out.trans (b1.mono (by omega)))
      obtain ⟨-, e0, e1, e2, e3, e4⟩ := f1
      clear g1 o1 s1 b1 F G O
      go_wp2_with fail
      clear e0 e1 e2 e3 e4
      go_loopw [7] (fun x wr => ∃ (i : Nat) (u : Value), i ≤ m ∧ x = .int .i64 (i : Int) ∧ FiveF wr w2.heap.size (.int .i64 k) (.slice A' n' c') (.int .i64 a) (.int .i64 b) u ∧ OwnX wr wc.heap.size u (foldL (l.take i)) ∧ Bt w2.heap.size wc wr) (fun x _ => m - (intOf x).toNat)
      case atStart => exact ⟨0, .slice none 0 0, Nat.zero_le _, rfl, Oc.out, OwnX.nil _ _, Bt.refl _ _⟩
      case round =>
        obtain ⟨i, u, hi1, rfl, ho, hx, hbt⟩ := hrel
        obtain ⟨w4, hw4⟩ : ∃ w4, w4 = wr := ⟨wr, rfl⟩
        subst hw4
        have hsz4 := hbt.size
        have F4 := Fc.out.bt hbt (by omega)
        have O4 := hide ho
        have X4 := hide hx
        have B4 := hide hbt
        have W4 := hide (HWc.out.trans (hbt.up (B := W.heap.size) (by omega) (by omega)))
        have F4h := hide F4
        obtain ⟨-, e0, e1, e2, e3, e4⟩ := F4
        have Fl := hide (show (foldL (l.take i)).length = i by rw [foldL_len, List.length_take, Hlen.out]; omega)
        by_cases hlt : i < m
        · have hlt' : (i : Int) < (m : Int) := by omega
          obtain ⟨x, g, o, q0, qA, qn, qc, q1, q2, qB, qm, qd, hxl, rfl, x0, x1, x2, x3, x4, rx⟩ := (Hsubs.out.below W4.out).at_ hlt
          have hmem : x ∈ l := List.mem_of_getElem? hxl
          have HC := hide (fun X (hb : Below w4.heap.size w4 X) => ih x hmem X ok _ (rx.kept hb) (Hsub.out x hmem) (Htl.out x hmem) (by have := sizeL_mem hmem; omega))
          have Hn := hide (show foldL (l.take i) ++ [foldR x] = foldL (l.take (i + 1)) by rw [rx_take hxl, foldL_app])
          clear hbt ho hx rx hxl hmem
          obtain ⟨UA, un, ud, _, rfl, -, -, -⟩ := X4.out.s
          have hul : ∀ g, (Value.slice UA un ud).ownBlock = some g → g < w4.heap.size := fun g hg => by
            obtain ⟨cs, vs, h1, _⟩ := X4.out
            exact (h1.lt g hg).2
          have Hul := hide hul
          have Fd := hide (five_at (Fc.out.bt B4.out (by omega)) (Drawn.below ⟨1, rfl⟩ w4.heap.size : Below w4.heap.size w4 w4.drew) (by omega))
          have Od := hide (O4.out.at_ (Drawn.below ⟨1, rfl⟩ w4.heap.size : Below w4.heap.size w4 w4.drew) (by omega))
          obtain ⟨⟨-, p0, p1, p2, p3, p4⟩, p5, p6, p7, p8, p9⟩ := O4.out
          have HCd := hide (HC.out w4.drew (bel_drew w4))
          have Xd := hide (X4.out.below (bel_drew w4))
          have hdz : w4.heap.size ≤ w4.drew.heap.size := Nat.le_refl _
          clear hul
          go_upto_region 16 with (fail)
          go_region_law (first
            | (refine step_push_rx (by rfl) (.tmp 60) (.tmp 67) 23 (by rfl) i0 _ 72 Tryz.underlying23 hi hz0 hz1 hz2 rfl wc.heap.size (.slice UA un ud) (foldL (l.take i)) (by rfl) w5 _ _ _ _ _ (foldR x) X5.out hB5 _ rfl (by rfl) R5.out (by rw [Fl.out]; omega) (by rw [Fl.out]; unfold maxLen; omega) ?_; intro gg cap w7 hown7 hb7; rw [Hn.out] at hown7; have X7 := hide hown7; have B7 := hide hb7; have O7 := O5.out.at_ hb7 (by omega); have H7 := hide O7; obtain ⟨⟨-, k0, k1, k2, k3, k4⟩, k5, k6, k7, k8, k9⟩ := O7; clear hown7 hb7)
            | (go_simp; go_at_call 25; refine HCd.out.mono ?_; rintro e w5 ⟨vv, rfl, hr5, hb5⟩; obtain ⟨z0, zA, zn, zc, z1, z2, zB, zm, zd, rfl⟩ := hr5.agg9; have X5 := hide (Xd.out.below hb5); have hB5 : wc.heap.size ≤ w5.heap.size := Nat.le_trans hsz4 hb5.size; have B5 := hide hb5; have R5 := hide (hr5.map (fun _ _ _ => rfl) fun g hg _ => (⟨Nat.le_trans hsz4 hg, fun e => by have := Hul.out g e; exact absurd hg (by omega)⟩ : wc.heap.size ≤ g ∧ (Value.slice UA un ud).ownBlock ≠ some g)); have o5 := Od.out.at_ hb5 (by omega); have O5 := hide o5; obtain ⟨⟨-, r0, r1, r2, r3, r4⟩, r5, r6, r7, r8, r9⟩ := o5; have o6 := O5.out.at_ (bnew (Below.refl _ w5) (.cells #[.int .i64 z0, .slice zA zn zc, .int .i64 z1, .int .i64 z2, .slice zB zm zd] 25)) (by have := hb5.size; omega); obtain ⟨⟨-, i0', i1', i2', i3', i4'⟩, -⟩ := o6; clear hr5 hb5))
          all_goals
            have OX := hide (X7.out.bt (Bt.set w7 w2.heap.size 4 (.slice (some ⟨gg, 0, none⟩) ((foldL (l.take i)).length + 1) cap)) (by omega))
            have FX := hide (fiveF_set4 H7.out (.slice (some ⟨gg, 0, none⟩) ((foldL (l.take i)).length + 1) cap))
            have BX := hide ((((B4.out.trans (Bt.of (bel_drew w4) _)).trans (Bt.of B5.out _)).then_below B7.out (Nat.le_refl _)).trans (Bt.set w7 w2.heap.size 4 (.slice (some ⟨gg, 0, none⟩) ((foldL (l.take i)).length + 1) cap)))
            go_wp2
            go_roundw
            case rel => exact ⟨i + 1, _, by omega, by go_num, FX.out, OX.out, BX.out⟩
            case measure => simp [intOf]; omega
        · have hlt' : ¬ (i : Int) < (m : Int) := by omega
          have hall : l.take i = l := List.take_of_length_le (by rw [Hlen.out]; omega)
          obtain ⟨UA, un, ud, uvs, rfl, hum, huv, hur⟩ := X4.out.s
          rw [hall] at hum hur
          have G4 := Gc.out.bt B4.out (by omega)
          have HG4 := hide G4
          have S4 := Sc.out.bt B4.out (fun g hg => by omega)
          have RX := hide (RxV.mk (ok := fun g => w3.heap.size ≤ g) k a b A' UA n' c' un ud S' uvs (foldL l) S4 (huv.map (fun _ _ _ => rfl) fun g hg _ => Nat.le_trans (by omega) hg) hum.symm hk ha hb fun i v x h1 h2 => (hur i v x h1 h2).map (fun _ _ _ => rfl) fun g hg _ => Nat.le_trans (by omega) hg)
          obtain ⟨⟨-, p0, p1, p2, p3, p4⟩, p5, p6, p7, p8, p9⟩ := O4.out
          obtain ⟨⟨-, k0, k1, k2, k3, k4⟩, k5, k6, k7, k8, k9⟩ := G4
          clear hbt ho hx hall hum huv hur S4
          go_wp2
          exact bodyPost_ret (res_box rfl _ _ w1.heap.size _ _ _ _ _ rfl (put5_five HG4.out (.int .i64 k) (.slice A' n' c') (.int .i64 a) (.int .i64 b) (.slice UA un ud))) rfl ⟨_, rfl, by rw [Hres.out]; exact put5_rxv RX.out (by omega) _ (by omega), put5_below W4.out (by omega)⟩
end Go.Proofs.YtmiegjefmebpdaaGreatDoor
