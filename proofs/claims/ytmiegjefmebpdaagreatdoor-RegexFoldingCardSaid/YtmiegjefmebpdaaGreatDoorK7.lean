/- Rows of ranges of the call's own; the walk of layer 8's reference: Ranges. -/
import Derived.Test.YtmiegjefmebpdaaGreatDoorK6
namespace Go.Proofs.YtmiegjefmebpdaaGreatDoor
open Go.RowKit

def rgCells (l : List (UInt8 × UInt8)) : List Value := l.flatMap fun r => [.int .u8 (r.1.toNat : Int), .int .u8 (r.2.toNat : Int)]
theorem rgCells_len (l : List (UInt8 × UInt8)) : (rgCells l).length = l.length * 2 := by
  induction l with
  | nil => rfl
  | cons r l ih =>
    unfold rgCells at ih ⊢
    rw [List.flatMap_cons, List.length_append, ih, List.length_cons]
    simp
    omega
theorem rgCells_app (a b : List (UInt8 × UInt8)) : rgCells (a ++ b) = rgCells a ++ rgCells b := by simp [rgCells]
theorem rgCells_get (l : List (UInt8 × UInt8)) (i : Nat) (r : UInt8 × UInt8) (h : l[i]? = some r) : (rgCells l)[i * 2]? = some (.int .u8 (r.1.toNat : Int)) ∧ (rgCells l)[i * 2 + 1]? = some (.int .u8 (r.2.toNat : Int)) := by
  induction l generalizing i with
  | nil => simp at h
  | cons x l ih =>
    have e : rgCells (x :: l) = .int .u8 (x.1.toNat : Int) :: .int .u8 (x.2.toNat : Int) :: rgCells l := rfl
    rw [e]
    cases i with
    | zero =>
      simp at h
      subst h
      exact ⟨rfl, rfl⟩
    | succ i =>
      simp at h
      have := ih i h
      rw [show (i + 1) * 2 = i * 2 + 1 + 1 by omega, show i * 2 + 1 + 1 + 1 = (i * 2 + 1) + 1 + 1 by omega]
      exact this
theorem rgCells_set (m : List (UInt8 × UInt8)) (a b c : UInt8) : (rgCells (m ++ [(a, b)])).set (m.length * 2 + 1) (.int .u8 (c.toNat : Int)) = rgCells (m ++ [(a, c)]) := by
  rw [rgCells_app, rgCells_app, List.set_append_right _ _ (by rw [rgCells_len]; omega), rgCells_len, show m.length * 2 + 1 - m.length * 2 = 1 by omega]
  rfl

/-- v is a row of the call's own of the ranges. -/
def OwnR (W : World) (B : Nat) (v : Value) (l : List (UInt8 × UInt8)) : Prop := W.ownsRow B 48 2 v l.length (rgCells l)
theorem OwnR.below {W W' : World} {B : Nat} {v : Value} {l : List (UInt8 × UInt8)} (h : OwnR W B v l) (hb : Below W.heap.size W W') : OwnR W' B v l := owns_below' h hb
theorem OwnR.mono {W : World} {B B' : Nat} {v : Value} {l : List (UInt8 × UInt8)} (h : OwnR W B v l) (hb : B' ≤ B) : OwnR W B' v l := owns_mono h hb
theorem OwnR.s {W : World} {B : Nat} {v : Value} {l : List (UInt8 × UInt8)} (h : OwnR W B v l) : ∃ A n c, v = .slice A n c ∧ n = l.length ∧ RgS W (fun g => B ≤ g) A n c l := by
  have h' : W.ownsRow B 48 2 v l.length (rgCells l) := h
  have h1' := h'
  rcases h1'.2 with ⟨rfl, h0⟩ | ⟨g, cap, cur, rfl, hb, hg, hc, hm, r⟩
  · obtain rfl : l = [] := List.eq_nil_of_length_eq_zero h0
    exact ⟨none, 0, 0, rfl, rfl, Nat.le_refl _, by omega, rfl, fun i x hx => by simp at hx⟩
  · refine ⟨_, l.length, cap, rfl, rfl, hc, by unfold maxLen at hm; omega, rfl, fun i x hx => ?_⟩
    have hi := (List.getElem?_eq_some_iff.1 hx).1
    obtain ⟨e0, e1⟩ := rgCells_get l i x hx
    refine ⟨g, 0, rfl, hb, ?_, ?_⟩
    · rw [Nat.zero_add, h'.cellAt (i * 2) (by omega)]; exact e0
    · rw [Nat.zero_add, h'.cellAt (i * 2 + 1) (by omega)]; exact e1
theorem row_set {w : World} {B e g n cap sz : Nat} {xs : List Value} (h : w.ownsRow B e sz (.slice (some ⟨g, 0, none⟩) n cap) n xs) (j : Nat) (u : Value) : (w.setCell ⟨g, j, none⟩ u).ownsRow B e sz (.slice (some ⟨g, 0, none⟩) n cap) n (xs.set j u) := by
  obtain ⟨h1, h2⟩ := h
  refine ⟨by rw [List.length_set]; exact h1, ?_⟩
  rcases h2 with ⟨h0, _⟩ | ⟨g', cap', cur, hv, hB, hh, hn, hm, hs, ht⟩
  · cases h0
  · simp only [Value.slice.injEq, Option.some.injEq, Addr.mk.injEq, and_true, true_and] at hv
    obtain ⟨rfl, rfl⟩ := hv
    refine Or.inr ⟨g, cap, cur.setIfInBounds j u, rfl, hB, Go.Joins.block_setCell hh u, hn, hm, by simpa using hs, ?_⟩
    rw [Array.toList_setIfInBounds, List.take_set, ht]
theorem infoR : (Tryz.prog.info? 48).map (fun i => (i.zero, i.size, i.bytes)) = some (some (.agg #[.int .u8 0, .int .u8 0]), 2, 2) := by kernel_rfl

section
variable {P : Program} {ops : Array Oper} {rest : List Oper} {o : Oper} {a : Act} {Q : Exit → Act → World → Prop}
/-- l = append(l, r), l a row of the call's own -/
theorem wp_push_rg (hgd : o.guard = none) (s x : Operand) (t : TypeId) (ho : o.op = .call { callee := .builtin .append, args := #[s, x], argTypes := #[t, t] })
    (i : TypeInfo) (z : Value) (bytes : Nat) (ht : P.underlying t = some (.slice 48)) (hi : P.info? 48 = some i) (hz : i.zero = some z) (hsize : i.size = 2) (hby : i.bytes = bytes) (hzs : z.cells.size = 2)
    (B : Nat) (v : Value) (l : List (UInt8 × UInt8)) (hs : a.eval s = v) (w0 : World) (r : UInt8 × UInt8) (c0 c1 : Int) (h0 : c0 = (r.1.toNat : Int)) (h1 : c1 = (r.2.toNat : Int)) (hown : OwnR w0 B v l) (hB : B ≤ w0.heap.size) (H : Nat) (hH : H = w0.heap.size)
    (hx : a.eval x = .slice (some ⟨H, 0, none⟩) 1 1) (hlen : (l.length + 1) * bytes ≤ 140737488355328) (h63 : l.length + 1 ≤ maxLen) (T : TypeId)
    (h : ∀ v' w', OwnR w' B v' (l ++ [r]) → Below B w0 w' → wpList P ops Q rest (a.put o.dst v') w') : wpList P ops Q (o :: rest) a (w0.alloc (.cells #[.int .u8 c0, .int .u8 c1] T)) := by
  subst hH h0 h1
  have hone : ∀ u ∈ [Value.int .u8 (r.1.toNat : Int), .int .u8 (r.2.toNat : Int)], u.oneCell' = true := by
    intro u hu
    simp at hu
    rcases hu with rfl | rfl <;> rfl
  refine wpList_append_own_at _ hgd s x t ho B 48 i z 2 bytes ht hi hz hsize hby hzs (by decide) v l.length (rgCells l) hs (World.ownsRow.alloc hown _) ⟨w0.heap.size, 0, none⟩ 1 1 [.int .u8 (r.1.toNat : Int), .int .u8 (r.2.toNat : Int)] hx rfl (c1_two _ _ _ _) hone h63 hlen (by simp; omega) ?_
  intro v' w' hown' hg _ _
  refine h v' w' ?_ (((Below.refl B w0).alloc hB _).grown hg (by simp; omega) fun k hk => (World.ownsRow.lt hown k hk).1)
  unfold OwnR
  rw [List.length_append, rgCells_app]
  exact hown'
end

theorem addB_none {l : List (UInt8 × UInt8)} (n : Nat) (h : l = []) : addB l n = [(UInt8.ofNat n, UInt8.ofNat n)] := by subst h; rfl
theorem addB_yes (m : List (UInt8 × UInt8)) (r : UInt8 × UInt8) (n : Nat) (h : r.2.toNat + 1 = n) : addB (m ++ [r]) n = m ++ [(r.1, UInt8.ofNat n)] := by
  unfold addB
  rw [List.getLast?_append]
  simp [h]
theorem addB_no (m : List (UInt8 × UInt8)) (r : UInt8 × UInt8) (n : Nat) (h : ¬ r.2.toNat + 1 = n) : addB (m ++ [r]) n = m ++ [r] ++ [(UInt8.ofNat n, UInt8.ofNat n)] := by
  unfold addB
  rw [List.getLast?_append]
  simp [h]
theorem addB_len (l : List (UInt8 × UInt8)) (n : Nat) : (addB l n).length ≤ l.length + 1 := by
  unfold addB
  split
  · split
    · simp
    · simp
  · simp
theorem rgN_len (f : Nat → Bool) : ∀ n, (rgN f n).length ≤ n
  | 0 => Nat.le_refl _
  | n + 1 => by
    have h1 := rgN_len f n
    have h2 := addB_len (rgN f n) n
    unfold rgN
    split <;> omega

/-- A row of ranges of the call's own. -/
def GotR (w : World) (l : List (UInt8 × UInt8)) (e : Ending) (w' : World) : Prop := ∃ v, e = .returned v ∧ OwnR w' w.heap.size v l ∧ Below w.heap.size w w'

set_option maxRecDepth 100000 in
set_option maxHeartbeats 6400000 in
theorem ranges50 {W : World} {ok : Nat → Prop} {A : Option Addr} {n c : Nat} {set : List (UInt8 × UInt8)} (h : RgS W ok A n c set) (o : Bool) :
    Calls Tryz.prog 50 #[.slice A n c, .bool o] W (GotR W (rangesS set o)) := by
  obtain ⟨i0, hi, hz0, hz1, hz2⟩ := info_parts infoR
  have hnc := h.1
  have hcc := h.2.1
  have H := hide h
  obtain ⟨f, hf⟩ : ∃ f : Nat → Bool, (fun i => hasS set (UInt8.ofNat i) != o) = f := ⟨_, rfl⟩
  have Hall := hide (show rgN f 256 = rangesS set o by rw [← hf]; rfl)
  have Hf := hide (show ∀ i, (hasS set (UInt8.ofNat i) == o) = !f i from fun i => by rw [← hf]; show _ = !(!(_ == _)); rw [Bool.not_not])
  have hlit := World.ownsRow_lit (e := 48) (size := 2) (base := W.heap.size) W #[] 0 (Nat.le_refl _) (by unfold maxLen; omega) (by simp)
  have Hlit := hide (show OwnR (W.alloc (.cells #[] 48)) W.heap.size (.slice (some ⟨W.heap.size, 0, none⟩) 0 0) [] from hlit)
  clear h hf hlit
  go_enter Tryz.func50, Tryz.ntmps50
  go_wp2
  go_loopw [5, 6] (fun v x wr => ∃ i : Nat, i ≤ 256 ∧ x = .int .i64 (i : Int) ∧ OwnR wr W.heap.size v (rgN f i) ∧ Below W.heap.size W wr) (fun _ x _ => 256 - (intOf x).toNat)
  case atStart => exact ⟨0, Nat.zero_le _, rfl, Hlit.out, bnew (Below.refl _ _) _⟩
  case round =>
    obtain ⟨i, hi1, rfl, ho, hb⟩ := hrel
    obtain ⟨w2, hw2⟩ : ∃ w2, w2 = wr := ⟨wr, rfl⟩
    subst hw2
    obtain ⟨v, hvv⟩ : ∃ v, v = u5 := ⟨u5, rfl⟩
    subst hvv
    have O := hide ho
    have B := hide hb
    have hsz := hb.size
    have S := H.out.below hb
    by_cases hlt : i < 256
    · have hx : ((UInt8.ofNat i).toNat : Int) = (i : Int) := by simp; omega
      obtain ⟨q, hq⟩ : ∃ q, hasS set (UInt8.ofNat i) = q := ⟨_, rfl⟩
      have HC := has21 S (UInt8.ofNat i) q hq
      rw [hx] at HC
      have HC := hide HC
      have hqo := Hf.out i
      rw [hq] at hqo
      have hln := rgN_len f i
      have Hx := hide hx
      clear S hq hb hx
      cases hfi : f i with
      | false =>
        rw [hfi] at hqo
        have hqo' : (q == o) = true := hqo
        have Hn := hide (show rgN f (i + 1) = rgN f i by show (if f i = true then _ else _) = _; rw [hfi]; rfl)
        clear hqo hfi ho
        go_wp2_with fail
        with_reducible refine HC.out.mono ?_
        rintro e w' ⟨rfl, rfl⟩
        go_wp2
        go_roundw
        case rel => exact ⟨i + 1, by omega, by go_num, by rw [Hn.out]; exact O.out, B.out⟩
        case measure => simp [intOf]; omega
      | true =>
        rw [hfi] at hqo
        have hqo' : (q == o) = false := hqo
        have Hs := hide (show rgN f (i + 1) = addB (rgN f i) i by show (if f i = true then _ else _) = _; rw [hfi]; rfl)
        clear hqo hfi
        rcases List.eq_nil_or_concat (rgN f i) with hnil | ⟨m, r, hmr⟩
        · rw [hnil] at ho
          have Hn := hide (show rgN f (i + 1) = [(UInt8.ofNat i, UInt8.ofNat i)] by rw [Hs.out, addB_none i hnil])
          obtain ⟨A1, n1, c1, rfl, hn1, -⟩ := ho.s
          simp at hn1
          subst hn1
          have O1 := hide ho
          clear ho hnil hln O
          go_wp2_with fail
          with_reducible refine HC.out.mono ?_
          rintro e w' ⟨rfl, rfl⟩
          go_wp2_with (at_builtin; refine wp_push_rg rfl (.tmp 43) (.tmp 47) 22 rfl i0 (.agg #[.int .u8 0, .int .u8 0]) 2 Tryz.underlying22 hi hz0 hz1 hz2 rfl W.heap.size _ [] rfl _ (UInt8.ofNat i, UInt8.ofNat i) _ _ Hx.out.symm Hx.out.symm O1.out hsz _ rfl rfl (by simp) (by unfold maxLen; simp) _ ?_)
          intro v' w5 ho5 hb5
          rw [← Hn.out] at ho5
          have O5 := hide ho5
          have B5 := hide (B.out.trans hb5)
          clear ho5 hb5
          go_wp2
          go_roundw
          case rel => exact ⟨i + 1, by omega, by go_num, O5.out, B5.out⟩
          case measure => simp [intOf]; omega
        · rw [List.concat_eq_append] at hmr
          rw [hmr] at ho hln
          obtain ⟨j, hj⟩ : ∃ j, m.length = j := ⟨_, rfl⟩
          have hjl : j + 1 ≤ i := by rw [List.length_append] at hln; simp at hln; omega
          have how : w2.ownsRow W.heap.size 48 2 v (j + 1) (rgCells (m ++ [r])) := by
            have : OwnR w2 W.heap.size v (m ++ [r]) := ho
            unfold OwnR at this
            rw [List.length_append, hj] at this
            exact this
          obtain ⟨g, cap, rfl, hgB, hgl⟩ := how.form (by omega)
          have hc := how.cellAt (j * 2 + 1) (by omega)
          have hfz := how.frozenAt (j * 2 + 1)
          have hgt := (rgCells_get (m ++ [r]) j r (by rw [← hj]; simp)).2
          rw [hgt] at hc
          have hcap : j + 1 ≤ cap ∧ cap ≤ 9223372036854775807 := by
            obtain ⟨A1, n1, c1, e1, hn1, hs1⟩ := ho.s
            simp only [Value.slice.injEq] at e1
            obtain ⟨rfl, rfl, rfl⟩ := e1
            exact ⟨hs1.1, hs1.2.1⟩
          obtain ⟨hcap1, hcap2⟩ := hcap
          have hbb : r.2.toNat < 256 := r.2.toNat_lt
          by_cases he : r.2.toNat + 1 = i
          · have hq2 : ((r.2.toNat : Int) == (i : Int) - 1) = true := by rw [beq_iff_eq]; omega
            have Hn := hide (show rgN f (i + 1) = m ++ [(r.1, UInt8.ofNat i)] by rw [Hs.out, hmr, addB_yes m r i he])
            have O5 := row_set how (j * 2 + 1) (.int .u8 (i : Int))
            have e5 : (rgCells (m ++ [r])).set (j * 2 + 1) (.int .u8 (i : Int)) = rgCells (m ++ [(r.1, UInt8.ofNat i)]) := by
              have := rgCells_set m r.1 r.2 (UInt8.ofNat i)
              rw [hj, Hx.out] at this
              exact this
            rw [e5] at O5
            have O6 := hide (show OwnR (w2.setCell ⟨g, j * 2 + 1, none⟩ (.int .u8 (i : Int))) W.heap.size (.slice (some ⟨g, 0, none⟩) (j + 1) cap) (rgN f (i + 1)) by
              unfold OwnR
              rw [Hn.out, List.length_append, hj]
              exact O5)
            have B6 := hide (B.out.setCell (show W.heap.size ≤ (⟨g, j * 2 + 1, none⟩ : Addr).block from hgB) (.int .u8 (i : Int)))
            clear ho hln hj how hgt O5 e5 he O hmr
            go_wp2_with fail
            with_reducible refine HC.out.mono ?_
            rintro e w' ⟨rfl, rfl⟩
            go_wp2
            go_roundw
            case rel => exact ⟨i + 1, by omega, by go_num, O6.out, B6.out⟩
            case measure => simp [intOf]; omega
          · have hq2 : ((r.2.toNat : Int) == (i : Int) - 1) = false := by rw [beq_eq_false_iff_ne]; omega
            have Hn := hide (show rgN f (i + 1) = m ++ [r, (UInt8.ofNat i, UInt8.ofNat i)] by rw [Hs.out, hmr, addB_no m r i he, List.append_assoc]; rfl)
            have O1 := hide ho
            have hln2 : (m ++ [r]).length ≤ 256 := by omega
            clear ho hln hj how hgt he O hmr hfz
            go_wp2_with fail
            with_reducible refine HC.out.mono ?_
            rintro e w' ⟨rfl, rfl⟩
            go_wp2_with (at_builtin; refine wp_push_rg rfl (.tmp 43) (.tmp 47) 22 rfl i0 (.agg #[.int .u8 0, .int .u8 0]) 2 Tryz.underlying22 hi hz0 hz1 hz2 rfl W.heap.size _ (m ++ [r]) rfl _ (UInt8.ofNat i, UInt8.ofNat i) _ _ Hx.out.symm Hx.out.symm O1.out hsz _ rfl rfl (by omega) (by unfold maxLen; omega) _ ?_)
            intro v' w5 ho5 hb5
            rw [← Hn.out] at ho5
            have O5 := hide ho5
            have B5 := hide (B.out.trans hb5)
            clear ho5 hb5
            go_wp2
            go_roundw
            case rel => exact ⟨i + 1, by omega, by go_num, O5.out, B5.out⟩
            case measure => simp [intOf]; omega
    · have e256 : i = 256 := by omega
      rw [e256, Hall.out] at ho
      have HO := hide ho
      clear ho hb S
      go_wp2
      go_ret
      exact ⟨v, rfl, HO.out, B.out⟩

end Go.Proofs.YtmiegjefmebpdaaGreatDoor
