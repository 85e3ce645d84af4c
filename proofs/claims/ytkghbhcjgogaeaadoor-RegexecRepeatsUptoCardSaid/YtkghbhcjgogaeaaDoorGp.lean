/- Layer 9: P1, P2, P3, P4, P5. -/
import Derived.Test.YtkghbhcjgogaeaaDoorGd
import Derived.BigQuiet
/-! ### P1 -/
namespace Go.Proofs.YtkghbhcjgogaeaaDoor
open Go.RowKit
open Go.ChangeShapes (block_add)

theorem info4 : (Tryd.prog.info? 4).map (fun i => (i.zero, i.size, i.bytes)) = some (some (.bool false), 1, 1) := by kernel_rfl
def boolC (l : List Bool) : List Value := l.map Value.bool
theorem boolC_len (l : List Bool) : (boolC l).length = l.length := by simp [boolC]
theorem boolC_at {l : List Bool} {k : Nat} {b : Bool} (h : l[k]? = some b) : (boolC l)[k]? = some (.bool b) := by simp [boolC, h]
theorem boolC_snoc (l : List Bool) (b : Bool) : boolC l ++ [.bool b] = boolC (l ++ [b]) := by simp [boolC]
theorem bool_cell {w : World} {B n : Nat} {A : Option Addr} {l : List Bool} (h : Reads w B A n (boolC l)) {k : Nat} (hk : k < n) : ∃ ad z, A = some ad ∧ l[k]? = some z ∧ w.cell? (ad.add k) = some (.bool z) := by
  obtain ⟨ad, u, hA, _, hu, hc⟩ := h.at_ hk
  unfold boolC at hu
  rw [List.getElem?_map] at hu
  cases hz : l[k]? with
  | none => rw [hz] at hu; simp at hu
  | some z => rw [hz] at hu; simp at hu; exact ⟨ad, z, hA, rfl, by rw [hc, ← hu]⟩
/-- A set of the call's own is returned. -/
def GrewB (w : World) (l : List Bool) (e : Ending) (w' : World) : Prop := ∃ v, e = .returned v ∧ Own w' w.heap.size 4 v (boolC l) ∧ Below w.heap.size w w'
theorem GrewB.sl {w w' : World} {l : List Bool} {e : Ending} (h : GrewB w l e w') : ∃ A m c, e = .returned (.slice A m c) ∧ m = l.length ∧ Sl w' A m c (boolC l) ∧ Below w.heap.size w w' := by
  obtain ⟨v, rfl, ho, hb⟩ := h
  obtain ⟨A, c, rfl, hs⟩ := ho.sl
  exact ⟨A, _, c, rfl, boolC_len l, hs, hb⟩
theorem Sl.blen {w : World} {A : Option Addr} {n c : Nat} {l : List Bool} (h : Sl w A n c (boolC l)) : l.length = n := by rw [← boolC_len]; exact h.reads.1
set_option maxRecDepth 100000 in
set_option maxHeartbeats 2000000 in
theorem none32 (s : ByteArray) (hs : s.size ≤ 60) (W : World) : Calls Tryd.prog 32 #[.string s] W (GrewB W (noneC s.size)) := by
  obtain ⟨i0, hi, hz0, hz1, hz2⟩ := info_parts info4
  go_enter Tryd.func32, Tryd.ntmps32
  go_wp2
  go_loopw [3, 4] (fun v y wr => ∃ k : Nat, k ≤ s.size + 1 ∧ y = .int .i64 (k : Int) ∧ Own wr W.heap.size 4 v (boolC (List.replicate k false)) ∧ Below W.heap.size W wr) (fun _ y _ => s.size + 1 - (intOf y).toNat)
  case atStart => exact ⟨0, Nat.zero_le _, rfl, World.ownsRow_nil _ _ _ _, Below.refl _ _⟩
  case round =>
    obtain ⟨k, hk, rfl, ho, hb⟩ := hrel
    obtain ⟨w1, hw1⟩ : ∃ w1, w1 = wr := ⟨wr, rfl⟩
    subst hw1
    have O := hide ho
    have B := hide hb
    have hsz := hb.size
    by_cases hlt : k ≤ s.size
    · have hd : decide ((k : Int) ≤ (s.size : Int)) = true := decide_eq_true (by omega)
      have hd2 : decide (k ≤ s.size) = true := decide_eq_true hlt
      have hlen : (boolC (List.replicate k false)).length = k := by rw [boolC_len, List.length_replicate]
      clear ho hb
      go_wp2_with (at_builtin; refine wp_push rfl (.tmp 11) (.tmp 12) 57 rfl 4 i0 (.bool false) 1 Tryd.underlying57 hi hz0 hz1 hz2 rfl W.heap.size _ (boolC (List.replicate k false)) rfl _ _ rfl O.out.src hsz _ rfl rfl (by omega) (by unfold maxLen; omega) ?_)
      intro v' w5 ho5 hb5
      rw [boolC_snoc, ← List.replicate_succ'] at ho5
      have O5 := hide ho5
      have B5 := hide (B.out.trans hb5)
      clear ho5 hb5
      go_wp2
      go_roundw
      case rel => exact ⟨k + 1, by omega, by go_num, O5.out, B5.out⟩
      case measure => simp [intOf]; omega
    · obtain rfl : k = s.size + 1 := by omega
      have hd : decide (((s.size + 1 : Nat) : Int) ≤ (s.size : Int)) = false := decide_eq_false (by omega)
      have hd2 : decide (s.size + 1 ≤ s.size) = false := decide_eq_false (by omega)
      clear ho hb
      go_wp2
      go_ret
      exact ⟨_, rfl, O.out, B.out⟩
theorem both_take {l m : List Bool} {k : Nat} {x y : Bool} (hx : l[k]? = some x) (hy : m[k]? = some y) : bothC (l.take (k + 1)) (m.take (k + 1)) = bothC (l.take k) (m.take k) ++ [x || y] := by
  unfold bothC
  rw [take_next hx, take_next hy, List.zipWith_append]
  · rfl
  · rw [List.length_take, List.length_take]
    have := (List.getElem?_eq_some_iff.1 hx).1
    have := (List.getElem?_eq_some_iff.1 hy).1
    omega
theorem fresh_take {l m : List Bool} {k : Nat} {x y : Bool} (hx : l[k]? = some x) (hy : m[k]? = some y) : freshC (l.take (k + 1)) (m.take (k + 1)) = freshC (l.take k) (m.take k) ++ [x && !y] := by
  unfold freshC
  rw [take_next hx, take_next hy, List.zipWith_append]
  · rfl
  · rw [List.length_take, List.length_take]
    have := (List.getElem?_eq_some_iff.1 hx).1
    have := (List.getElem?_eq_some_iff.1 hy).1
    omega
set_option maxRecDepth 100000 in
set_option maxHeartbeats 2000000 in
theorem both61 (a b : List Bool) (A B : Option Addr) (n c d : Nat) (hn : n ≤ 1000000) (W : World) (ha : Sl W A n c (boolC a)) (hb : Sl W B n d (boolC b)) : Calls Tryd.prog 61 #[.slice A n c, .slice B n d] W (GrewB W (bothC a b)) := by
  obtain ⟨i0, hi, hz0, hz1, hz2⟩ := info_parts info4
  have hla := ha.blen
  have hlb := hb.blen
  have SA := hide ha
  have SB := hide hb
  clear ha hb
  go_enter Tryd.func61, Tryd.ntmps61
  go_wp2
  go_loopw [5, 6] (fun v y wr => ∃ k : Nat, k ≤ n ∧ y = .int .i64 (k : Int) ∧ Own wr W.heap.size 4 v (boolC (bothC (a.take k) (b.take k))) ∧ Below W.heap.size W wr) (fun _ y _ => n - (intOf y).toNat)
  case atStart => exact ⟨0, Nat.zero_le _, rfl, World.ownsRow_nil _ _ _ _, Below.refl _ _⟩
  case round =>
    obtain ⟨k, hk, rfl, ho, hb⟩ := hrel
    obtain ⟨w1, hw1⟩ : ∃ w1, w1 = wr := ⟨wr, rfl⟩
    subst hw1
    have O := hide ho
    have Bw := hide hb
    have hsz := hb.size
    by_cases hlt : k < n
    · obtain ⟨p1, x, rfl, hx, hcx⟩ := bool_cell SA.out.reads hlt
      obtain ⟨p2, y, rfl, hy, hcy⟩ := bool_cell SB.out.reads hlt
      have c1 := (hb.cell (p := p1.add k) (World.block_lt_of_cell? _ _ hcx)).trans hcx
      have c2 := (hb.cell (p := p2.add k) (World.block_lt_of_cell? _ _ hcy)).trans hcy
      have hd : decide ((k : Int) < (n : Int)) = true := decide_eq_true (by omega)
      have hd2 : decide (k < n) = true := decide_eq_true hlt
      have hlen : (boolC (bothC (a.take k) (b.take k))).length = k := by rw [boolC_len, bothC_len (n := k) (by rw [List.length_take]; omega) (by rw [List.length_take]; omega)]
      have Ht := hide (both_take hx hy)
      clear ho hb hx hy hcx hcy
      cases x with
      | true =>
        go_wp2_with (at_builtin; refine wp_push rfl (.tmp 13) (.tmp 24) 57 rfl 4 i0 (.bool false) 1 Tryd.underlying57 hi hz0 hz1 hz2 rfl W.heap.size _ (boolC (bothC (a.take k) (b.take k))) rfl _ _ rfl O.out.src hsz _ rfl rfl (by omega) (by unfold maxLen; omega) ?_)
        intro v' w5 ho5 hb5
        have e := Ht.out
        rw [Bool.true_or] at e
        rw [boolC_snoc, ← e] at ho5
        have O5 := hide ho5
        have B5 := hide (Bw.out.trans hb5)
        clear ho5 hb5
        go_wp2
        go_roundw
        case rel => exact ⟨k + 1, by omega, by go_num, O5.out, B5.out⟩
        case measure => simp [intOf]; omega
      | false =>
        go_wp2_with (at_builtin; refine wp_push rfl (.tmp 13) (.tmp 24) 57 rfl 4 i0 (.bool false) 1 Tryd.underlying57 hi hz0 hz1 hz2 rfl W.heap.size _ (boolC (bothC (a.take k) (b.take k))) rfl _ _ rfl O.out.src hsz _ rfl rfl (by omega) (by unfold maxLen; omega) ?_)
        intro v' w5 ho5 hb5
        have e := Ht.out
        rw [Bool.false_or] at e
        rw [boolC_snoc, ← e] at ho5
        have O5 := hide ho5
        have B5 := hide (Bw.out.trans hb5)
        clear ho5 hb5
        go_wp2
        go_roundw
        case rel => exact ⟨k + 1, by omega, by go_num, O5.out, B5.out⟩
        case measure => simp [intOf]; omega
    · obtain rfl : k = n := by omega
      rw [List.take_of_length_le (by omega), List.take_of_length_le (by omega)] at O
      clear ho hb
      go_wp2
      go_ret
      exact ⟨_, rfl, O.out, Bw.out⟩
end Go.Proofs.YtkghbhcjgogaeaaDoor
/-! ### P2 -/
namespace Go.Proofs.YtkghbhcjgogaeaaDoor
open Go.RowKit
open Go.ChangeShapes (block_add)

def someC (l : List Bool) : Bool := l.any id
theorem someC_snoc (l : List Bool) (b : Bool) : someC (l ++ [b]) = (someC l || b) := by simp [someC]
set_option maxRecDepth 100000 in
set_option maxHeartbeats 4000000 in
theorem fresh38 (a b : List Bool) (A B : Option Addr) (n c d : Nat) (hn : n ≤ 1000000) (W : World) (ha : Sl W A n c (boolC a)) (hb : Sl W B n d (boolC b)) :
    Calls Tryd.prog 38 #[.slice A n c, .slice B n d] W fun e w' => ∃ v, e = .returned (.tuple #[v, .bool (someC (freshC a b))]) ∧ Own w' W.heap.size 4 v (boolC (freshC a b)) ∧ Below W.heap.size W w' := by
  obtain ⟨i0, hi, hz0, hz1, hz2⟩ := info_parts info4
  have hla := ha.blen
  have hlb := hb.blen
  have SA := hide ha
  have SB := hide hb
  clear ha hb
  go_enter Tryd.func38, Tryd.ntmps38
  go_wp2
  go_loopw [6, 7, 8] (fun v q y wr => ∃ k : Nat, k ≤ n ∧ y = .int .i64 (k : Int) ∧ q = .bool (someC (freshC (a.take k) (b.take k))) ∧ Own wr W.heap.size 4 v (boolC (freshC (a.take k) (b.take k))) ∧ Below W.heap.size W wr) (fun _ _ y _ => n - (intOf y).toNat)
  case atStart => exact ⟨0, Nat.zero_le _, rfl, rfl, World.ownsRow_nil _ _ _ _, Below.refl _ _⟩
  case round =>
    obtain ⟨k, hk, rfl, rfl, ho, hb⟩ := hrel
    obtain ⟨w1, hw1⟩ : ∃ w1, w1 = wr := ⟨wr, rfl⟩
    subst hw1
    obtain ⟨q, hq⟩ : ∃ q, someC (freshC (a.take k) (b.take k)) = q := ⟨_, rfl⟩
    rw [hq]
    have O := hide ho
    have Bw := hide hb
    have hsz := hb.size
    by_cases hlt : k < n
    · obtain ⟨p1, x, rfl, hx, hcx⟩ := bool_cell SA.out.reads hlt
      obtain ⟨p2, y, rfl, hy, hcy⟩ := bool_cell SB.out.reads hlt
      have c1 := (hb.cell (p := p1.add k) (World.block_lt_of_cell? _ _ hcx)).trans hcx
      have c2 := (hb.cell (p := p2.add k) (World.block_lt_of_cell? _ _ hcy)).trans hcy
      have hd : decide ((k : Int) < (n : Int)) = true := decide_eq_true (by omega)
      have hd2 : decide (k < n) = true := decide_eq_true hlt
      have hlen : (boolC (freshC (a.take k) (b.take k))).length = k := by rw [boolC_len, freshC_len (n := k) (by rw [List.length_take]; omega) (by rw [List.length_take]; omega)]
      have Ht := hide (fresh_take hx hy)
      have Hs := hide (show someC (freshC (a.take (k + 1)) (b.take (k + 1))) = (q || (x && !y)) by rw [fresh_take hx hy, someC_snoc, hq])
      have hp1 := World.block_lt_of_cell? _ _ hcx
      have hp2 := World.block_lt_of_cell? _ _ hcy
      clear ho hb hx hy hcx hcy hq
      cases x <;> cases y <;> cases q
      all_goals
        go_wp2_with (at_builtin; refine wp_push rfl (.tmp 15) (.tmp 27) 57 rfl 4 i0 (.bool false) 1 Tryd.underlying57 hi hz0 hz1 hz2 rfl W.heap.size _ (boolC (freshC (a.take k) (b.take k))) rfl _ _ rfl O.out.src hsz _ rfl rfl (by omega) (by unfold maxLen; omega) ?_)
        intro v' w5 ho5 hb5
        have k1 := (Below.cell hb5 (p := p1.add k) hp1).trans c1
        have k2 := (Below.cell hb5 (p := p2.add k) hp2).trans c2
        have O5 := hide (show Own w5 W.heap.size 4 v' (boolC (freshC (a.take (k + 1)) (b.take (k + 1)))) by
          rw [Ht.out, ← boolC_snoc]
          exact ho5)
        have B5 := hide (Bw.out.trans hb5)
        clear ho5 hb5
        go_wp2
        go_roundw
        case rel => exact ⟨k + 1, by omega, by go_num, (congrArg Value.bool Hs.out).symm, O5.out, B5.out⟩
        case measure => simp [intOf]; omega
    · obtain rfl : k = n := by omega
      rw [List.take_of_length_le (by omega), List.take_of_length_le (by omega)] at O hq
      have Hq := hide hq
      clear ho hb hq
      go_wp2
      go_ret2
      rw [Hq.out]
      exact ⟨_, rfl, O.out, Bw.out⟩
theorem same_take {l m : List Bool} {n : Nat} (hl : l.length = n) (hm : m.length = n) (h : ∀ i : Nat, i < n → l[i]? = m[i]?) : l = m :=
  List.ext_getElem? fun i => by
    rcases Nat.lt_or_ge i n with hi | hi
    · exact h i hi
    · rw [List.getElem?_eq_none (by omega), List.getElem?_eq_none (by omega)]
set_option maxRecDepth 100000 in
set_option maxHeartbeats 4000000 in
theorem same79 (a b : List Bool) (A B : Option Addr) (n c d : Nat) (hn : n ≤ 1000000) (W : World) (ha : Sl W A n c (boolC a)) (hb : Sl W B n d (boolC b)) (q : Bool) (hq : decide (a = b) = q) :
    Calls Tryd.prog 79 #[.slice A n c, .slice B n d] W fun e w' => e = .returned (.bool q) ∧ Below W.heap.size W w' := by
  have hla := ha.blen
  have hlb := hb.blen
  have SA := hide ha
  have SB := hide hb
  have Hq := hide hq
  clear ha hb hq
  go_enter Tryd.func79, Tryd.ntmps79
  go_wp2
  go_loopw [5] (fun y wr => ∃ k : Nat, k ≤ n ∧ y = .int .i64 (k : Int) ∧ (∀ i, i < k → a[i]? = b[i]?) ∧ Below W.heap.size W wr) (fun y _ => n - (intOf y).toNat)
  case atStart => exact ⟨0, Nat.zero_le _, rfl, fun i hi => (by omega), Below.refl _ _⟩
  case round =>
    obtain ⟨k, hk, rfl, hs, hb⟩ := hrel
    obtain ⟨w1, hw1⟩ : ∃ w1, w1 = wr := ⟨wr, rfl⟩
    subst hw1
    have Hs := hide hs
    have Bw := hide hb
    by_cases hlt : k < n
    · obtain ⟨p1, x, rfl, hx, hcx⟩ := bool_cell SA.out.reads hlt
      obtain ⟨p2, y, rfl, hy, hcy⟩ := bool_cell SB.out.reads hlt
      have c1 := (hb.cell (p := p1.add k) (World.block_lt_of_cell? _ _ hcx)).trans hcx
      have c2 := (hb.cell (p := p2.add k) (World.block_lt_of_cell? _ _ hcy)).trans hcy
      have hd : decide ((k : Int) < (n : Int)) = true := decide_eq_true (by omega)
      have hd2 : decide (k < n) = true := decide_eq_true hlt
      have Hx := hide hx
      have Hy := hide hy
      clear hs hb hx hy hcx hcy
      cases x <;> cases y
      · go_wp2_with fail
        go_quiet (fail)
        go_wp2
        go_roundw
        case rel =>
          refine ⟨k + 1, by omega, by go_num, fun i hi => ?_, Bw.out.trans (Drawn.below ⟨_, rfl⟩ _)⟩
          rcases Nat.lt_or_ge i k with h | h
          · exact Hs.out i h
          · obtain rfl : i = k := by omega
            rw [Hx.out, Hy.out]
        case measure => simp [intOf]; omega
      · have hqf : q = false := by
          rw [← Hq.out]
          refine decide_eq_false fun e => ?_
          have h := Hx.out
          rw [e, Hy.out] at h
          cases h
        subst hqf
        go_wp2_with fail
        go_quiet (fail)
        go_wp2
        go_ret
        exact ⟨rfl, Bw.out.trans (Drawn.below ⟨_, rfl⟩ _)⟩
      · have hqf : q = false := by
          rw [← Hq.out]
          refine decide_eq_false fun e => ?_
          have h := Hx.out
          rw [e, Hy.out] at h
          cases h
        subst hqf
        go_wp2_with fail
        go_quiet (fail)
        go_wp2
        go_ret
        exact ⟨rfl, Bw.out.trans (Drawn.below ⟨_, rfl⟩ _)⟩
      · go_wp2_with fail
        go_quiet (fail)
        go_wp2
        go_roundw
        case rel =>
          refine ⟨k + 1, by omega, by go_num, fun i hi => ?_, Bw.out.trans (Drawn.below ⟨_, rfl⟩ _)⟩
          rcases Nat.lt_or_ge i k with h | h
          · exact Hs.out i h
          · obtain rfl : i = k := by omega
            rw [Hx.out, Hy.out]
        case measure => simp [intOf]; omega
    · obtain rfl : k = n := by omega
      have hqt : q = true := by
        rw [← Hq.out]
        exact decide_eq_true (same_take hla hlb hs)
      subst hqt
      clear hs hb
      go_wp2
      go_ret
      exact ⟨rfl, Bw.out⟩
end Go.Proofs.YtkghbhcjgogaeaaDoor
/-! ### P3 -/
namespace Go.Proofs.YtkghbhcjgogaeaaDoor
open Go.RowKit
open Go.ChangeShapes (block_add)

set_option maxRecDepth 100000 in
set_option maxHeartbeats 4000000 in
theorem word80_in (s : ByteArray) (i : Nat) (W : World) (hi : i < s.size) (_hs : s.size ≤ 100000) : Calls Tryd.prog 80 #[.string s, .int .i64 (i : Int)] W fun e w' => e = .returned (.bool (wordB s.data.toList i)) ∧ W = w' := by
  obtain ⟨q, hq⟩ : ∃ q, wordB s.data.toList i = q := ⟨_, rfl⟩
  have e : wordC s[i] = q := by rw [← hq]; unfold wordB; rw [get_at s i hi]
  have Hw := hide (word_val s[i])
  rw [e] at Hw
  rw [hq]
  have h1 : ((s[i].toNat : Nat) : Int) ≤ 255 := by have := s[i].toNat_lt; omega
  clear hq e
  go_enter Tryd.func80, Tryd.ntmps80
  go_wp2
  all_goals (go_ret; exact ⟨ret_bool (by rw [Hw.out, Bool.eq_iff_iff]; simp; omega), rfl⟩)
theorem word80_neg (s : ByteArray) (W : World) : Calls Tryd.prog 80 #[.string s, .int .i64 (-1)] W fun e w' => e = .returned (.bool false) ∧ W = w' := by
  go_enter Tryd.func80, Tryd.ntmps80
  go_wp2
  go_ret
  exact ⟨rfl, rfl⟩
theorem word80_end (s : ByteArray) (i : Nat) (W : World) (hi : s.size ≤ i) (_hi2 : i ≤ 100000) : Calls Tryd.prog 80 #[.string s, .int .i64 (i : Int)] W fun e w' => e = .returned (.bool false) ∧ W = w' := by
  go_enter Tryd.func80, Tryd.ntmps80
  go_wp2
  go_ret
  exact ⟨rfl, rfl⟩
theorem word80 (s : ByteArray) (i : Nat) (W : World) (hi : i ≤ s.size) (hs : s.size ≤ 100000) : Calls Tryd.prog 80 #[.string s, .int .i64 (i : Int)] W fun e w' => e = .returned (.bool (wordB s.data.toList i)) ∧ W = w' := by
  by_cases h : i < s.size
  · exact word80_in s i W h hs
  · rw [word_out _ _ (by simp; omega)]
    exact word80_end s i W (by omega) (by omega)
theorem word80_before (s : ByteArray) (i : Nat) (z : Int) (hz : z = (i : Int) - 1) (W : World) (hi : i ≤ s.size) (hs : s.size ≤ 100000) : Calls Tryd.prog 80 #[.string s, .int .i64 z] W fun e w' => e = .returned (.bool (if i = 0 then false else wordB s.data.toList (i - 1))) ∧ W = w' := by
  by_cases h : i = 0
  · subst h
    rw [if_pos rfl, hz]
    exact word80_neg s W
  · rw [if_neg h, hz, show (i : Int) - 1 = ((i - 1 : Nat) : Int) by omega]
    exact word80 s (i - 1) W (by omega) hs
set_option maxRecDepth 100000 in
set_option maxHeartbeats 4000000 in
theorem stands64 (s : ByteArray) (k : Int) (i : Nat) (W : World) (hi : i ≤ s.size) (hs : s.size ≤ 100000) : Calls Tryd.prog 64 #[.int .i64 k, .string s, .int .i64 (i : Int)] W fun e w' => e = .returned (.bool (standsB k s.data.toList i)) ∧ W = w' := by
  by_cases h5 : k = 5
  · subst h5
    by_cases h0 : i = 0
    · subst h0
      go_enter Tryd.func64, Tryd.ntmps64
      go_wp2
      go_ret
      exact ⟨rfl, rfl⟩
    · obtain ⟨q, hq⟩ : ∃ q, standsB 5 s.data.toList i = q := ⟨_, rfl⟩
      have hj : i - 1 < s.size := by omega
      have Hq := hide (show ((s[i - 1].toNat : Int) == 10) = q by
        rw [← hq]
        show _ = (decide (i = 0) || decide (s.data.toList[i - 1]? = some 10))
        rw [get_at s (i - 1) hj, byte10, decide_eq_false h0]
        simp)
      rw [hq]
      have hz : ((i : Int) == 0) = false := by rw [beq_eq_false_iff_ne]; omega
      obtain ⟨j, hj2⟩ : ∃ j, i - 1 = j := ⟨_, rfl⟩
      have hji : (i : Int) - 1 = (j : Int) := by omega
      subst hj2
      clear hq
      go_enter Tryd.func64, Tryd.ntmps64
      go_wp2
      go_ret
      exact ⟨ret_bool Hq.out, rfl⟩
  · have e5 : (k == 5) = false := beq_eq_false_iff_ne.2 h5
    by_cases h6 : k = 6
    · subst h6
      have hst : standsB 6 s.data.toList i = (decide (i = s.data.toList.length) || decide (s.data.toList[i]? = some 10)) := rfl
      rw [size_list] at hst
      by_cases h : i < s.size
      · obtain ⟨q, hq⟩ : ∃ q, standsB 6 s.data.toList i = q := ⟨_, rfl⟩
        have Hq := hide (show ((s[i].toNat : Int) == 10) = q by
          rw [← hq, hst, get_at s i h, byte10, decide_eq_false (show ¬ i = s.size by omega)]
          simp)
        rw [hq]
        have hz : ((i : Int) == (s.size : Int)) = false := by rw [beq_eq_false_iff_ne]; omega
        clear hq hst
        go_enter Tryd.func64, Tryd.ntmps64
        go_wp2
        go_ret
        exact ⟨ret_bool Hq.out, rfl⟩
      · obtain rfl : i = s.size := by omega
        have e : standsB 6 s.data.toList s.size = true := by rw [hst, decide_eq_true rfl]; rfl
        rw [e]
        clear e hst
        go_enter Tryd.func64, Tryd.ntmps64
        go_wp2
        go_ret
        exact ⟨ret_bool (by simp), rfl⟩
    · have e6 : (k == 6) = false := beq_eq_false_iff_ne.2 h6
      have hst : standsB k s.data.toList i = ((if i = 0 then false else wordB s.data.toList (i - 1)) != wordB s.data.toList i) := by unfold standsB; rw [if_neg h5, if_neg h6]
      obtain ⟨z, hz⟩ : ∃ z : Int, (i : Int) - 1 = z := ⟨_, rfl⟩
      have HA := hide (word80_before s i z hz.symm W hi hs)
      have HB := hide (word80 s i W hi hs)
      obtain ⟨x, hx⟩ : ∃ x, (if i = 0 then false else wordB s.data.toList (i - 1)) = x := ⟨_, rfl⟩
      obtain ⟨y, hy⟩ : ∃ y, wordB s.data.toList i = y := ⟨_, rfl⟩
      rw [hx] at HA hst
      rw [hy] at HB hst
      rw [hst]
      clear hst hx hy
      go_enter Tryd.func64, Tryd.ntmps64
      go_wp2_with fail
      with_reducible refine HA.out.mono ?_
      rintro e w2 ⟨rfl, rfl⟩
      go_wp2_with fail
      with_reducible refine HB.out.mono ?_
      rintro e w2 ⟨rfl, rfl⟩
      cases x <;> cases y
      all_goals
        go_wp2
        go_ret
        exact ⟨rfl, rfl⟩
end Go.Proofs.YtkghbhcjgogaeaaDoor
/-! ### P4 -/
namespace Go.Proofs.YtkghbhcjgogaeaaDoor
open Go.RowKit
open Go.ChangeShapes (block_add)

/-- A set is returned. -/
def RetS (W : World) (l : List Bool) (e : Ending) (w' : World) : Prop := ∃ A n c, e = .returned (.slice A n c) ∧ Sl w' A n c (boolC l) ∧ Below W.heap.size W w'
theorem GrewB.rets {W w' : World} {l : List Bool} {e : Ending} (h : GrewB W l e w') : RetS W l e w' := by
  obtain ⟨A, m, c, rfl, _, hs, hb⟩ := h.sl
  exact ⟨A, m, c, rfl, hs, hb⟩
def RefStep (s : ByteArray) (r : Rx) : Prop := ∀ (W : World) (ok : Nat → Prop) (v : Value) (A : Option Addr) (n c : Nat) (f : List Bool), RxV W ok v r → f.length = s.size + 1 → Sl W A n c (boolC f) → Calls Tryd.prog 33 #[v, .string s, .slice A n c] W (RetS W (stepC r s.data.toList f))
theorem drop_next {α : Type} {l : List α} {k : Nat} {x : α} (h : l[k]? = some x) : l.drop k = x :: l.drop (k + 1) := by
  obtain ⟨h1, h2⟩ := List.getElem?_eq_some_iff.1 h
  rw [List.drop_eq_getElem_cons h1, h2]
theorem catC_cons (x : Rx) (l : List Rx) (s : List UInt8) (f : List Bool) : catC (x :: l) s f = catC l s (stepC x s f) := by rw [catC]
set_option maxRecDepth 100000 in
set_option maxHeartbeats 4000000 in
theorem step33_2 (s : ByteArray) (set : List (UInt8 × UInt8)) (a b : Int) (l : List Rx) (hl : ∀ x ∈ l, RefStep s x) : RefStep s (.mk 2 set a b l) := by
  intro W ok v A0 n0 c0 f hv hf hS
  have hlen := strlen s
  cases hv with
  | mk _ _ _ A B n c m d _ vs _ hset hvs hlen2 hk ha hb hr =>
  have hm62 : m ≤ 9223372036854775807 := Nat.le_trans hvs.1 hvs.2.1
  have hB := bnew (Below.refl _ W) (.cells #[.int .i64 2, .slice A n c, .int .i64 a, .int .i64 b, .slice B m d] 25)
  have F := hide (five_new W (.int .i64 2) (.slice A n c) (.int .i64 a) (.int .i64 b) (.slice B m d) 25)
  have Hs := hide ((SubsS.of hvs hlen2 hr).below hB)
  have BB := hide hB
  have S0 := hide (hS.below hB)
  have Hl := hide hl
  have hstep : stepC (.mk 2 set a b l) s.data.toList f = catC l s.data.toList f := by unfold stepC; rw [if_pos rfl]
  rw [hstep]
  obtain ⟨_, t0, t1, t2, t3, t4⟩ := F.out
  have hmax : (m : Int) ≤ 9223372036854775807 := by omega
  clear hset hvs hk ha hb hr hB hS hl hstep
  go_enter Tryd.func33, Tryd.ntmps33
  go_wp2
  clear t0 t1 t2 t3 t4
  go_loopw [7, 8] (fun u y wr => ∃ (i : Nat) (g : List Bool) (A' : Option Addr) (n' c' : Nat), i ≤ m ∧ y = .int .i64 (i : Int) ∧ u = .slice A' n' c' ∧ Sl wr A' n' c' (boolC g) ∧ g.length = s.size + 1 ∧ catC (l.drop i) s.data.toList g = catC l s.data.toList f ∧
    Below (W.alloc (.cells #[.int .i64 2, .slice A n c, .int .i64 a, .int .i64 b, .slice B m d] 25)).heap.size (W.alloc (.cells #[.int .i64 2, .slice A n c, .int .i64 a, .int .i64 b, .slice B m d] 25)) wr) (fun _ y _ => m - (intOf y).toNat)
  case atStart => exact ⟨0, f, A0, n0, c0, Nat.zero_le _, rfl, rfl, S0.out, hf, rfl, Below.refl _ _⟩
  case round =>
    obtain ⟨i, g, A', n', c', hi, rfl, rfl, hsg, hg, hcat, hbel⟩ := hrel
    obtain ⟨w3, hw3⟩ : ∃ w3, w3 = wr := ⟨wr, rfl⟩
    subst hw3
    obtain ⟨_, t0, t1, t2, t3, t4⟩ := F.out.keep hbel
    have B3 := hide hbel
    by_cases hlt : i < m
    · have hd : decide ((i : Int) < (m : Int)) = true := decide_eq_true (by omega)
      have hd2 : decide (i < m) = true := decide_eq_true hlt
      obtain ⟨x, gg, o, q0, qA, qn, qc, q1, q2, qB, qm, qd, hxl, rfl, x0, x1, x2, x3, x4, rx⟩ := (Hs.out.below hbel).at_ hlt
      have HC := hide (Hl.out x (List.mem_of_getElem? hxl) w3 ok _ A' n' c' g rx hg hsg)
      have Hc := hide (show catC (l.drop (i + 1)) s.data.toList (stepC x s.data.toList g) = catC l s.data.toList f by
        rw [← hcat, drop_next hxl, catC_cons])
      have Hg2 := hide (show (stepC x s.data.toList g).length = s.size + 1 by rw [stepC_len x _ g (by rw [hlen]; exact hg), hlen])
      clear hxl rx hsg hcat hbel
      go_wp2_with fail
      with_reducible refine HC.out.mono ?_
      rintro e w4 ⟨A2, n2, c2, rfl, hs4, hb4⟩
      have S4 := hide hs4
      have B4 := hide (bgo B3.out hb4)
      clear hs4 hb4 x0 x1 x2 x3 x4 t0 t1 t2 t3 t4
      go_wp2
      go_roundw
      case rel => exact ⟨i + 1, _, A2, n2, c2, by omega, by go_num, rfl, S4.out, Hg2.out, Hc.out, B4.out⟩
      case measure => simp [intOf]; omega
    · obtain rfl : i = m := by omega
      have hd : decide ((i : Int) < (i : Int)) = false := decide_eq_false (by omega)
      rw [List.drop_eq_nil_of_le (by omega)] at hcat
      have hfin : g = catC l s.data.toList f := by rw [← hcat]; unfold catC; rfl
      have Hfin := hide hfin
      have S4 := hide hsg
      clear hcat hfin hsg hbel
      go_wp2
      go_ret
      exact ⟨A', n', c', rfl, by rw [← Hfin.out]; exact S4.out, bgo BB.out B3.out⟩
set_option maxRecDepth 100000 in
set_option maxHeartbeats 4000000 in
theorem step33_3 (s : ByteArray) (hs60 : s.size ≤ 60) (set : List (UInt8 × UInt8)) (a b : Int) (l : List Rx) (hl : ∀ x ∈ l, RefStep s x) : RefStep s (.mk 3 set a b l) := by
  intro W ok v A0 n0 c0 f hv hf hS
  have hlen := strlen s
  cases hv with
  | mk _ _ _ A B n c m d _ vs _ hset hvs hlen2 hk ha hb hr =>
  have hm62 : m ≤ 9223372036854775807 := Nat.le_trans hvs.1 hvs.2.1
  have hB := bnew (Below.refl _ W) (.cells #[.int .i64 3, .slice A n c, .int .i64 a, .int .i64 b, .slice B m d] 25)
  have F := hide (five_new W (.int .i64 3) (.slice A n c) (.int .i64 a) (.int .i64 b) (.slice B m d) 25)
  have Hs := hide ((SubsS.of hvs hlen2 hr).below hB)
  have BB := hide hB
  have S0 := hide (hS.below hB)
  have Hl := hide hl
  have hstep : stepC (.mk 3 set a b l) s.data.toList f = altL s.data.toList f l (noneC s.data.toList.length) := by
    rw [altL_none s.data.toList f (by rw [hlen]; exact hf) l]
    unfold stepC
    rw [if_neg (by omega), if_pos rfl]
  rw [hstep]
  obtain ⟨_, t0, t1, t2, t3, t4⟩ := F.out
  have hmax : (m : Int) ≤ 9223372036854775807 := by omega
  obtain ⟨W1, hW1⟩ : ∃ W1, W.alloc (.cells #[.int .i64 3, .slice A n c, .int .i64 a, .int .i64 b, .slice B m d] 25) = W1 := ⟨_, rfl⟩
  have HN := hide (none32 s hs60 W1)
  rw [hW1] at F Hs BB S0
  have HW1 := hide hW1
  clear hset hvs hk ha hb hr hB hS hl hstep hW1
  go_enter Tryd.func33, Tryd.ntmps33
  go_wp2_with fail
  rw [HW1.out]
  clear t0 t1 t2 t3 t4
  with_reducible refine HN.out.mono ?_
  rintro e w2 hgr
  obtain ⟨An, nn, cn, rfl, hnn, hsn, hb2⟩ := hgr.sl
  rw [noneC_len] at hnn
  subst hnn
  have B2 := hide hb2
  have SN := hide hsn
  have F2 := hide (F.out.keep hb2)
  obtain ⟨_, t0, t1, t2, t3, t4⟩ := F2.out
  clear hgr hsn hb2
  go_wp2
  clear t0 t1 t2 t3 t4
  go_loopw [9, 10] (fun u y wr => ∃ (i : Nat) (g : List Bool) (A' : Option Addr) (c' : Nat), i ≤ m ∧ y = .int .i64 (i : Int) ∧ u = .slice A' (s.size + 1) c' ∧ Sl wr A' (s.size + 1) c' (boolC g) ∧ g.length = s.size + 1 ∧ altL s.data.toList f (l.drop i) g = altL s.data.toList f l (noneC s.data.toList.length) ∧ Below w2.heap.size w2 wr) (fun _ y _ => m - (intOf y).toNat)
  case atStart => exact ⟨0, noneC s.size, An, cn, Nat.zero_le _, rfl, rfl, SN.out, noneC_len _, by rw [hlen]; rfl, Below.refl _ _⟩
  case round =>
    obtain ⟨i, g, A', c', hi, rfl, rfl, hsg, hg, halt, hbel⟩ := hrel
    obtain ⟨w3, hw3⟩ : ∃ w3, w3 = wr := ⟨wr, rfl⟩
    subst hw3
    obtain ⟨_, t0, t1, t2, t3, t4⟩ := F2.out.keep hbel
    have B3 := hide hbel
    by_cases hlt : i < m
    · have hd : decide ((i : Int) < (m : Int)) = true := decide_eq_true (by omega)
      have hd2 : decide (i < m) = true := decide_eq_true hlt
      have hb13 := bgo B2.out hbel
      obtain ⟨x, gg, o, q0, qA, qn, qc, q1, q2, qB, qm, qd, hxl, rfl, x0, x1, x2, x3, x4, rx⟩ := (Hs.out.below hb13).at_ hlt
      have HC := hide (Hl.out x (List.mem_of_getElem? hxl) w3 ok _ A0 n0 c0 f rx hf (S0.out.below hb13))
      have Hc := hide (show altL s.data.toList f (l.drop (i + 1)) (bothC g (stepC x s.data.toList f)) = altL s.data.toList f l (noneC s.data.toList.length) by
        rw [← halt, drop_next hxl]; rfl)
      have hsx : (stepC x s.data.toList f).length = s.size + 1 := by rw [stepC_len x _ f (by rw [hlen]; exact hf), hlen]
      have Sg := hide hsg
      have Hg2 := hide (bothC_len hg hsx)
      clear hxl rx hsg halt hbel hb13
      go_wp2_with fail
      with_reducible refine HC.out.mono ?_
      rintro e w4 ⟨A2, n2, c2, rfl, hs4, hb4⟩
      obtain rfl : n2 = s.size + 1 := by rw [← hs4.blen, hsx]
      have HB := hide (both61 g (stepC x s.data.toList f) A' A2 (s.size + 1) c' c2 (by omega) w4 (Sg.out.below hb4) hs4)
      have B4 := hide (bgo B3.out hb4)
      clear hs4 hb4 x0 x1 x2 x3 x4 t0 t1 t2 t3 t4
      go_wp2_with fail
      with_reducible refine HB.out.mono ?_
      rintro e w5 hgr5
      obtain ⟨A5, n5, c5, rfl, hs5, hb5⟩ := hgr5.rets
      obtain rfl : n5 = s.size + 1 := by rw [← hs5.blen, Hg2.out]
      have S5 := hide hs5
      have B5 := hide (bgo B4.out hb5)
      clear hgr5 hs5 hb5
      go_wp2
      go_roundw
      case rel => exact ⟨i + 1, _, A5, c5, by omega, by go_num, rfl, S5.out, Hg2.out, Hc.out, B5.out⟩
      case measure => simp [intOf]; omega
    · obtain rfl : i = m := by omega
      have hd : decide ((i : Int) < (i : Int)) = false := decide_eq_false (by omega)
      rw [List.drop_eq_nil_of_le (by omega)] at halt
      have Hfin := hide (show g = altL s.data.toList f l (noneC s.data.toList.length) from halt)
      have S4 := hide hsg
      clear halt hsg hbel
      go_wp2
      go_ret
      exact ⟨A', _, c', rfl, by rw [← Hfin.out]; exact S4.out, bgo (bgo BB.out B2.out) B3.out⟩
end Go.Proofs.YtkghbhcjgogaeaaDoor
/-! ### P5 -/
namespace Go.Proofs.YtkghbhcjgogaeaaDoor
open Go.RowKit
open Go.ChangeShapes (block_add)

theorem some_mask {l : List Bool} : someC l = decide (maskC l ≠ 0) := by
  rw [Bool.eq_iff_iff, decide_eq_true_eq]
  unfold someC
  rw [List.any_eq_true]
  constructor
  · rintro ⟨x, hx, h⟩ h0
    obtain ⟨j, hj⟩ := List.getElem?_of_mem hx
    refine mask_empty h0 j ?_
    unfold On
    rw [List.getD_eq_getElem?_getD, hj]
    exact h
  · intro h
    obtain ⟨j, hj⟩ := mask_some h
    unfold On at hj
    rw [List.getD_eq_getElem?_getD] at hj
    cases hx : l[j]? with
    | none => rw [hx] at hj; cases hj
    | some x => rw [hx] at hj; exact ⟨x, List.mem_of_getElem? hx, hj⟩
set_option maxRecDepth 100000 in
set_option maxHeartbeats 4000000 in
theorem repeat62 (s : ByteArray) (hs60 : s.size ≤ 60) (set : List (UInt8 × UInt8)) (L : Nat) (hL : L ≤ 1000000) (b : Int) (hb1 : b = -1 ∨ (L ≤ b ∧ b ≤ 1000000)) (x : Rx) (hx0 : nodeR x = 0) (hx : RefStep s x) (W : World) (ok : Nat → Prop) (v : Value) (A0 : Option Addr) (c0 : Nat) (f : List Bool)
    (hv : RxV W ok v (.mk 4 set L b [x])) (hf : f.length = s.size + 1) (hS : Sl W A0 (s.size + 1) c0 (boolC f)) : Calls Tryd.prog 62 #[v, .string s, .slice A0 (s.size + 1) c0] W (RetS W (repC (fun g => stepC x s.data.toList g) L b s.size f)) := by
  have hlen := strlen s
  cases hv with
  | mk _ _ _ A B n c m d _ vs _ hset hvs hlen2 hk ha hb hr =>
  have hone : 0 < m := by rw [← hlen2]; simp
  have hTl : ∀ g : List Bool, g.length = s.size + 1 → (stepC x s.data.toList g).length = s.size + 1 := fun g hg => by rw [stepC_len x _ g (by rw [hlen]; exact hg), hlen]
  have hT0 : stepC x s.data.toList (noneC s.size) = noneC s.size := by rw [← hlen]; exact stepC_none x hx0 s.data.toList
  have hB := bnew (Below.refl _ W) (.cells #[.int .i64 4, .slice A n c, .int .i64 (L : Int), .int .i64 b, .slice B m d] 25)
  obtain ⟨W1, hW1⟩ : ∃ W1, W.alloc (.cells #[.int .i64 4, .slice A n c, .int .i64 (L : Int), .int .i64 b, .slice B m d] 25) = W1 := ⟨_, rfl⟩
  have F := five_new W (.int .i64 4) (.slice A n c) (.int .i64 (L : Int)) (.int .i64 b) (.slice B m d) 25
  obtain ⟨_, t0, t1, t2, t3, t4⟩ := F
  rw [hW1] at hB
  have F1 := hide (show Five W1 W.heap.size _ _ _ _ _ from hW1 ▸ five_new W (.int .i64 4) (.slice A n c) (.int .i64 (L : Int)) (.int .i64 b) (.slice B m d) 25)
  have Hs := hide ((SubsS.of hvs hlen2 hr).below hB)
  have BB := hide hB
  have S0 := hide (hS.below hB)
  have Hx := hide (show ∀ (W : World) (ok : Nat → Prop) (v : Value) (A : Option Addr) (n c : Nat) (f : List Bool), RxV W ok v x → f.length = s.size + 1 → Sl W A n c (boolC f) → Calls Tryd.prog 33 #[v, .string s, .slice A n c] W (RetS W (stepC x s.data.toList f)) from hx)
  have Hb1 := hide hb1
  obtain ⟨T, hTT⟩ : ∃ T : List Bool → List Bool, (fun g => stepC x s.data.toList g) = T := ⟨_, rfl⟩
  have hTx : ∀ g, stepC x s.data.toList g = T g := fun g => by rw [← hTT]
  rw [hTT]
  simp only [hTx] at hTl hT0 Hx
  have HTl := hide hTl
  have HT0 := hide hT0
  have HW1 := hide hW1
  clear hset hvs hk ha hb hr hB hS hW1 hx hTl hT0 hTT hTx hb1
  go_enter Tryd.func62, Tryd.ntmps62
  go_wp2
  rw [HW1.out]
  clear t0 t1 t2 t3 t4
  obtain ⟨x', g0, o, q0, qA, qn, qc, q1, q2, qB, qm, qd, hxl, rfl, -, -, -, -, -, -⟩ := Hs.out.at_ hone
  obtain rfl : x' = x := by simpa using hxl.symm
  have KS := hide (fun (w : World) (hb : Below W1.heap.size W1 w) => (Hs.out.below hb).at_ hone)
  go_loopw [7, 8] (fun u y wr => ∃ (k : Nat) (g : List Bool) (A' : Option Addr) (c' : Nat), k ≤ L ∧ y = .int .i64 (k : Int) ∧ u = .slice A' (s.size + 1) c' ∧ Sl wr A' (s.size + 1) c' (boolC g) ∧ g.length = s.size + 1 ∧ timesC T (L - k) g = timesC T L f ∧ Below W1.heap.size W1 wr) (fun _ y _ => L - (intOf y).toNat)
  case atStart => exact ⟨0, f, A0, c0, Nat.zero_le _, rfl, rfl, S0.out, hf, rfl, Below.refl _ _⟩
  case round =>
    obtain ⟨k, g, A', c', hk, rfl, rfl, hsg, hg, htm, hbel⟩ := hrel
    obtain ⟨w3, hw3⟩ : ∃ w3, w3 = wr := ⟨wr, rfl⟩
    subst hw3
    have B3 := hide hbel
    obtain ⟨_, t0, t1, t2, t3, t4⟩ := F1.out.keep hbel
    by_cases hlt : k < L
    · have hd : decide ((k : Int) < (L : Int)) = true := decide_eq_true (by omega)
      have hd2 : decide (k < L) = true := decide_eq_true hlt
      obtain ⟨x2, g2, o2, p0, pA, pn, pc, p1, p2, pB, pm, pd, hxl2, he2, x0, x1, x2', x3, x4, rx⟩ := KS.out w3 hbel
      obtain rfl : x' = x2 := by simpa using hxl2
      simp only [Option.some.injEq, Addr.mk.injEq, and_true] at he2
      obtain ⟨rfl, rfl⟩ := he2
      rw [Nat.zero_mul, Nat.add_zero] at x0 x1 x2' x3 x4
      have HC := hide (Hx.out w3 ok _ A' _ c' g rx hg hsg)
      have Htm := hide htm
      have Hg := hide hg
      have hTg := HTl.out g hg
      have Sg := hide hsg
      clear hxl2 rx hsg hg htm hbel
      go_wp2_with fail
      with_reducible refine HC.out.mono ?_
      rintro e w4 ⟨A4, n4, c4, rfl, hs4, hb4⟩
      obtain rfl : n4 = s.size + 1 := by rw [← hs4.blen, hTg]
      have S4 := hide hs4
      have S34 := hide (Sg.out.below hb4)
      have B4 := hide (bgo B3.out hb4)
      clear hs4 hb4 x0 x1 x2' x3 x4 t0 t1 t2 t3 t4
      by_cases hqq : T g = g
      · have HD := hide (same79 (T g) g A4 A' (s.size + 1) c4 c' (by omega) w4 S4.out S34.out true (decide_eq_true hqq))
        have HX := hide (show timesC T L f = g by rw [← Htm.out, timesC_fix hqq])
        clear hqq
        go_wp2_with fail
        with_reducible refine HD.out.mono ?_
        rintro e w5 ⟨rfl, hb5⟩
        have SX := hide (S34.out.below hb5)
        have BX := hide (bgo B4.out hb5)
        have HXl := hide Hg.out
        obtain ⟨X, rfl⟩ : ∃ X, X = g := ⟨_, rfl⟩
        obtain ⟨_, t0, t1, t2, t3, t4⟩ := F1.out.keep (bgo B4.out hb5)
        clear hb5 hd hd2 hlt hk
        obtain ⟨tot, htot⟩ : ∃ t, L + (if b < 0 then s.size + 2 else b.toNat - L) = t := ⟨_, rfl⟩
        have hres : repC T (L : Int) b s.size f = frontC T (tot - L) X X := by
          unfold repC
          rw [show ((L : Int).toNat) = L by omega, HX.out, ← htot, Nat.add_sub_cancel_left]
        have htk : L ≤ tot := by omega
        have htb : tot ≤ 1000100 := by
          have := Hb1.out
          rw [← htot]
          split <;> omega
        have htot1 : b < 0 → tot = L + (s.size + 2) := fun h => by rw [← htot, if_pos h]
        have htot2 : ∀ bn : Nat, b = (bn : Int) → tot = bn := fun bn h => by
          have := Hb1.out
          rw [← htot, if_neg (by omega)]
          omega
        have Hres := hide hres
        have Ht1 := hide htot1
        have Ht2 := hide htot2
        clear htot hres htot1 htot2
        go_wp2
        go_loopw [10, 11, 12, 13] (fun ua uq ue y wr => ∃ (n : Nat) (A E : List Bool) (Aa : Option Addr) (ca : Nat) (Ea : Option Addr) (ce : Nat) (q : Bool), y = .int .i64 (n : Int) ∧ L ≤ n ∧ n ≤ tot ∧ ua = .slice Aa (s.size + 1) ca ∧ Sl wr Aa (s.size + 1) ca (boolC A) ∧ A.length = s.size + 1 ∧
          ue = .slice Ea (s.size + 1) ce ∧ Sl wr Ea (s.size + 1) ce (boolC E) ∧ E.length = s.size + 1 ∧ uq = .bool q ∧ (q = false → maskC E = 0) ∧ (q = true → maskC E ≠ 0 ∨ n = L) ∧ frontC T (tot - n) A E = frontC T (tot - L) X X ∧ Left s.size b A E (tot - n) ∧ Below W1.heap.size W1 wr) (fun _ _ _ y _ => tot - (intOf y).toNat)
        case atStart =>
          refine ⟨L, X, X, A', c', A', c', true, rfl, Nat.le_refl _, htk, rfl, SX.out, HXl.out, rfl, SX.out, HXl.out, rfl, fun h => (by cases h), fun _ => Or.inr rfl, rfl, fun hb => ?_, BX.out⟩
          by_cases h0 : maskC X = 0
          · exact Or.inl h0
          · have := cnt_pos h0
            have := Ht1.out hb
            exact Or.inr (by omega)
        case round =>
          obtain ⟨n, A, E, Aa, ca, Ea, ce, q, rfl, hLn, hnt, rfl, hAs, hA, rfl, hEs, hE, rfl, hq0, hq1, hfr, hleft, hbel⟩ := hrel
          obtain ⟨w, hw⟩ : ∃ w, w = wr := ⟨wr, rfl⟩
          subst hw
          have B := hide hbel
          have SA := hide hAs
          obtain ⟨_, y0, y1, y2, y3, y4⟩ := F1.out.keep hbel
          cases q with
          | false =>
            have hmz := hq0 rfl
            have Hres := hide (show repC T (L : Int) b s.size f = A by
              rw [Hres.out, ← hfr, mask_zero hE hmz]
              exact frontC_none HT0.out _ _ hA)
            clear hq0 hq1 hmz
            clear hEs hAs hE hA hfr hleft hbel
            go_wp2
            go_ret
            exact ⟨Aa, _, ca, rfl, by rw [Hres.out]; exact SA.out, bgo BB.out B.out⟩
          | true =>
            have hE1 := hq1 rfl
            clear hq0 hq1
            rcases Hb1.out with rfl | hb1
            · have hK : n < tot := by
                rcases hE1 with h | h
                · have := hleft.pos hA h (by decide)
                  omega
                · have := Ht1.out (by decide)
                  omega
              obtain ⟨x2, g2, o2, p0, pA, pn, pc, p1, p2, pB, pm, pd, hxl2, he2, x0, x1, x2', x3, x4, rx⟩ := KS.out w hbel
              obtain rfl : x' = x2 := by simpa using hxl2
              simp only [Option.some.injEq, Addr.mk.injEq, and_true] at he2
              obtain ⟨rfl, rfl⟩ := he2
              rw [Nat.zero_mul, Nat.add_zero] at x0 x1 x2' x3 x4
              have HC := hide (Hx.out w ok _ Ea _ ce E rx hE hEs)
              have HE0 := hide hE
              have HA0 := hide hA
              have Hfr := hide hfr
              have HLf := hide hleft
              have hTE := HTl.out E hE
              clear hxl2 rx hEs hAs hfr hleft hbel
              go_wp2_with fail
              with_reducible refine HC.out.mono ?_
              rintro e w4 ⟨A4, n4, c4, rfl, hs4, hb4⟩
              obtain rfl : n4 = s.size + 1 := by rw [← hs4.blen, hTE]
              have HF := hide (fresh38 (T E) A A4 Aa (s.size + 1) c4 ca (by omega) w4 hs4 (SA.out.below hb4))
              have S4 := hide hs4
              have B4 := hide (bgo B.out hb4)
              have SA4 := hide (SA.out.below hb4)
              clear hs4 hb4 x0 x1 x2' x3 x4
              go_wp2_with fail
              with_reducible refine HF.out.mono ?_
              rintro e w5 ⟨v5, rfl, ho5, hb5⟩
              obtain ⟨A5, c5, rfl, hs5⟩ := ho5.sl
              rw [boolC_len, freshC_len hTE hA] at hs5
              have e5 : (boolC (freshC (T E) A)).length = s.size + 1 := by rw [boolC_len, freshC_len hTE hA]
              rw [e5]
              have HB := hide (both61 A (T E) Aa A4 (s.size + 1) ca c4 (by omega) w5 (SA4.out.below hb5) (S4.out.below hb5))
              have S5 := hide hs5
              have B5 := hide (bgo B4.out hb5)
              clear ho5 hs5 hb5 e5
              go_wp2_with fail
              with_reducible refine HB.out.mono ?_
              rintro e w6 hgr6
              obtain ⟨A6, n6, c6, rfl, hs6, hb6⟩ := hgr6.rets
              obtain rfl : n6 = s.size + 1 := by rw [← hs6.blen, bothC_len hA hTE]
              have S6 := hide hs6
              have S56 := hide (S5.out.below hb6)
              have B6 := hide (bgo B5.out hb6)
              clear hgr6 hs6 hb6
              go_wp2
              go_roundw
              case rel =>
                refine ⟨n + 1, bothC A (T E), freshC (T E) A, A6, c6, A5, c5, someC (freshC (T E) A), by go_num, by omega, by omega, rfl, S6.out, bothC_len hA hTE, rfl, S56.out, freshC_len hTE hA, rfl, fun h => ?_, fun h => Or.inl ?_, ?_, ?_, B6.out⟩
                · rw [some_mask] at h
                  simpa using h
                · rw [some_mask] at h
                  simpa using h
                · have := Hfr.out
                  rw [show tot - n = (tot - (n + 1)) + 1 by omega] at this
                  exact this
                · have := HLf.out
                  rw [show tot - n = (tot - (n + 1)) + 1 by omega] at this
                  by_cases hE0 : maskC E = 0
                  · intro _
                    refine Or.inl ?_
                    rw [mask_zero hE hE0, HT0.out, fresh_none hA, mask_none]
                  · exact this.next hA hTE hE0
              case measure => simp [intOf]; omega
            · obtain ⟨bn, rfl⟩ : ∃ bn : Nat, b = (bn : Int) := ⟨b.toNat, by omega⟩
              have hbt := Ht2.out bn rfl
              have hdb : decide ((bn : Int) < 0) = false := decide_eq_false (by omega)
              by_cases hnb : n < bn
              · have hd : decide ((n : Int) < (bn : Int)) = true := decide_eq_true (by omega)
                have hd2 : decide (n < bn) = true := decide_eq_true hnb
                obtain ⟨x2, g2, o2, p0, pA, pn, pc, p1, p2, pB, pm, pd, hxl2, he2, x0, x1, x2', x3, x4, rx⟩ := KS.out w hbel
                obtain rfl : x' = x2 := by simpa using hxl2
                simp only [Option.some.injEq, Addr.mk.injEq, and_true] at he2
                obtain ⟨rfl, rfl⟩ := he2
                rw [Nat.zero_mul, Nat.add_zero] at x0 x1 x2' x3 x4
                have HC := hide (Hx.out w ok _ Ea _ ce E rx hE hEs)
                have HE0 := hide hE
                have HA0 := hide hA
                have Hfr := hide hfr
                have HLf := hide hleft
                have hTE := HTl.out E hE
                clear hxl2 rx hEs hAs hfr hleft hbel
                go_wp2_with fail
                with_reducible refine HC.out.mono ?_
                rintro e w4 ⟨A4, n4, c4, rfl, hs4, hb4⟩
                obtain rfl : n4 = s.size + 1 := by rw [← hs4.blen, hTE]
                have HF := hide (fresh38 (T E) A A4 Aa (s.size + 1) c4 ca (by omega) w4 hs4 (SA.out.below hb4))
                have S4 := hide hs4
                have B4 := hide (bgo B.out hb4)
                have SA4 := hide (SA.out.below hb4)
                clear hs4 hb4 x0 x1 x2' x3 x4
                go_wp2_with fail
                with_reducible refine HF.out.mono ?_
                rintro e w5 ⟨v5, rfl, ho5, hb5⟩
                obtain ⟨A5, c5, rfl, hs5⟩ := ho5.sl
                rw [boolC_len, freshC_len hTE hA] at hs5
                have e5 : (boolC (freshC (T E) A)).length = s.size + 1 := by rw [boolC_len, freshC_len hTE hA]
                rw [e5]
                have HB := hide (both61 A (T E) Aa A4 (s.size + 1) ca c4 (by omega) w5 (SA4.out.below hb5) (S4.out.below hb5))
                have S5 := hide hs5
                have B5 := hide (bgo B4.out hb5)
                clear ho5 hs5 hb5 e5
                go_wp2_with fail
                with_reducible refine HB.out.mono ?_
                rintro e w6 hgr6
                obtain ⟨A6, n6, c6, rfl, hs6, hb6⟩ := hgr6.rets
                obtain rfl : n6 = s.size + 1 := by rw [← hs6.blen, bothC_len hA hTE]
                have S6 := hide hs6
                have S56 := hide (S5.out.below hb6)
                have B6 := hide (bgo B5.out hb6)
                clear hgr6 hs6 hb6
                go_wp2
                go_roundw
                case rel =>
                  refine ⟨n + 1, bothC A (T E), freshC (T E) A, A6, c6, A5, c5, someC (freshC (T E) A), by go_num, by omega, by omega, rfl, S6.out, bothC_len hA hTE, rfl, S56.out, freshC_len hTE hA, rfl, fun h => ?_, fun h => Or.inl ?_, ?_, ?_, B6.out⟩
                  · rw [some_mask] at h
                    simpa using h
                  · rw [some_mask] at h
                    simpa using h
                  · have := Hfr.out
                    rw [show tot - n = (tot - (n + 1)) + 1 by omega] at this
                    exact this
                  · have := HLf.out
                    rw [show tot - n = (tot - (n + 1)) + 1 by omega] at this
                    by_cases hE0 : maskC E = 0
                    · intro _
                      refine Or.inl ?_
                      rw [mask_zero hE hE0, HT0.out, fresh_none hA, mask_none]
                    · exact this.next hA hTE hE0
                case measure => simp [intOf]; omega
              · have hd : decide ((n : Int) < (bn : Int)) = false := decide_eq_false (by omega)
                have hd2 : decide (n < bn) = false := decide_eq_false hnb
                have Hres := hide (show repC T (L : Int) (bn : Int) s.size f = A by
                  rw [Hres.out, ← hfr, show tot - n = 0 by omega]
                  rfl)
                clear hEs hAs hE hA hfr hleft hbel
                go_wp2
                go_ret
                exact ⟨Aa, _, ca, rfl, by rw [Hres.out]; exact SA.out, bgo BB.out B.out⟩
      · have HD := hide (same79 (T g) g A4 A' (s.size + 1) c4 c' (by omega) w4 S4.out S34.out false (decide_eq_false hqq))
        clear hqq
        go_wp2_with fail
        with_reducible refine HD.out.mono ?_
        rintro e w5 ⟨rfl, hb5⟩
        have S5 := hide (S4.out.below hb5)
        have B5 := hide (bgo B4.out hb5)
        clear hb5
        go_wp2
        go_roundw
        case rel =>
          refine ⟨k + 1, T g, A4, c4, by omega, by go_num, rfl, S5.out, hTg, ?_, B5.out⟩
          rw [← Htm.out, show L - k = (L - (k + 1)) + 1 by omega]
          rfl
        case measure => simp [intOf]; omega
    · obtain rfl : k = L := by omega
      have hd : decide ((k : Int) < (k : Int)) = false := decide_eq_false (by omega)
      rw [Nat.sub_self] at htm
      have HX := hide (show timesC T k f = g from htm.symm)
      have SX := hide hsg
      have BX := hide hbel
      have HXl := hide hg
      obtain ⟨X, rfl⟩ : ∃ X, X = g := ⟨_, rfl⟩
      clear hsg hg htm hbel hd hlt
      obtain ⟨tot, htot⟩ : ∃ t, k + (if b < 0 then s.size + 2 else b.toNat - k) = t := ⟨_, rfl⟩
      have hres : repC T (k : Int) b s.size f = frontC T (tot - k) X X := by
        unfold repC
        rw [show ((k : Int).toNat) = k by omega, HX.out, ← htot, Nat.add_sub_cancel_left]
      have htk : k ≤ tot := by omega
      have htb : tot ≤ 1000100 := by
        have := Hb1.out
        rw [← htot]
        split <;> omega
      have htot1 : b < 0 → tot = k + (s.size + 2) := fun h => by rw [← htot, if_pos h]
      have htot2 : ∀ bn : Nat, b = (bn : Int) → tot = bn := fun bn h => by
        have := Hb1.out
        rw [← htot, if_neg (by omega)]
        omega
      have Hres := hide hres
      have Ht1 := hide htot1
      have Ht2 := hide htot2
      clear htot hres htot1 htot2
      go_wp2
      go_loopw [10, 11, 12, 13] (fun ua uq ue y wr => ∃ (n : Nat) (A E : List Bool) (Aa : Option Addr) (ca : Nat) (Ea : Option Addr) (ce : Nat) (q : Bool), y = .int .i64 (n : Int) ∧ k ≤ n ∧ n ≤ tot ∧ ua = .slice Aa (s.size + 1) ca ∧ Sl wr Aa (s.size + 1) ca (boolC A) ∧ A.length = s.size + 1 ∧
        ue = .slice Ea (s.size + 1) ce ∧ Sl wr Ea (s.size + 1) ce (boolC E) ∧ E.length = s.size + 1 ∧ uq = .bool q ∧ (q = false → maskC E = 0) ∧ (q = true → maskC E ≠ 0 ∨ n = k) ∧ frontC T (tot - n) A E = frontC T (tot - k) X X ∧ Left s.size b A E (tot - n) ∧ Below W1.heap.size W1 wr) (fun _ _ _ y _ => tot - (intOf y).toNat)
      case atStart =>
        refine ⟨k, X, X, A', c', A', c', true, rfl, Nat.le_refl _, htk, rfl, SX.out, HXl.out, rfl, SX.out, HXl.out, rfl, fun h => (by cases h), fun _ => Or.inr rfl, rfl, fun hb => ?_, BX.out⟩
        by_cases h0 : maskC X = 0
        · exact Or.inl h0
        · have := cnt_pos h0
          have := Ht1.out hb
          exact Or.inr (by omega)
      case round =>
        obtain ⟨n, A, E, Aa, ca, Ea, ce, q, rfl, hLn, hnt, rfl, hAs, hA, rfl, hEs, hE, rfl, hq0, hq1, hfr, hleft, hbel⟩ := hrel
        obtain ⟨w, hw⟩ : ∃ w, w = wr := ⟨wr, rfl⟩
        subst hw
        have B := hide hbel
        have SA := hide hAs
        obtain ⟨_, y0, y1, y2, y3, y4⟩ := F1.out.keep hbel
        cases q with
        | false =>
          have hmz := hq0 rfl
          have Hres := hide (show repC T (k : Int) b s.size f = A by
            rw [Hres.out, ← hfr, mask_zero hE hmz]
            exact frontC_none HT0.out _ _ hA)
          clear hq0 hq1 hmz
          clear hEs hAs hE hA hfr hleft hbel
          go_wp2
          go_ret
          exact ⟨Aa, _, ca, rfl, by rw [Hres.out]; exact SA.out, bgo BB.out B.out⟩
        | true =>
          have hE1 := hq1 rfl
          clear hq0 hq1
          rcases Hb1.out with rfl | hb1
          · have hK : n < tot := by
              rcases hE1 with h | h
              · have := hleft.pos hA h (by decide)
                omega
              · have := Ht1.out (by decide)
                omega
            obtain ⟨x2, g2, o2, p0, pA, pn, pc, p1, p2, pB, pm, pd, hxl2, he2, x0, x1, x2', x3, x4, rx⟩ := KS.out w hbel
            obtain rfl : x' = x2 := by simpa using hxl2
            simp only [Option.some.injEq, Addr.mk.injEq, and_true] at he2
            obtain ⟨rfl, rfl⟩ := he2
            rw [Nat.zero_mul, Nat.add_zero] at x0 x1 x2' x3 x4
            have HC := hide (Hx.out w ok _ Ea _ ce E rx hE hEs)
            have HE0 := hide hE
            have HA0 := hide hA
            have Hfr := hide hfr
            have HLf := hide hleft
            have hTE := HTl.out E hE
            clear hxl2 rx hEs hAs hfr hleft hbel
            go_wp2_with fail
            with_reducible refine HC.out.mono ?_
            rintro e w4 ⟨A4, n4, c4, rfl, hs4, hb4⟩
            obtain rfl : n4 = s.size + 1 := by rw [← hs4.blen, hTE]
            have HF := hide (fresh38 (T E) A A4 Aa (s.size + 1) c4 ca (by omega) w4 hs4 (SA.out.below hb4))
            have S4 := hide hs4
            have B4 := hide (bgo B.out hb4)
            have SA4 := hide (SA.out.below hb4)
            clear hs4 hb4 x0 x1 x2' x3 x4
            go_wp2_with fail
            with_reducible refine HF.out.mono ?_
            rintro e w5 ⟨v5, rfl, ho5, hb5⟩
            obtain ⟨A5, c5, rfl, hs5⟩ := ho5.sl
            rw [boolC_len, freshC_len hTE hA] at hs5
            have e5 : (boolC (freshC (T E) A)).length = s.size + 1 := by rw [boolC_len, freshC_len hTE hA]
            rw [e5]
            have HB := hide (both61 A (T E) Aa A4 (s.size + 1) ca c4 (by omega) w5 (SA4.out.below hb5) (S4.out.below hb5))
            have S5 := hide hs5
            have B5 := hide (bgo B4.out hb5)
            clear ho5 hs5 hb5 e5
            go_wp2_with fail
            with_reducible refine HB.out.mono ?_
            rintro e w6 hgr6
            obtain ⟨A6, n6, c6, rfl, hs6, hb6⟩ := hgr6.rets
            obtain rfl : n6 = s.size + 1 := by rw [← hs6.blen, bothC_len hA hTE]
            have S6 := hide hs6
            have S56 := hide (S5.out.below hb6)
            have B6 := hide (bgo B5.out hb6)
            clear hgr6 hs6 hb6
            go_wp2
            go_roundw
            case rel =>
              refine ⟨n + 1, bothC A (T E), freshC (T E) A, A6, c6, A5, c5, someC (freshC (T E) A), by go_num, by omega, by omega, rfl, S6.out, bothC_len hA hTE, rfl, S56.out, freshC_len hTE hA, rfl, fun h => ?_, fun h => Or.inl ?_, ?_, ?_, B6.out⟩
              · rw [some_mask] at h
                simpa using h
              · rw [some_mask] at h
                simpa using h
              · have := Hfr.out
                rw [show tot - n = (tot - (n + 1)) + 1 by omega] at this
                exact this
              · have := HLf.out
                rw [show tot - n = (tot - (n + 1)) + 1 by omega] at this
                by_cases hE0 : maskC E = 0
                · intro _
                  refine Or.inl ?_
                  rw [mask_zero hE hE0, HT0.out, fresh_none hA, mask_none]
                · exact this.next hA hTE hE0
            case measure => simp [intOf]; omega
          · obtain ⟨bn, rfl⟩ : ∃ bn : Nat, b = (bn : Int) := ⟨b.toNat, by omega⟩
            have hbt := Ht2.out bn rfl
            have hdb : decide ((bn : Int) < 0) = false := decide_eq_false (by omega)
            by_cases hnb : n < bn
            · have hd : decide ((n : Int) < (bn : Int)) = true := decide_eq_true (by omega)
              have hd2 : decide (n < bn) = true := decide_eq_true hnb
              obtain ⟨x2, g2, o2, p0, pA, pn, pc, p1, p2, pB, pm, pd, hxl2, he2, x0, x1, x2', x3, x4, rx⟩ := KS.out w hbel
              obtain rfl : x' = x2 := by simpa using hxl2
              simp only [Option.some.injEq, Addr.mk.injEq, and_true] at he2
              obtain ⟨rfl, rfl⟩ := he2
              rw [Nat.zero_mul, Nat.add_zero] at x0 x1 x2' x3 x4
              have HC := hide (Hx.out w ok _ Ea _ ce E rx hE hEs)
              have HE0 := hide hE
              have HA0 := hide hA
              have Hfr := hide hfr
              have HLf := hide hleft
              have hTE := HTl.out E hE
              clear hxl2 rx hEs hAs hfr hleft hbel
              go_wp2_with fail
              with_reducible refine HC.out.mono ?_
              rintro e w4 ⟨A4, n4, c4, rfl, hs4, hb4⟩
              obtain rfl : n4 = s.size + 1 := by rw [← hs4.blen, hTE]
              have HF := hide (fresh38 (T E) A A4 Aa (s.size + 1) c4 ca (by omega) w4 hs4 (SA.out.below hb4))
              have S4 := hide hs4
              have B4 := hide (bgo B.out hb4)
              have SA4 := hide (SA.out.below hb4)
              clear hs4 hb4 x0 x1 x2' x3 x4
              go_wp2_with fail
              with_reducible refine HF.out.mono ?_
              rintro e w5 ⟨v5, rfl, ho5, hb5⟩
              obtain ⟨A5, c5, rfl, hs5⟩ := ho5.sl
              rw [boolC_len, freshC_len hTE hA] at hs5
              have e5 : (boolC (freshC (T E) A)).length = s.size + 1 := by rw [boolC_len, freshC_len hTE hA]
              rw [e5]
              have HB := hide (both61 A (T E) Aa A4 (s.size + 1) ca c4 (by omega) w5 (SA4.out.below hb5) (S4.out.below hb5))
              have S5 := hide hs5
              have B5 := hide (bgo B4.out hb5)
              clear ho5 hs5 hb5 e5
              go_wp2_with fail
              with_reducible refine HB.out.mono ?_
              rintro e w6 hgr6
              obtain ⟨A6, n6, c6, rfl, hs6, hb6⟩ := hgr6.rets
              obtain rfl : n6 = s.size + 1 := by rw [← hs6.blen, bothC_len hA hTE]
              have S6 := hide hs6
              have S56 := hide (S5.out.below hb6)
              have B6 := hide (bgo B5.out hb6)
              clear hgr6 hs6 hb6
              go_wp2
              go_roundw
              case rel =>
                refine ⟨n + 1, bothC A (T E), freshC (T E) A, A6, c6, A5, c5, someC (freshC (T E) A), by go_num, by omega, by omega, rfl, S6.out, bothC_len hA hTE, rfl, S56.out, freshC_len hTE hA, rfl, fun h => ?_, fun h => Or.inl ?_, ?_, ?_, B6.out⟩
                · rw [some_mask] at h
                  simpa using h
                · rw [some_mask] at h
                  simpa using h
                · have := Hfr.out
                  rw [show tot - n = (tot - (n + 1)) + 1 by omega] at this
                  exact this
                · have := HLf.out
                  rw [show tot - n = (tot - (n + 1)) + 1 by omega] at this
                  by_cases hE0 : maskC E = 0
                  · intro _
                    refine Or.inl ?_
                    rw [mask_zero hE hE0, HT0.out, fresh_none hA, mask_none]
                  · exact this.next hA hTE hE0
              case measure => simp [intOf]; omega
            · have hd : decide ((n : Int) < (bn : Int)) = false := decide_eq_false (by omega)
              have hd2 : decide (n < bn) = false := decide_eq_false hnb
              have Hres := hide (show repC T (k : Int) (bn : Int) s.size f = A by
                rw [Hres.out, ← hfr, show tot - n = 0 by omega]
                rfl)
              clear hEs hAs hE hA hfr hleft hbel
              go_wp2
              go_ret
              exact ⟨Aa, _, ca, rfl, by rw [Hres.out]; exact SA.out, bgo BB.out B.out⟩
end Go.Proofs.YtkghbhcjgogaeaaDoor
