/- Walk of slices.Chunk and of the function that it returns. -/
import Derived.Test.YtfljmnjcoagbmaaS2
import Derived.RangeFuncNested
import Derived.RangeFuncBound
import Derived.RangeFuncCalls
import Derived.RangeFuncLeaves
import Derived.RangeFuncBox
import Derived.Shelf.Abstract
import Derived.Shelf.RegionOpen
import Derived.WalkKit
import Derived.OwnWalkIn
import Derived.TacticsInMore
import Derived.LoopNIn
import Derived.LoopIn
import Derived.RegionIn
namespace Go.Proofs.Ytfljmnjcoagbmaa
open Go.RowKit Go.Shelf

set_option maxRecDepth 100000 in
set_option maxHeartbeats 2000000 in
theorem chunk40 (A : Option Addr) (n c : Nat) (w : World) :
    Calls Try.prog 40 #[.slice A n c, .int .i64 16] w fun e w' => e = .returned (.func (.func 58) #[] #[.pointer (some ⟨w.heap.size, 0, none⟩), .pointer (some ⟨w.heap.size + 1, 0, none⟩)]) ∧
      w' = (w.alloc (.cells #[.slice A n c] 22)).alloc (.cells #[.int .i64 16] 3) := by
  go_enter Try.func40, Try.ntmps40
  go_wp2
  go_ret
  exact ⟨rfl, rfl⟩

/-- How many elements the block has. -/
def clen (n i : Nat) : Nat := min 16 (n - i)
/-- The block at i of the slice at ⟨g, o⟩, as it is handed over. -/
def encC (g o n : Nat) (x : Fin ((n + 15) / 16)) : Array Value := #[.slice (some ⟨g, o + 16 * x.1, none⟩) (clen n (16 * x.1)) (clen n (16 * x.1))]

/-- The two boxes of the function that Chunk returns are as they were. -/
def KpB (Bs Bn : Nat) (W W' : World) : Prop := W'.heap[Bs]? = W.heap[Bs]? ∧ W'.heap[Bn]? = W.heap[Bn]?
theorem KpB.refl {Bs Bn : Nat} (W : World) : KpB Bs Bn W W := ⟨rfl, rfl⟩
theorem KpB.trans {Bs Bn : Nat} {A B C : World} (h : KpB Bs Bn A B) (k : KpB Bs Bn B C) : KpB Bs Bn A C := ⟨k.1.trans h.1, k.2.trans h.2⟩
theorem grown_drawn (w : World) (q : Nat) : w.grownBy (w.drewN q) none := ⟨rfl, rfl, rfl, Nat.le_refl _, fun _ _ _ => rfl⟩

theorem enc_at (g o n k i : Nat) (hi : i = 16 * k) (hk : k < (n + 15) / 16) : encC g o n ⟨k, hk⟩ = #[.slice (some ⟨g, o + i, none⟩) (((i : Int) + min 16 ((n - i : Nat) : Int)).toNat - i) (((i : Int) + min 16 ((n - i : Nat) : Int)).toNat - i)] := by
  subst hi
  unfold encC clen
  have : (((16 * k : Nat) : Int) + min 16 ((n - 16 * k : Nat) : Int)).toNat - 16 * k = min 16 (n - 16 * k) := by omega
  rw [this]
theorem fin_take {nb : Nat} (k : Nat) (hk : k < nb) : (List.finRange nb).take (k + 1) = (List.finRange nb).take k ++ [⟨k, hk⟩] := by
  rw [List.take_succ_eq_append_getElem (by simpa using hk)]
  simp

attribute [local go_sem] Oper.semAt_some

set_option maxRecDepth 100000 in
set_option maxHeartbeats 4000000 in
theorem chunk58 (m : Nat) (hm : 1 ≤ m) (l Bs Bn g o n c : Nat) (hnc : n ≤ c) (hn : n ≤ 1000000) (J Jx : List (Fin ((n + 15) / 16)) → World → Prop)
    (hY : ∀ pre x W, J pre W → pre.length < (n + 15) / 16 → YieldAt Fence.wide (m - 1) Try.prog l (encC g o n x) W fun e W' =>
      (e = .returned (.bool true) ∧ J (pre ++ [x]) W' ∧ KpB Bs Bn W W') ∨ (e = .returned (.bool false) ∧ Jx (pre ++ [x]) W'))
    (W : World) (hAb : AbidesFrom W.heap.size J) (hBs : W.cell? ⟨Bs, 0, none⟩ = some (.slice (some ⟨g, o, none⟩) n c)) (hBn : W.cell? ⟨Bn, 0, none⟩ = some (.int .i64 16)) (h0 : J [] W) :
    CallsIn Fence.wide m Try.prog 58 #[.func (.yield l) #[] #[], .pointer (some ⟨Bs, 0, none⟩), .pointer (some ⟨Bn, 0, none⟩)] W fun e W' => (∃ v, e = .returned v) ∧
      ((∃ ys, ys = List.finRange ((n + 15) / 16) ∧ J ys W') ∨ (∃ pre, pre <+: List.finRange ((n + 15) / 16) ∧ Jx pre W')) := by
  refine callsIn_of_wp Try.func58 rfl trivial ?_ rfl
  simp only [Try.ntmps58, List.size_toArray, List.length_cons, List.length_nil, Nat.reduceAdd, Nat.reduceSub, Array.replicate_succ, Array.replicate_zero, List.push_toArray, List.append_toArray, List.nil_append, List.cons_append]
  gi_wp2
  gi_loopw [4] (fun x wr => ∃ k i : Nat, i = 16 * k ∧ k ≤ (n + 15) / 16 ∧ x = .int .i64 (i : Int) ∧ J ((List.finRange ((n + 15) / 16)).take k) wr ∧ KpB Bs Bn W wr) (fun x _ => n + 32 - (intOf x).toNat)
  case atStart => exact ⟨0, 0, rfl, Nat.zero_le _, rfl, by simpa using h0, KpB.refl _⟩
  case round =>
    obtain ⟨k, i, hi, hk, rfl, hJ, hb⟩ := hrel
    obtain ⟨w1, hw1⟩ : ∃ w1, w1 = wr := ⟨wr, rfl⟩
    subst hw1
    have cs := (World.cell?_of_block (a := ⟨Bs, 0, none⟩) hb.1).trans hBs
    have cn := (World.cell?_of_block (a := ⟨Bn, 0, none⟩) hb.2).trans hBn
    have Hi := hide hi
    have Hb := hide hb
    by_cases hlt : i < n
    · have hkb : k < (n + 15) / 16 := by omega
      clear hi hb
      have hJq : ∀ q, J ((List.finRange ((n + 15) / 16)).take k) (w1.drewN q) := fun q => hAb _ _ _ none hJ (grown_drawn w1 q) (fun r h => by cases h)
      have hYY := fun q => hY ((List.finRange ((n + 15) / 16)).take k) ⟨k, hkb⟩ (w1.drewN q) (hJq q) (by simp; omega)
      have HY := hide hYY
      clear hYY hJq hJ
      have He := hide (enc_at g o n k i Hi.out hkb)
      gi_wp2
      refine wpIn_wide.2 ?_
      go_quiet (fail)
      obtain ⟨fn, tmps, assign, body, hy, hR⟩ := HY.out nq
      rw [He.out] at hy
      gi_wp2
      refine hR.mono ?_
      rintro e W3 (⟨rfl, hJ3, hk3⟩ | ⟨rfl, hJx3⟩)
      · have B3 := hide ((Hb.out.trans (show KpB Bs Bn w1 (w1.drewN nq) from ⟨rfl, rfl⟩)).trans hk3)
        have cn3 : W3.cell? ⟨Bn, 0, none⟩ = some (.int .i64 16) := (World.cell?_of_block (a := ⟨Bn, 0, none⟩) hk3.2).trans cn
        have J3 := hide hJ3
        clear hk3 hJ3 HY hR hy
        gi_wp2
        go_roundw
        case rel => exact ⟨k + 1, i + 16, by have := Hi.out; omega, by omega, by go_num, by rw [fin_take k hkb]; exact J3.out, B3.out⟩
        case measure => simp [intOf]; omega
      · gi_wp2
        refine bodyPost_ret (results_none rfl _ _ _) rfl ?_
        exact ⟨⟨_, rfl⟩, .inr ⟨_, ⟨(List.finRange ((n + 15) / 16)).drop (k + 1), by rw [← fin_take k hkb, List.take_append_drop]⟩, hJx3⟩⟩
    · obtain rfl : k = (n + 15) / 16 := by omega
      rw [List.take_of_length_le (by simp)] at hJ
      have HJ := hide hJ
      clear hJ hi hb
      gi_wp2
      go_end0
      exact ⟨⟨_, rfl⟩, .inl ⟨_, rfl, HJ.out⟩⟩

set_option maxRecDepth 100000 in
set_option maxHeartbeats 1000000 in
/-- .. of a slice without elements: no round. -/
theorem chunk58_none (m l Bs Bn : Nat) (A : Option Addr) (c : Nat) (α : Type) (J : List α → World → Prop) (W : World) (hBs : W.cell? ⟨Bs, 0, none⟩ = some (.slice A 0 c)) (h0 : J [] W) :
    CallsIn Fence.wide m Try.prog 58 #[.func (.yield l) #[] #[], .pointer (some ⟨Bs, 0, none⟩), .pointer (some ⟨Bn, 0, none⟩)] W fun e W' => (∃ v, e = .returned v) ∧ J [] W' := by
  refine callsIn_of_wp Try.func58 rfl trivial ?_ rfl
  simp only [Try.ntmps58, List.size_toArray, List.length_cons, List.length_nil, Nat.reduceAdd, Nat.reduceSub, Array.replicate_succ, Array.replicate_zero, List.push_toArray, List.append_toArray, List.nil_append, List.cons_append]
  gi_wp2
  gi_loopw [4] (fun x wr => x = .int .i64 0 ∧ J [] wr ∧ wr.cell? ⟨Bs, 0, none⟩ = some (.slice A 0 c)) (fun _ _ => 0)
  case atStart => exact ⟨rfl, h0, hBs⟩
  case round =>
    obtain ⟨rfl, hJs, hcs⟩ := hrel
    gi_wp2
    go_end0
    exact ⟨⟨_, rfl⟩, hJs⟩

/-- What Chunk returns hands over the blocks, in their order. -/
theorem chunk_stops (m : Nat) (hm : 1 ≤ m) (Bs Bn g o : Nat) (A : Option Addr) (n c : Nat) (hnc : n ≤ c) (hn : n ≤ 1000000) (hA : n = 0 ∨ A = some ⟨g, o, none⟩) (w : World) (h1 : Bs < w.heap.size) (h2 : Bn < w.heap.size)
    (hBs : w.cell? ⟨Bs, 0, none⟩ = some (.slice A n c)) (hBn : w.cell? ⟨Bn, 0, none⟩ = some (.int .i64 16)) :
    SeqStopsK Fence.wide m Try.prog 58 #[.pointer (some ⟨Bs, 0, none⟩), .pointer (some ⟨Bn, 0, none⟩)] (encC g o n) (KpB Bs Bn) (fun ys => ys = List.finRange ((n + 15) / 16)) (fun pre => pre <+: List.finRange ((n + 15) / 16)) ((n + 15) / 16) w :=
  fun l J Jx W hW hAb _ hY h0 => by
    have cs := (hW.cell (p := ⟨Bs, 0, none⟩) h1).trans hBs
    have cn := (hW.cell (p := ⟨Bn, 0, none⟩) h2).trans hBn
    by_cases h : n = 0
    · subst h
      exact (chunk58_none m l Bs Bn A c _ J W cs h0).mono fun e W' ⟨he, hj⟩ => ⟨he, .inl ⟨_, rfl, hj⟩⟩
    · obtain rfl := hA.resolve_left h
      exact chunk58 m hm l Bs Bn g o n c hnc hn J Jx hY W hAb cs cn h0

end Go.Proofs.Ytfljmnjcoagbmaa
