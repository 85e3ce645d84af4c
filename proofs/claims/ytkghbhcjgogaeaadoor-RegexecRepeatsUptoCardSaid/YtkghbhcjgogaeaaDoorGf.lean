/- Layer 9: D4, D5. -/
import Derived.Test.YtkghbhcjgogaeaaDoorGd
import Derived.Test.YtkghbhcjgogaeaaDoorShelf
import Derived.Laws.IdiomStrings
import Derived.Lib.OwnBridge
import Derived.Deep.RegionHeld3
/-! ### D4 -/
namespace Go.Proofs.YtkghbhcjgogaeaaDoor
open Go.RowKit Go.Lib Go.Sort
open Go.ChangeShapes (block_add)

def encB (b : UInt8) : Value := .int .u8 (b.toNat : Int)
set_option maxHeartbeats 1600000 in
set_option maxRecDepth 1000000 in
theorem reverse82 (blk off cap : Nat) (d : Array UInt8) (w : World) (hH : Holds encB w blk off d) (hsz : d.size ≤ 9223372036854775807) :
    Calls Tryd.prog 82 #[.slice (some ⟨blk, off, none⟩) d.size cap] w fun e w' => e = .returned (.tuple #[]) ∧ ∃ n, w' = putRow encB (Sort.ahead w n) blk off d.reverse := by
  go_enter Tryd.func82, Tryd.ntmps82
  go_wp2
  go_loopg [2, 3] d.size (fun k s2 s3 wr => ∃ (i jn : Nat) (jz : Int) (dk : Array UInt8) (n : Nat), s2 = .int .i64 i ∧ s3 = .int .i64 jz ∧ ((i : Int) < jz → jz = jn ∧ jn < d.size) ∧ (¬ (i : Int) < jz → ¬ i < jn) ∧ jn - i ≤ k ∧
    dk.size = d.size ∧ wr = putRow encB (Sort.ahead w n) blk off dk ∧ reverseLoop i jn dk = reverseLoop 0 (d.size - 1) d)
  case atStart => exact ⟨0, d.size - 1, (d.size : Int) - 1, d, 0, rfl, rfl, fun h => ⟨by omega, by omega⟩, fun h => by omega, by omega, rfl, (putRow_self encB w blk off d hH).symm, rfl⟩
  case round =>
    obtain ⟨i, jn, jz, dk, n, rfl, rfl, h1, h2, hk, hds, hwr, heq⟩ := hrel
    by_cases hlt : (i : Int) < jz
    · obtain ⟨rfl, hjn⟩ := h1 hlt
      have hij : i < jn := by omega
      have hix : i < d.size := by omega
      have hHk : Holds encB wr blk off dk := by rw [hwr]; exact holds_putRow encB _ blk off d dk (holds_ahead encB w n blk off d hH) hds
      obtain ⟨ci, fi⟩ := hHk i (by omega)
      obtain ⟨cj, fj⟩ := hHk jn (by omega)
      unfold encB at ci cj
      have A : Aside (wr = putRow encB (Sort.ahead w n) blk off dk) := hwr
      clear hwr hHk hH h1 h2
      go_wp2_with fail
      go_region
      go_wp2
      go_roundg (jn - 1 - (i + 1))
      case measure => omega
      case rel =>
        rw [reverseLoop, if_pos hij] at heq
        exact ⟨i + 1, jn - 1, (jn : Int) - 1, swp dk i jn, n + 1, by simp, rfl, fun h => ⟨by omega, by omega⟩, fun h => by omega, Nat.le_refl _, by rw [size_swp]; exact hds,
          swap_world encB (by omega) (by omega) A.out (by first | rfl | simp [encB, getElem!_pos, show jn < dk.size by omega]) (by first | rfl | simp [encB, getElem!_pos, show i < dk.size by omega]), heq⟩
    · have hnot := h2 hlt
      go_wp2
      go_end0
      refine ⟨rfl, n, ?_⟩
      rw [reverseLoop, if_neg hnot] at heq
      rw [← Lib.reverseLoop_reverse, ← heq]
/-- The string backwards. -/
def revS (s : ByteArray) : ByteArray := ⟨s.data.reverse⟩
theorem revS_list (s : ByteArray) : (revS s).data.toList = s.data.toList.reverse := by simp [revS]
theorem revS_size (s : ByteArray) : (revS s).size = s.size := by show s.data.reverse.size = s.data.size; simp
set_option maxHeartbeats 1600000 in
set_option maxRecDepth 100000 in
theorem reversed66 (s : ByteArray) (hs : s.size ≤ 100000) (w : World) : Calls Tryd.prog 66 #[.string s] w fun e w' => e = .returned (.string (revS s)) ∧ Below w.heap.size w w' := by
  have hconv := run_bytes_of_string w 9 104 5 s Tryd.underlying9 Tryd.underlying104 Tryd.underlying5
  have hC : ∀ j (hj : j < s.size), (bytesRow s (grownCap w s.size 0 5))[j]? = some (.int .u8 (s[j].toNat : Int)) := by
    intro j hj
    unfold bytesRow
    rw [Array.getElem?_append_left (by simpa using hj), Array.getElem?_map, Array.getElem?_eq_getElem (by simpa using hj)]
    rfl
  have hsz : s.size ≤ (bytesRow s (grownCap w s.size 0 5)).size := by
    unfold bytesRow
    simp
  generalize bytesRow s (grownCap w s.size 0 5) = C at hconv hC hsz
  generalize grownCap w s.size 0 5 = cap at hconv
  obtain ⟨w1, hw1⟩ : ∃ w1, w.drew.alloc (.cells C 5 (C.size, C.size + 1)) = w1 := ⟨_, rfl⟩
  rw [hw1] at hconv
  have hb1 : Below w.heap.size w w1 := by rw [← hw1]; exact (show Below w.heap.size w w.drew from ⟨rfl, rfl, rfl, Nat.le_refl _, fun _ _ => rfl⟩).alloc (Nat.le_refl _) _
  have hH : Holds encB w1 w.heap.size 0 s.data := fun j hj => by
    have hj' : j < s.size := hj
    rw [Nat.zero_add]
    constructor
    · rw [← hw1]
      show (w.drew.alloc _).cell? ⟨w.drew.heap.size, j, none⟩ = _
      rw [World.cell?_alloc_mark, hC j hj', getElem!_pos s.data j hj]
      rfl
    · rw [← hw1]
      show (w.drew.alloc _).frozen? ⟨w.drew.heap.size, j, none⟩ = _
      rw [World.frozen?_alloc_mark]; simp; omega
  have HR := hide (show Calls Tryd.prog 82 #[.slice (some ⟨w.heap.size, 0, none⟩) s.size cap] w1 _ from reverse82 w.heap.size 0 cap s.data w1 hH (by show s.size ≤ _; omega))
  have B1 := hide hb1
  have HH := hide hH
  clear hC hw1 hH hb1 hsz
  go_enter Tryd.func66, Tryd.ntmps66
  go_wp2_with fail
  with_reducible refine HR.out.mono ?_
  rintro e w2 ⟨rfl, n, rfl⟩
  have hHr := holds_putRow encB (Sort.ahead w1 n) w.heap.size 0 s.data s.data.reverse (holds_ahead encB w1 n w.heap.size 0 s.data HH.out) (by simp)
  have hback := run_convert_bytes_back (putRow encB (Sort.ahead w1 n) w.heap.size 0 s.data.reverse) 104 9 5 ⟨w.heap.size, 0, none⟩ cap s.data.toList.reverse Tryd.underlying104 Tryd.underlying5 Tryd.underlying9 (fun j hj => by
    have h := (hHr j (by simpa using hj)).1
    rw [Nat.zero_add] at h
    rw [addr0, h, getElem!_pos s.data.reverse j (by simpa using hj)]
    simp [encB])
  rw [show s.data.toList.reverse.length = s.size by simp] at hback
  have B2 := hide (Lib.below_putRow (enc := encB) (q := n) (d := s.data.reverse) B1.out (Nat.le_refl _))
  generalize putRow encB (Sort.ahead w1 n) w.heap.size 0 s.data.reverse = w2 at hback B2 ⊢
  clear hHr
  go_wp2
  go_ret
  refine ⟨congrArg (fun x => Ending.returned (Value.string x)) ?_, B2.out⟩
  show (⟨s.data.toList.reverse.toArray⟩ : ByteArray) = ⟨s.data.reverse⟩
  exact congrArg ByteArray.mk (show s.data.toList.reverse.toArray = s.data.reverse from Array.ext' (by rw [Array.toList_reverse]))
end Go.Proofs.YtkghbhcjgogaeaaDoor
/-! ### D5 -/
namespace Go.Proofs.YtkghbhcjgogaeaaDoor
open Go.RowKit
open Go.ChangeShapes (block_add)
attribute [local go_sem] Oper.semAt_some

theorem putRow_turns {α : Type} [Inhabited α] {enc : α → Value} {w : World} {g q : Nat} {d : Array α} : Turns (fun k => k = g) w (Go.Sort.putRow enc (Go.Sort.ahead w q) g 0 d) :=
  ⟨rfl, rfl, rfl, by simp [Go.Sort.ahead], fun k _ hn => by simp [Go.Sort.putRow, Go.Sort.mapBlock, Go.Sort.ahead, Array.getElem?_modify, show g ≠ k from fun e => hn e.symm]⟩
theorem reverse67 (w : World) (B : Nat) (v : Value) (l : List Int) (ho : Own w B 3 v (numCells l)) (hl : l.length ≤ 1000000) :
    Calls Tryd.prog 67 #[v] w fun e w' => e = .returned (.tuple #[]) ∧ Own w' B 3 v (numCells l.reverse) ∧ Turns (fun q => v.ownBlock = some q) w w' := by
  by_cases hv : v = .slice none 0 0
  · subst hv
    have h0 : l = [] := by
      obtain ⟨A, m, c, e, hm, _⟩ := ho.slI
      simp only [Value.slice.injEq] at e
      exact List.eq_nil_of_length_eq_zero (by omega)
    subst h0
    exact (Tryd.slices_Reverse_int_empty none 0 w).mono fun e w' ⟨h1, h2⟩ => ⟨h1, by rw [h2]; exact ho, by rw [h2]; exact Turns.refl _ _⟩
  · have ho' : w.ownsRow B 3 1 v l.length (l.map (Value.int .i64)) := by
      have := ho
      unfold Own at this
      rwa [num_len] at this
    obtain ⟨g, cap, rfl, hB, hg, -, -, -, hH⟩ := Go.Lib.holds_of_ownsRow ho' hv
    refine (Tryd.slices_Reverse_int g 0 cap l w hH (by omega)).mono fun e w' ⟨h1, q, h2⟩ => ⟨h1, ?_, ?_⟩
    · rw [h2]
      have := Go.Lib.ownsRow_putRow (q := q) (k := l.length) (ys := l.reverse) ho' (by simp) (Nat.le_refl _)
      rw [List.take_of_length_le (by simp)] at this
      unfold Own
      rw [num_len, List.length_reverse]
      exact this
    · rw [h2]
      exact (Turns.refl _ w).trans putRow_turns (fun _ _ x => x) (fun i _ x => by rw [x]; rfl)
/-- What a walk says of the mirrored expression. -/
def Mirrors (r : Rx) : Prop := ∀ (W : World) (ok : Nat → Prop) (v : Value), RxV W ok v r → Calls Tryd.prog 65 #[v] W fun e w' => ∃ v', e = .returned v' ∧ RxV w' (fun _ => True) v' (mirR r) ∧ Below W.heap.size W w'
set_option maxRecDepth 100000 in
set_option maxHeartbeats 4000000 in
theorem begin34 (s : ByteArray) (hs : s.size ≤ 60) (r : Rx) (hr : Mirrors r) (hm : MakesStep (revS s) (mirR r)) (W : World) (ok : Nat → Prop) (v : Value) (hv : RxV W ok v r) (hT : HasT W) :
    Calls Tryd.prog 34 #[v, .string s] W (GrewI W (natI ((offsC (stepC (mirR r) s.data.toList.reverse (allC s.data.toList.length))).map (fun x => s.size - x)).reverse)) := by
  have hlen := strlen s
  have hv0 := hv
  cases hv with
  | mk k a b A B n c m0 d set vs l hset hvs hl hk ha hb hr =>
  obtain ⟨r, hr'⟩ : ∃ r, Rx.mk k set a b l = r := ⟨_, rfl⟩
  rw [hr'] at hv0 hr hm ⊢
  have hB := bnew (bnew (Below.refl _ W) (.cells #[.int .i64 k, .slice A n c, .int .i64 a, .int .i64 b, .slice B m0 d] 25)) (.cells #[.string s] 9)
  obtain ⟨W1, hW1⟩ : ∃ W1, (W.alloc (.cells #[.int .i64 k, .slice A n c, .int .i64 a, .int .i64 b, .slice B m0 d] 25)).alloc (.cells #[.string s] 9) = W1 := ⟨_, rfl⟩
  have f1 : Five W1 W.heap.size (.int .i64 k) (.slice A n c) (.int .i64 a) (.int .i64 b) (.slice B m0 d) := by
    rw [← hW1]
    exact (five_new W _ _ _ _ _ 25).keep (bnew (Below.refl _ _) _)
  have q1 : W1.heap[W.heap.size + 1]? = some (.cells #[.string s] 9 (0, 0)) := by
    rw [← hW1]
    have := heap_alloc_new (W.alloc (.cells #[.int .i64 k, .slice A n c, .int .i64 a, .int .i64 b, .slice B m0 d] 25)) (.cells #[.string s] 9)
    rw [World.size_alloc] at this
    exact this
  rw [hW1] at hB
  have V1 := hide (hv0.kept hB)
  have B1 := hide hB
  have HT1 := hide (hT.below hB)
  have HM := hide (fun w (hb : Below W1.heap.size W1 w) => hr w ok _ ((hv0.kept hB).kept hb))
  have HR := hide (fun w => reversed66 s (by omega) w)
  have Hm := hide (show ∀ (W : World) (ok : Nat → Prop) (v : Value), RxV W ok v (mirR r) → HasT W → Calls Tryd.prog 29 #[v, .string (revS s)] W fun e w' => ∃ sv, e = .returned sv ∧ StepP (revS s).data.toList.length w' (Rng W.heap.size w'.heap.size) sv (fun f => stepC (mirR r) (revS s).data.toList f) ∧ Below W.heap.size W w' from hm)
  have HW1 := hide hW1
  have F1 := hide f1
  have Q1 := hide q1
  clear hset hvs hl hk ha hb hB hv0 hT hr hm hr' hW1 f1 q1
  refine (callsIn_wide (n := 8)).1 ?_
  refine callsIn_of_wp_marks Tryd.func34 rfl trivial ?_ rfl
  simp only [Tryd.ntmps34, List.size_toArray, List.length_cons, List.length_nil, Nat.reduceAdd, Nat.reduceSub, Array.replicate_succ, Array.replicate_zero, List.push_toArray, List.append_toArray, List.nil_append, List.cons_append]
  refine wpIn_wide.2 ?_
  go_upto_region 1 with fail
  rw [HW1.out]
  obtain ⟨_, t0, t1, t2, t3, t4⟩ := F1.out
  have cs := cell_of_one Q1.out
  have KP := hide (fun (p : Addr) (v : Value) (w' : World) (hb : Below W1.drew.heap.size W1.drew w') (h : W1.cell? p = some v) => show w'.cell? p = some v from (hb.cell (p := p) (World.block_lt_of_cell? _ _ h)).trans h)
  have HD := hide (bel_drew W1)
  have hB1 := HD.out
  go_region_held3 (fun w' => (w'.cell? ⟨W.heap.size, 0, none⟩ = some (.int .i64 k) ∧ w'.cell? ⟨W.heap.size, 1, none⟩ = some (.slice A n c) ∧ w'.cell? ⟨W.heap.size, 2, none⟩ = some (.int .i64 a) ∧ w'.cell? ⟨W.heap.size, 3, none⟩ = some (.int .i64 b) ∧ w'.cell? ⟨W.heap.size, 4, none⟩ = some (.slice B m0 d)) ∧ w'.cell? ⟨W.heap.size + 1, 0, none⟩ = some (.string s))
    (first | exact ⟨⟨t0, t1, t2, t3, t4⟩, cs⟩ | exact ⟨⟨KP.out _ _ _ hb5 t0, KP.out _ _ _ hb5 t1, KP.out _ _ _ hb5 t2, KP.out _ _ _ hb5 t3, KP.out _ _ _ hb5 t4⟩, KP.out _ _ _ hb5 cs⟩ | exact ⟨⟨KP.out _ _ _ (bgo hb5 hb6) t0, KP.out _ _ _ (bgo hb5 hb6) t1, KP.out _ _ _ (bgo hb5 hb6) t2, KP.out _ _ _ (bgo hb5 hb6) t3, KP.out _ _ _ (bgo hb5 hb6) t4⟩, KP.out _ _ _ (bgo hb5 hb6) cs⟩ | exact ⟨⟨KP.out _ _ _ (bgo (bgo hb5 hb6) hb7) t0, KP.out _ _ _ (bgo (bgo hb5 hb6) hb7) t1, KP.out _ _ _ (bgo (bgo hb5 hb6) hb7) t2, KP.out _ _ _ (bgo (bgo hb5 hb6) hb7) t3, KP.out _ _ _ (bgo (bgo hb5 hb6) hb7) t4⟩, KP.out _ _ _ (bgo (bgo hb5 hb6) hb7) cs⟩)
    (first
      | (go_at_call 65; (with_reducible refine (HM.out _ HD.out).mono ?_); rintro e w5 ⟨v5, rfl, hv5, hb5⟩)
      | (go_at_call 66; (with_reducible refine (HR.out _).mono ?_); rintro e w6 ⟨rfl, hb6⟩)
      | (go_at_call 29; (with_reducible refine (Hm.out _ _ _ (hv5.kept hb6) (HT1.out.below (bgo (bgo HD.out hb5) hb6))).mono ?_); rintro e w7 ⟨sv, rfl, hsv, hb7⟩))
  have hsok := hsv.ok (Kept.of (Below.refl _ w7))
  obtain ⟨K, caps, rfl, hrun, hcall⟩ := hsok
  have HS := hide (fun W' f v hW hf hv => hcall W' f v hW hf hv)
  have hb17 := bgo (bgo (bgo HD.out hb5) hb6) hb7
  have hl7 : W.heap.size + 1 < w7.heap.size := Nat.lt_of_lt_of_le (World.block_lt_of_cell? _ _ cs) hb17.size
  have hal := bnew (Below.refl _ w7) (.cells #[.slice none 0 0] 28)
  have hb18 := bgo hb17 hal
  have cs8 := (hb18.cell (p := ⟨W.heap.size + 1, 0, none⟩) (World.block_lt_of_cell? _ _ cs)).trans cs
  have HO := hide (upto36 s.size (by omega) (w7.alloc (.cells #[.slice none 0 0] 28)))
  have BA := hide hal
  have B18 := hide hb18
  have QA := hide (heap_alloc_new w7 (.cells #[.slice none 0 0] 28))
  clear hsv hcall hb17 hal hb18 hb5 hb6 hb7 hv5 t0 t1 t2 t3 t4 hB1
  go_wp2_with fail
  with_reducible refine HO.out.mono ?_
  rintro e w9 ⟨u9, rfl, ⟨s9, rfl, hs9⟩, hb9⟩
  have hN : (revS s).data.toList.length = s.size := by rw [strlen, revS_size]
  rw [← all_mask s.size, ← hN] at hs9
  have HQ := hide (HS.out w9 _ s9 (bgo BA.out hb9) (all_len _) hs9)
  have B9 := hide (bgo B18.out hb9)
  have QA9 := hide ((hb9.block _ (lt_of_block QA.out)).trans QA.out)
  clear hs9 hb9
  go_wp2_with fail
  with_reducible refine HQ.out.mono ?_
  rintro e w10 ⟨u10, rfl, ⟨s10, rfl, hs10⟩, hb10⟩
  have hL : (stepC (mirR r) (revS s).data.toList (allC (revS s).data.toList.length)).length = (revS s).data.toList.length + 1 := stepC_len _ _ _ (all_len _)
  have hm := mask61 (N := (revS s).data.toList.length) (by rw [hN]; omega) hL
  have hbits := offs_bits (f := stepC (mirR r) (revS s).data.toList (allC (revS s).data.toList.length)) (by rw [hL, hN]; omega)
  have hle : ∀ x ∈ bitsL (maskC (stepC (mirR r) (revS s).data.toList (allC (revS s).data.toList.length))), x ≤ s.size := fun x hx => by
    rw [hbits] at hx
    have := on_lt ((offsC_mem _ x).1 hx)
    omega
  obtain ⟨m, hmm⟩ : ∃ m, maskC (stepC (mirR r) (revS s).data.toList (allC (revS s).data.toList.length)) = m := ⟨_, rfl⟩
  rw [revS_list, List.length_reverse] at hbits
  rw [hmm] at hm hs10 hle
  rw [revS_list, List.length_reverse] at hmm
  rw [hmm] at hbits
  have q10 := (hb10.block _ (lt_of_block QA9.out)).trans QA9.out
  have B10 := hide (bgo B9.out hb10)
  have HT10 := hide (HT1.out.below (bgo B9.out hb10))
  have Hs10 := hide hs10
  have Hbits := hide hbits
  have Hle := hide hle
  have c10 := (B10.out.cell (p := ⟨W.heap.size + 1, 0, none⟩) (World.block_lt_of_cell? _ _ cs)).trans cs
  have h710 : w7.heap.size < w10.heap.size := lt_of_block q10
  have hT0 := HT10.out.pos
  obtain ⟨i0, hi, hz0, hz1, hz2⟩ := info_parts info3
  clear hs10 hb10 hL hmm hbits hle
  go_wp2_with fail
  refine (wpIn_wide (n := 8)).1 ?_
  refine range_all (gf := 31) (first := #[.agg #[s10]]) (caps := #[]) rfl (enters_of Tryd.func31 (by kernel_rfl) rfl) (each31 s10 m hm w10 Hs10.out HT10.out) (fun _ => rfl)
    (fun A B C h k => k.trans h) (fun W l o h1 => World.putObj_heap_other (by omega))
    (fun k Wx => ∃ v, Wx.heap[w7.heap.size]? = some (.cells #[v] 28 (0, 0)) ∧ Own Wx (w10.heap.size + 4) 3 v (numCells (natI (((bitsL m).take k).map fun x => s.size - x))) ∧ Below w7.heap.size w10 Wx)
    (fun k A B ⟨v, h1, h2, h4⟩ hb => ⟨v, (hb.block _ (lt_of_block h1)).trans h1, h2.below hb, h4.trans (hb.mono (by have := lt_of_block h1; omega))⟩)
    (fun k A o ⟨v, h1, h2, h4⟩ => ⟨v, (World.putObj_heap_other (by omega)).trans h1, own_put h2 _ _ (fun e => by have := (World.ownsRow.lt h2 _ e).1; omega), below_put h4 _ _ (by omega)⟩)
    ⟨_, q10, by rw [List.take_zero]; exact World.ownsRow_nil _ _ _ _, Below.refl _ _⟩
    (fun x => { tmps := #[.agg #[.int .i64 k, .slice A n c, .int .i64 a, .int .i64 b, .slice B m0 d], .string s, .pointer (some ⟨W.heap.size, 0, none⟩), .pointer (some ⟨W.heap.size + 1, 0, none⟩), .slice none 0 0, .func (.func K) #[] caps, .pointer (some ⟨w7.heap.size, 0, none⟩), .int .i64 (x : Int), .agg #[.int .i64 k, .slice A n c, .int .i64 a, .int .i64 b, .slice B m0 d], v5, .string s, .string (revS s), .func (.func K) #[] caps, .func (.func K) #[] caps, .string s, .int .i64 (s.size : Int), .agg #[s9], .agg #[s10], .func (.func 31) #[.agg #[s10]] #[], .int .i64 (x : Int), undef, undef, undef, undef, undef, undef, undef, undef, undef, undef], defers := [] })
    ?assign ?body ?done
  case assign =>
    intro l x W K hK
    gi_wp2
    exact hK
  case body =>
    rintro l k x Wx hx ⟨v, h1, h2, h4⟩ hsz
    have hxs := Hle.out x (List.mem_of_getElem? hx)
    obtain ⟨y, hy⟩ : ∃ y, s.size - x = y := ⟨_, rfl⟩
    have hyi : (s.size : Int) - (x : Int) = (y : Int) := by omega
    have hlen64 : (bitsL m).length ≤ 64 := by unfold bitsL; exact Nat.le_trans (List.length_filter_le _ _) (by simp)
    have hk : k < 64 := by have := (List.getElem?_eq_some_iff.1 hx).1; omega
    have hkl : (numCells (natI (((bitsL m).take k).map fun x => s.size - x))).length = k := by rw [num_len, natI_len, List.length_map, List.length_take]; have := (List.getElem?_eq_some_iff.1 hx).1; omega
    have hown : (Wx.alloc (.cells #[.int .i64 ((s.size : Int) - (x : Int))] 3)).ownsRow (w10.heap.size + 4) 3 1 v k (numCells (natI (((bitsL m).take k).map fun x => s.size - x))) := by
      have := h2.alloc (.cells #[.int .i64 ((s.size : Int) - (x : Int))] 3)
      unfold Own at this
      rwa [hkl] at this
    have hx2 : numCells (natI (((bitsL m).take k).map fun x => s.size - x)) ++ [.int .i64 ((s.size : Int) - (x : Int))] = numCells (natI (((bitsL m).take (k + 1)).map fun x => s.size - x)) := by
      rw [take_next hx, hyi, List.map_append, List.map_singleton, hy]
      simp [natI, numCells]
    have hfar : ∀ g, v.ownBlock = some g → w10.heap.size + 4 ≤ g := fun g hg => (World.ownsRow.lt h2 g hg).1
    have hb0 := bnew (Below.refl _ Wx) (.cells #[.int .i64 ((s.size : Int) - (x : Int))] 3)
    have c0 := cell_of_one h1
    have cstr := (h4.cell (p := ⟨W.heap.size + 1, 0, none⟩) hl7).trans c10
    have hH := lt_of_block h1
    have hxi : (x : Int) ≤ 60 := by omega
    have hsi : (s.size : Int) ≤ 60 := by omega
    have hxi2 : (x : Int) ≤ (s.size : Int) := by omega
    have H1 := hide h1
    have B4 := hide h4
    have B0 := hide hb0
    have Hx2 := hide hx2
    clear h1 h4 hb0 hx hx2 hy hyi
    gi_wp2_with (gi_at_builtin; refine wpListIn_append_own _ rfl (.tmp 20) (.tmp 25) 28 rfl (w10.heap.size + 4) 3 i0 _ 1 8 Tryd.underlying28 hi hz0 hz1 hz2 rfl (by decide) v k _ rfl hown ⟨Wx.heap.size, 0, none⟩ 1 1 [.int .i64 ((s.size : Int) - (x : Int))] rfl rfl (c1_one _ _ _) (by intro u hu; simp at hu; subst hu; rfl) (by unfold maxLen; omega) (by omega) (by simp; omega) ?_)
    intro v' w' hown' hg _
    obtain ⟨gv, capv, rfl, -, -⟩ := World.ownsRow.form hown' (by omega)
    have hd : Turns (fun q => v.ownBlock = some q) Wx w' := (Turns.of_below B0.out).grown hg fun q hq => hq
    have q1 := (hd.block w7.heap.size hH (fun h => by have := hfar _ h; omega)).trans H1.out
    have c1 := cell_of_one q1
    have f1 := free_of_one q1
    have O' := hide hown'
    have D := hide hd
    have Q1 := hide q1
    clear hown hown' hg hd q1
    gi_wp2
    have hset : ∀ q, q ≠ w7.heap.size → (w'.setCell ⟨w7.heap.size, 0, none⟩ (.slice (some ⟨gv, 0, none⟩) (k + 1) capv)).heap[q]? = w'.heap[q]? := fun q hq => Below.heap_setCell w' ⟨w7.heap.size, 0, none⟩ _ q (by show q ≠ w7.heap.size; exact hq)
    have hbw : Below (w7.heap.size + 1) Wx w' := D.out.below (by omega) fun q h => by have := hfar q h; omega
    refine ⟨⟨by simpa [World.setCell] using D.out.size, fun q h5 h6 => ?_, ?_⟩, _, one_setCell Q1.out, ?_, (B4.out.trans (hbw.mono (by omega))).setCell (Nat.le_refl _) _⟩
    · exact (hset q (by omega)).trans (D.out.block q (by omega) fun h => by have := hfar _ h; omega)
    · exact (hset 0 (by omega)).trans (D.out.block 0 (by omega) fun h => by have := hfar _ h; omega)
    · rw [← Hx2.out]
      unfold Own
      rw [List.length_append, hkl, List.map_take]
      exact ownsRow_setCell_other (a := ⟨w7.heap.size, 0, none⟩) O'.out (own_far O'.out Q1.out (by decide)) _
  case done =>
    rintro Wx ⟨v, h1, h2, h4⟩ hD
    rw [List.take_of_length_le (Nat.le_refl _)] at h2
    have c1 := cell_of_one h1
    have hlen64 : (bitsL m).length ≤ 64 := by unfold bitsL; exact Nat.le_trans (List.length_filter_le _ _) (by simp)
    have HR67 := hide (reverse67 Wx _ v _ h2 (by rw [natI_len, List.length_map]; omega))
    have hfar : ∀ g, v.ownBlock = some g → w10.heap.size + 4 ≤ g := fun g hg => (World.ownsRow.lt h2 g hg).1
    have hGx := lt_of_block h1
    have H1 := hide h1
    have Bw := hide h4
    have D := hide hD
    have hDx : w10.heap.size < Wx.heap.size := (Array.getElem?_eq_some_iff.1 hD).1
    clear h2 h4 hD h1
    go_wp2_with fail
    with_reducible refine HR67.out.mono ?_
    rintro e w12 ⟨rfl, ho12, ht12⟩
    have c12 := cell_of_one ((ht12.block _ hGx (fun h => by have := hfar _ h; omega)).trans H1.out)
    have D12 := hide ((ht12.block _ hDx (fun h => by have := hfar _ h; omega)).trans D.out)
    have O12 := hide ho12
    have B12 := hide (((bgo B1.out B10.out).trans (Bw.out.mono (by omega))).trans (ht12.below (n := W.heap.size) (by omega) fun q h => by have := hfar q h; omega))
    clear ho12 ht12
    go_wp2
    refine ⟨by simp, .inl ⟨_, _, rfl, run_takeDeferred D12.out, ?_⟩⟩
    have hb := below_put B12.out w10.heap.size (.deferred none) (by omega)
    refine ⟨v, results_tmp (t := 4) rfl _ _ _, v, rfl, ?_, hb⟩
    rw [← Hbits.out]
    have e : natI ((bitsL m).map fun x => s.size - x).reverse = (natI ((bitsL m).map fun x => s.size - x)).reverse := by simp [natI]
    rw [e]
    refine owns_mono (own_put O12.out _ _ fun e => ?_) (show W.heap.size ≤ w10.heap.size + 4 by omega)
    have := (World.ownsRow.lt O12.out _ e).1
    omega
end Go.Proofs.YtkghbhcjgogaeaaDoor
