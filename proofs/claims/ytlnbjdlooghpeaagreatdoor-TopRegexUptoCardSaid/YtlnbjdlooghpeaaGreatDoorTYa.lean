/- TopRegex: Zi, ShelfR, Ya. -/
import Derived.Test.YtlnbjdlooghpeaaGreatDoorTZh
import Derived.Shelf.Small.Wraps
import Derived.Shelf.Slices.Turned
import Derived.Ground.Names2Prog
import Derived.Test.YtlnbjdlooghpeaaGreatDoorProg
import Derived.Test.YtlnbjdlooghpeaaGreatDoorTZg
import Derived.Lib.OwnBridge
import Derived.Laws.ResultCell
import Derived.Deep.Cut
import Derived.Test.YtlnbjdlooghpeaaGreatDoorTNg
import Derived.Test.YtlnbjdlooghpeaaGreatDoorTQn
import Derived.Deep.RegionHeld3
import Derived.Shelf.Slices.Reverse
import Derived.Test.YtlnbjdlooghpeaaGreatDoorTQq
import Derived.Sort.WalkB12
import Derived.Lib.SlicesMore
import Derived.Laws.IdiomStrings
namespace Go.Proofs.YtlnbjdlooghpeaaGreatDoor
open Go.RowKit
set_option maxRecDepth 100000 in
set_option maxHeartbeats 1000000 in
theorem only30 (q : Nat) (hq : q < 61) (W : World) : Calls Tryz.prog 87 #[.int .i64 (q : Int)] W (RetO W (2 ^ q)) := by
  have hB0 := bnew (bnew (Below.refl _ W) (.cells #[.slice none 0 0] 62)) (.cells #[.slice none 0 0] 62)
  have hbox : Box (W.heap.size + 1) ((W.alloc (.cells #[.slice none 0 0] 62)).alloc (.cells #[.slice none 0 0] 62)) (W.heap.size + 1) (.slice none 0 0) 0 := by
    have := Box.new (n0 := W.heap.size + 1) (W.alloc (.cells #[.slice none 0 0] 62)) (by simp)
    simpa using this
  have HP := hide (put_own (W.heap.size + 1) (W.heap.size + 1) 0 q _ _ hbox (by simp) (by omega) hq)
  have BB := hide hB0
  clear hB0 hbox
  go_enter Tryz.func87, Tryz.ntmps87
  go_wp2_with fail
  with_reducible refine HP.out.mono ?_
  rintro e w2 ⟨rfl, A, n, c, hbx, hb⟩
  rw [Nat.zero_or] at hbx
  have c1 := cell_of_one hbx.2.1
  have r0 := (hb.block W.heap.size (by omega)).trans (show ((W.alloc (.cells #[.slice none 0 0] 62)).alloc (.cells #[.slice none 0 0] 62)).heap[W.heap.size]? = some (.cells #[.slice none 0 0] 62 (0, 0)) from (Below.heap_alloc _ _ _ (by simp)).trans (heap_alloc_new W _))
  have c2 := cell_of_one r0
  have f2 := free_of_one r0
  have X := hide hbx
  have B2 := hide (BB.out.trans (hb.mono (by omega)))
  clear hbx hb r0
  have hs := World.cell?_setCell_same' w2 ⟨W.heap.size, 0, none⟩ (.slice A n c) (by rw [c2]; rfl)
  go_wp2
  refine bodyPost_ret (v := .agg #[.slice A n c]) (by simp [results, Tryz.results87, go_sem, hs]) rfl ⟨_, rfl, ⟨_, rfl, ?_⟩, B2.out.setCell (p := ⟨W.heap.size, 0, none⟩) (Nat.le_refl _) _⟩
  exact (acc_off X.out.2.2 W.heap.size _ (by omega)).set
end Go.Proofs.YtlnbjdlooghpeaaGreatDoor
namespace Go.Proofs.YtlnbjdlooghpeaaGreatDoor
open Go.RowKit
open Go.ChangeShapes (block_add)
theorem info3 : (Tryz.prog.info? 3).map (fun i => (i.zero, i.size, i.bytes)) = some (some (.int .i64 0), 1, 8) := by kernel_rfl
def natI (l : List Nat) : List Int := l.map Int.ofNat
theorem natI_len (l : List Nat) : (natI l).length = l.length := by simp [natI]
attribute [local go_sem] Oper.semAt_some
end Go.Proofs.YtlnbjdlooghpeaaGreatDoor
namespace Go.Proofs.YtlnbjdlooghpeaaGreatDoor
open Go.RowKit
open Go.ChangeShapes (block_add)
def onlyC (N i : Nat) : List Bool := (noneC N).set i true
theorem only_len (N i : Nat) : (onlyC N i).length = N + 1 := by simp [onlyC, noneC_len]
theorem only_mask {N i : Nat} (h : i ≤ N) : maskC (onlyC N i) = 2 ^ i := by
  unfold onlyC
  rw [mask_set (by rw [noneC_len]; omega), mask_none, Nat.zero_or]
theorem GrewI.nil (W w' : World) (h : Below W.heap.size W w') : GrewI W [] (.returned (.slice none 0 0)) w' := ⟨_, rfl, World.ownsRow_nil _ _ _ _, h⟩
end Go.Proofs.YtlnbjdlooghpeaaGreatDoor
namespace Go.Proofs
open Go.Shelf
end Go.Proofs
namespace Go.Proofs.YtlnbjdlooghpeaaGreatDoor
open Go.RowKit
open Go.ChangeShapes (block_add)
end Go.Proofs.YtlnbjdlooghpeaaGreatDoor
namespace Go.Proofs.YtlnbjdlooghpeaaGreatDoor
open Go.RowKit
end Go.Proofs.YtlnbjdlooghpeaaGreatDoor
namespace Go.Proofs.YtlnbjdlooghpeaaGreatDoor
open Go.RowKit
open Go.Op (bytesLess)
theorem add_atW (g o j : Nat) : (⟨g, o, none⟩ : Addr).add j = ⟨g, o + j, none⟩ := by
  unfold Addr.add
  split
  · rename_i h; rw [h]; rfl
  · rfl
theorem addr_plainW {W : World} {ad : Addr} {v : Value} (h : W.cell? (ad.add 0) = some v) : ∃ g o, ad = ⟨g, o, none⟩ := by
  obtain ⟨g, o, sp⟩ := ad
  have hsp : sp = none := by simpa [Addr.add] using World.cell?_spot h
  subst hsp
  exact ⟨g, o, rfl⟩
end Go.Proofs.YtlnbjdlooghpeaaGreatDoor
namespace Go.Proofs
open Go.Shelf
def Tryz.lays112_ren : Go.Shelf.Ren := ⟨fun | 112 => 93 | n => n, fun | 28 => 34 | 3 => 3 | 4 => 4 | 0 => 0 | n => n, fun | n => n⟩
theorem Tryz.lays112 : Go.Proofs.Lays.n112 Tryz.prog Tryz.lays112_ren := {
  mixed := by kernel_rfl
  f112 := Tryz.func93.trans (congrArg some (by kernel_rfl))
  t0 := Tryz.underlying0
  a0 := Tryz.isAgg0
  z0 := Tryz.sizeOf0
  v0 := Tryz.zeroValue0
  t3 := Tryz.underlying3
  a3 := Tryz.isAgg3
  z3 := Tryz.sizeOf3
  v3 := Tryz.zeroValue3
  t4 := Tryz.underlying4
  a4 := Tryz.isAgg4
  z4 := Tryz.sizeOf4
  v4 := Tryz.zeroValue4
  t28 := Tryz.underlying34
  a28 := Tryz.isAgg34
  z28 := Tryz.sizeOf34
  v28 := Tryz.zeroValue34 }
open Go.RowKit Go.Lib Go.Sort in
theorem Tryz.slices_Reverse_int (blk off cap : Nat) (zs : List Int) (w : World) (hH : Holds (Value.int .i64) w blk off zs.toArray) (hsz : zs.length ≤ 9223372036854775807) :
    Calls Tryz.prog 93 #[.slice (some ⟨blk, off, none⟩) zs.length cap] w fun e w' => e = .returned (.tuple #[]) ∧ ∃ n, w' = putRow (Value.int .i64) (Sort.ahead w n) blk off zs.reverse.toArray := Any.slices_Reverse_int Tryz.lays112 blk off cap zs w hH hsz
open Go.RowKit Go.Lib Go.Sort in
theorem Tryz.slices_Reverse_int_empty (a : Option Addr) (cap : Nat) (w : World) :
    Calls Tryz.prog 93 #[.slice a 0 cap] w fun e w' => e = .returned (.tuple #[]) ∧ w' = w := Any.slices_Reverse_int_empty Tryz.lays112 a cap w
end Go.Proofs
namespace Go.Proofs.YtlnbjdlooghpeaaGreatDoor
open Go.RowKit
open Go.ChangeShapes (block_add)
attribute [local go_sem] Oper.semAt_some
def lastN (l : List Nat) : Nat := l.getLast?.getD 0
theorem lastN_snoc (l : List Nat) (x : Nat) : lastN (l ++ [x]) = x := by simp [lastN]
theorem two_set {w : World} {b : Nat} {x y u : Value} {T : TypeId} (h : w.heap[b]? = some (.cells #[x, y] T (0, 0))) : (w.setCell ⟨b, 1, none⟩ u).heap[b]? = some (.cells #[x, u] T (0, 0)) := by
  have := Go.Joins.block_setCell (i := 1) h u
  simpa using this
theorem two_set0 {w : World} {b : Nat} {x y u : Value} {T : TypeId} (h : w.heap[b]? = some (.cells #[x, y] T (0, 0))) : (w.setCell ⟨b, 0, none⟩ u).heap[b]? = some (.cells #[u, y] T (0, 0)) := by
  have := Go.Joins.block_setCell (i := 0) h u
  simpa using this
theorem load_two32 {W : World} {b : Nat} {x y : Value} (h : W.heap[b]? = some (.cells #[x, y] 48 (0, 0))) : (loadVar 48 ⟨b, 0, none⟩).run Tryz.prog W = .ok (.agg #[x, y]) W := by
  obtain ⟨h0, h1, -, -⟩ := two_cell h
  clear h
  go_simp
theorem res_two32 {fn : Func} {p : Tmp} (h : fn.results = #[.cell p 48]) (tmps : Array Value) (W : World) (b : Nat) (x y : Value) (hp : tmps.getD p undef = .pointer (some ⟨b, 0, none⟩)) (hf : W.heap[b]? = some (.cells #[x, y] 48 (0, 0))) :
    (results fn tmps).run Tryz.prog W = .ok (.agg #[x, y]) W := by
  have hp' : tmps[p]?.getD undef = .pointer (some ⟨b, 0, none⟩) := by simpa using hp
  simp [results, h, hp', asAddr, load_two32 hf]
set_option maxRecDepth 100000 in
set_option maxHeartbeats 4000000 in
theorem longest35 (N i : Nat) (hN : N + 1 ≤ 61) (hi : i ≤ N) (T : List Bool → List Bool) (hTl : (T (onlyC N i)).length = N + 1) (sv : Value) (W : World) (hS : StepOK N W sv T) (hT : HasT W) :
    Calls Tryz.prog 46 #[sv, .int .i64 (i : Int)] W fun e w' => e = .returned (.agg #[.int .i64 (i : Int), .int .i64 (lastN (offsC (T (onlyC N i))) : Nat)]) ∧ Below W.heap.size W w' := by
  obtain ⟨K, caps, rfl, hrun, hcall⟩ := hS
  obtain ⟨H, hH⟩ : ∃ H, W.heap.size = H := ⟨_, rfl⟩
  have hT0 := hT.pos
  rw [hH] at hT0
  have HC := hide hcall
  have HT := hide hT
  have HH := hide hH
  have HTl := hide hTl
  clear hcall hT hTl
  refine (callsIn_wide (n := 8)).1 ?_
  refine callsIn_of_wp_marks Tryz.func46 rfl trivial ?_ rfl
  simp only [Tryz.ntmps46, List.size_toArray, List.length_cons, List.length_nil, Nat.reduceAdd, Nat.reduceSub, Array.replicate_succ, Array.replicate_zero, List.push_toArray, List.append_toArray, List.nil_append, List.cons_append]
  gi_wp2
  obtain ⟨W1, hW1⟩ : ∃ W1, (W.alloc (.cells #[.int .i64 0, .int .i64 0] 48)).alloc (.cells #[.int .i64 (i : Int), .int .i64 0] 48) = W1 := ⟨_, rfl⟩
  have b1 : Below W.heap.size W W1 := by rw [← hW1]; exact bnew (bnew (Below.refl _ _) _) _
  have q0 : W1.heap[H]? = some (.cells #[.int .i64 0, .int .i64 0] 48 (0, 0)) := by
    rw [← hW1, ← hH]
    exact (Below.heap_alloc _ _ _ (by simp)).trans (heap_alloc_new W _)
  have q1 : W1.heap[H + 1]? = some (.cells #[.int .i64 (i : Int), .int .i64 0] 48 (0, 0)) := by
    rw [← hW1, ← hH]
    have := heap_alloc_new (W.alloc (.cells #[.int .i64 0, .int .i64 0] 48)) (.cells #[.int .i64 (i : Int), .int .i64 0] 48)
    rw [World.size_alloc] at this
    exact this
  rw [hW1]
  clear hW1 hH
  refine ⟨trivial, (callsIn_wide.2 (only30 i (by omega) W1)).mono ?_⟩
  rintro e w2 ⟨u2, rfl, ⟨s2, rfl, hs2⟩, hb2⟩
  rw [← only_mask (N := N) hi] at hs2
  have HQ := hide (HC.out w2 _ s2 (bgo b1 hb2) (only_len N i) hs2)
  have q02 := (hb2.block _ (lt_of_block q0)).trans q0
  have q12 := (hb2.block _ (lt_of_block q1)).trans q1
  have B2 := hide (bgo b1 hb2)
  clear hs2 hb2 b1 q0 q1
  gi_wp2
  refine ⟨trivial, (callsIn_wide.2 HQ.out).mono ?_⟩
  rintro e w3 ⟨u3, rfl, ⟨s3, rfl, hs3⟩, hb3⟩
  have q0 := (hb3.block _ (lt_of_block q02)).trans q02
  have q1 := (hb3.block _ (lt_of_block q12)).trans q12
  have hb := bgo B2.out hb3
  have hm := mask61 hN HTl.out
  obtain ⟨m, hmm⟩ : ∃ m, maskC (T (onlyC N i)) = m := ⟨_, rfl⟩
  have hbits : bitsL m = offsC (T (onlyC N i)) := by rw [← hmm]; exact offs_bits (by rw [HTl.out]; omega)
  have Hbits := hide hbits
  rw [hmm] at hs3 hm
  have Hs3 := hide hs3
  have HT3 := hide (HT.out.below hb)
  have B := hide hb
  have hl1 := lt_of_block q1
  clear hs3 hb3 q02 q12 hb hmm hbits
  gi_wp2
  refine range_all (gf := 88) (first := #[.agg #[s3]]) (caps := #[]) rfl (enters_of Tryz.func88 (by kernel_rfl) rfl) (each31 s3 m hm w3 Hs3.out HT3.out) (fun _ => rfl)
    (fun A B C h k => k.trans h) (fun W l o h1 => World.putObj_heap_other (by omega))
    (fun k Wx => Wx.heap[H]? = some (.cells #[.int .i64 0, .int .i64 0] 48 (0, 0)) ∧ Wx.heap[H + 1]? = some (.cells #[.int .i64 (i : Int), .int .i64 (lastN ((bitsL m).take k) : Nat)] 48 (0, 0)) ∧ Below H W Wx)
    (fun k A B ⟨h1, h2, h4⟩ hb => ⟨(hb.block _ (lt_of_block h1)).trans h1, (hb.block _ (lt_of_block h2)).trans h2, h4.trans (hb.mono (by have := lt_of_block h1; omega))⟩)
    (fun k A o ⟨h1, h2, h4⟩ => ⟨(World.putObj_heap_other (by omega)).trans h1, (World.putObj_heap_other (by omega)).trans h2, below_put h4 _ _ (by omega)⟩)
    ⟨q0, by rw [List.take_zero]; exact q1, by rw [← HH.out]; exact B.out⟩
    (fun x => { tmps := #[.func (.func K) #[] caps, .int .i64 (i : Int), undef, undef, .pointer (some ⟨H, 0, none⟩), .pointer (some ⟨H + 1, 0, none⟩), .int .i64 (x : Int), .int .i64 (i : Int), .agg #[.int .i64 (i : Int), .int .i64 0], .func (.func K) #[] caps, .int .i64 (i : Int), .agg #[s2], .agg #[s3], .func (.func 88) #[.agg #[s3]] #[], .int .i64 (x : Int), undef, undef, undef], defers := [] })
    ?assign ?body ?done
  case assign =>
    intro l x W K hK
    gi_wp2
    exact hK
  case body =>
    rintro l k x Wx hx ⟨h1, h2, h4⟩ hsz
    obtain ⟨-, -, -, f1⟩ := two_cell h2
    obtain ⟨-, c1, -, -⟩ := two_cell h2
    have Q0 := hide h1
    have Q1 := hide h2
    have B4 := hide h4
    have Hx := hide (show lastN ((bitsL m).take (k + 1)) = x by rw [take_next hx, lastN_snoc])
    clear h1 h2 h4 hx
    gi_wp2
    have hset : ∀ q, q ≠ H + 1 → (Wx.setCell ⟨H + 1, 1, none⟩ (.int .i64 (x : Int))).heap[q]? = Wx.heap[q]? := fun q hq => Below.heap_setCell Wx ⟨H + 1, 1, none⟩ _ q (by show q ≠ H + 1; exact hq)
    refine ⟨⟨by simp [World.setCell], fun q h5 h6 => hset q (by omega), hset 0 (by omega)⟩, (hset H (by omega)).trans Q0.out, ?_, B4.out.setCell (by show H ≤ H + 1; omega) _⟩
    rw [Hx.out]
    exact two_set Q1.out
  case done =>
    rintro Wx ⟨h1, h2, h4⟩ hD
    rw [List.take_of_length_le (Nat.le_refl _)] at h2
    obtain ⟨c0, c1, f0, f1⟩ := two_cell h2
    obtain ⟨d0, d1, g0, g1⟩ := two_cell h1
    have B := hide h4
    have D := hide hD
    have Q1 := hide h2
    have Q0 := hide h1
    clear h2 h4 hD h1
    gi_wp2
    have e : ∀ q, q ≠ H → ((Wx.setCell ⟨H, 0, none⟩ (.int .i64 (i : Int))).setCell ⟨H, 1, none⟩ (.int .i64 (lastN (bitsL m) : Nat))).heap[q]? = Wx.heap[q]? := fun q hq => (Below.heap_setCell _ ⟨H, 1, none⟩ _ q (by show q ≠ H; exact hq)).trans (Below.heap_setCell _ ⟨H, 0, none⟩ _ q (by show q ≠ H; exact hq))
    refine ⟨by simp, .inl ⟨_, _, rfl, run_takeDeferred ((e _ (by omega)).trans D.out), ?_⟩⟩
    refine ⟨_, res_two32 rfl _ _ H _ _ rfl ((World.putObj_heap_other (by omega)).trans (two_set (two_set0 Q0.out))), by rw [Hbits.out], ?_⟩
    rw [HH.out]
    exact below_put (((B.out).setCell (Nat.le_refl _) _).setCell (Nat.le_refl _) _) _ _ (by omega)
end Go.Proofs.YtlnbjdlooghpeaaGreatDoor
namespace Go.Proofs.YtlnbjdlooghpeaaGreatDoor
open Go.RowKit Go.Lib Go.Sort
open Go.ChangeShapes (block_add)
def encB (b : UInt8) : Value := .int .u8 (b.toNat : Int)
set_option maxHeartbeats 1600000 in
set_option maxRecDepth 1000000 in
theorem reverse82 (blk off cap : Nat) (d : Array UInt8) (w : World) (hH : Holds encB w blk off d) (hsz : d.size ≤ 9223372036854775807) :
    Calls Tryz.prog 122 #[.slice (some ⟨blk, off, none⟩) d.size cap] w fun e w' => e = .returned (.tuple #[]) ∧ ∃ n, w' = putRow encB (Sort.ahead w n) blk off d.reverse := by
  go_enter Tryz.func122, Tryz.ntmps122
  go_wp2
  go_loopg [2, 3] d.size (fun k s2 s3 wr => ∃ (i jn : Nat) (jz : Int) (dk : Array UInt8) (n : Nat), s2 = .int .i64 i ∧ s3 = .int .i64 jz ∧ ((i : Int) < jz → jz = jn ∧ jn < d.size) ∧ (¬ (i : Int) < jz → ¬ i < jn) ∧ jn - i ≤ k ∧
    dk.size = d.size ∧ wr = putRow encB (Sort.ahead w n) blk off dk ∧ reverseLoop i jn dk = reverseLoop 0 (d.size - 1) d)
  case atStart => exact ⟨0, d.size - 1, (d.size : Int) - 1, d, 0, rfl, rfl, fun h => ⟨by omega, by omega⟩, fun h => by omega, by omega, rfl, (putRow_self encB w blk off d hH).symm, rfl⟩
  case round =>
    obtain ⟨i, jn, jz, dk, n, rfl, rfl, h1, h2, hk, hds, hwr, heq⟩ := hrel
    by_cases hlt : (i : Int) < jz
    · obtain ⟨rfl, hjn⟩ := h1 hlt
      have hij : i < jn := by omega
      have hix : i < d.size := by omega
      have hHk : Holds encB wr blk off dk := by rw [hwr]; exact holds_putRow encB _ blk off d dk (holds_ahead encB w n blk off d hH) hds
      obtain ⟨ci, fi⟩ := hHk i (by omega)
      obtain ⟨cj, fj⟩ := hHk jn (by omega)
      unfold encB at ci cj
      have A : Aside (wr = putRow encB (Sort.ahead w n) blk off dk) := hwr
      clear hwr hHk hH h1 h2
      go_wp2_with fail
      go_region
      go_wp2
      go_roundg (jn - 1 - (i + 1))
      case measure => omega
      case rel =>
        rw [reverseLoop, if_pos hij] at heq
        exact ⟨i + 1, jn - 1, (jn : Int) - 1, swp dk i jn, n + 1, by simp, rfl, fun h => ⟨by omega, by omega⟩, fun h => by omega, Nat.le_refl _, by rw [size_swp]; exact hds,
          swap_world encB (by omega) (by omega) A.out (by first | rfl | simp [encB, getElem!_pos, show jn < dk.size by omega]) (by first | rfl | simp [encB, getElem!_pos, show i < dk.size by omega]), heq⟩
    · have hnot := h2 hlt
      go_wp2
      go_end0
      refine ⟨rfl, n, ?_⟩
      rw [reverseLoop, if_neg hnot] at heq
      rw [← Lib.reverseLoop_reverse, ← heq]
def revS (s : ByteArray) : ByteArray := ⟨s.data.reverse⟩
theorem revS_list (s : ByteArray) : (revS s).data.toList = s.data.toList.reverse := by simp [revS]
theorem revS_size (s : ByteArray) : (revS s).size = s.size := by show s.data.reverse.size = s.data.size; simp
set_option maxHeartbeats 1600000 in
set_option maxRecDepth 100000 in
theorem reversed66 (s : ByteArray) (hs : s.size ≤ 100000) (w : World) : Calls Tryz.prog 92 #[.string s] w fun e w' => e = .returned (.string (revS s)) ∧ Below w.heap.size w w' := by
  have hconv := run_bytes_of_string w 9 129 5 s Tryz.underlying9 Tryz.underlying129 Tryz.underlying5
  have hC : ∀ j (hj : j < s.size), (bytesRow s (grownCap w s.size 0 5))[j]? = some (.int .u8 (s[j].toNat : Int)) := by
    intro j hj
    unfold bytesRow
    rw [Array.getElem?_append_left (by simpa using hj), Array.getElem?_map, Array.getElem?_eq_getElem (by simpa using hj)]
    rfl
  have hsz : s.size ≤ (bytesRow s (grownCap w s.size 0 5)).size := by
    unfold bytesRow
    simp
  generalize bytesRow s (grownCap w s.size 0 5) = C at hconv hC hsz
  generalize grownCap w s.size 0 5 = cap at hconv
  obtain ⟨w1, hw1⟩ : ∃ w1, w.drew.alloc (.cells C 5 (C.size, C.size + 1)) = w1 := ⟨_, rfl⟩
  rw [hw1] at hconv
  have hb1 : Below w.heap.size w w1 := by rw [← hw1]; exact (show Below w.heap.size w w.drew from ⟨rfl, rfl, rfl, Nat.le_refl _, fun _ _ => rfl⟩).alloc (Nat.le_refl _) _
  have hH : Holds encB w1 w.heap.size 0 s.data := fun j hj => by
    have hj' : j < s.size := hj
    rw [Nat.zero_add]
    constructor
    · rw [← hw1]
      show (w.drew.alloc _).cell? ⟨w.drew.heap.size, j, none⟩ = _
      rw [World.cell?_alloc_mark, hC j hj', getElem!_pos s.data j hj]
      rfl
    · rw [← hw1]
      show (w.drew.alloc _).frozen? ⟨w.drew.heap.size, j, none⟩ = _
      rw [World.frozen?_alloc_mark]; simp; omega
  have HR := hide (show Calls Tryz.prog 122 #[.slice (some ⟨w.heap.size, 0, none⟩) s.size cap] w1 _ from reverse82 w.heap.size 0 cap s.data w1 hH (by show s.size ≤ _; omega))
  have B1 := hide hb1
  have HH := hide hH
  clear hC hw1 hH hb1 hsz
  go_enter Tryz.func92, Tryz.ntmps92
  go_wp2_with fail
  with_reducible refine HR.out.mono ?_
  rintro e w2 ⟨rfl, n, rfl⟩
  have hHr := holds_putRow encB (Sort.ahead w1 n) w.heap.size 0 s.data s.data.reverse (holds_ahead encB w1 n w.heap.size 0 s.data HH.out) (by simp)
  have hback := run_convert_bytes_back (putRow encB (Sort.ahead w1 n) w.heap.size 0 s.data.reverse) 129 9 5 ⟨w.heap.size, 0, none⟩ cap s.data.toList.reverse Tryz.underlying129 Tryz.underlying5 Tryz.underlying9 (fun j hj => by
    have h := (hHr j (by simpa using hj)).1
    rw [Nat.zero_add] at h
    rw [addr0, h, getElem!_pos s.data.reverse j (by simpa using hj)]
    simp [encB])
  rw [show s.data.toList.reverse.length = s.size by simp] at hback
  have B2 := hide (Lib.below_putRow (enc := encB) (q := n) (d := s.data.reverse) B1.out (Nat.le_refl _))
  generalize putRow encB (Sort.ahead w1 n) w.heap.size 0 s.data.reverse = w2 at hback B2 ⊢
  clear hHr
  go_wp2
  go_ret
  refine ⟨congrArg (fun x => Ending.returned (Value.string x)) ?_, B2.out⟩
  show (⟨s.data.toList.reverse.toArray⟩ : ByteArray) = ⟨s.data.reverse⟩
  exact congrArg ByteArray.mk (show s.data.toList.reverse.toArray = s.data.reverse from Array.ext' (by rw [Array.toList_reverse]))
end Go.Proofs.YtlnbjdlooghpeaaGreatDoor
namespace Go.Proofs.YtlnbjdlooghpeaaGreatDoor
open Go.RowKit
open Go.ChangeShapes (block_add)
attribute [local go_sem] Oper.semAt_some
theorem putRow_turns {α : Type} [Inhabited α] {enc : α → Value} {w : World} {g q : Nat} {d : Array α} : Turns (fun k => k = g) w (Go.Sort.putRow enc (Go.Sort.ahead w q) g 0 d) :=
  ⟨rfl, rfl, rfl, by simp [Go.Sort.ahead], fun k _ hn => by simp [Go.Sort.putRow, Go.Sort.mapBlock, Go.Sort.ahead, Array.getElem?_modify, show g ≠ k from fun e => hn e.symm]⟩
theorem reverse67 (w : World) (B : Nat) (v : Value) (l : List Int) (ho : Own w B 3 v (numCells l)) (hl : l.length ≤ 1000000) :
    Calls Tryz.prog 93 #[v] w fun e w' => e = .returned (.tuple #[]) ∧ Own w' B 3 v (numCells l.reverse) ∧ Turns (fun q => v.ownBlock = some q) w w' := by
  by_cases hv : v = .slice none 0 0
  · subst hv
    have h0 : l = [] := by
      obtain ⟨A, m, c, e, hm, _⟩ := ho.slI
      simp only [Value.slice.injEq] at e
      exact List.eq_nil_of_length_eq_zero (by omega)
    subst h0
    exact (Tryz.slices_Reverse_int_empty none 0 w).mono fun e w' ⟨h1, h2⟩ => ⟨h1, by rw [h2]; exact ho, by rw [h2]; exact Turns.refl _ _⟩
  · have ho' : w.ownsRow B 3 1 v l.length (l.map (Value.int .i64)) := by
      have := ho
      unfold Own at this
      rwa [num_len] at this
    obtain ⟨g, cap, rfl, hB, hg, -, -, -, hH⟩ := Go.Lib.holds_of_ownsRow ho' hv
    refine (Tryz.slices_Reverse_int g 0 cap l w hH (by omega)).mono fun e w' ⟨h1, q, h2⟩ => ⟨h1, ?_, ?_⟩
    · rw [h2]
      have := Go.Lib.ownsRow_putRow (q := q) (k := l.length) (ys := l.reverse) ho' (by simp) (Nat.le_refl _)
      rw [List.take_of_length_le (by simp)] at this
      unfold Own
      rw [num_len, List.length_reverse]
      exact this
    · rw [h2]
      exact (Turns.refl _ w).trans putRow_turns (fun _ _ x => x) (fun i _ x => by rw [x]; rfl)
def Mirrors (r : Rx) : Prop := ∀ (W : World) (ok : Nat → Prop) (v : Value), RxV W ok v r → Calls Tryz.prog 91 #[v] W fun e w' => ∃ v', e = .returned v' ∧ RxV w' (fun _ => True) v' (mirR r) ∧ Below W.heap.size W w'
set_option maxRecDepth 100000 in
set_option maxHeartbeats 4000000 in
theorem begin34 (s : ByteArray) (hs : s.size ≤ 60) (r : Rx) (hr : Mirrors r) (hm : MakesStep (revS s) (mirR r)) (W : World) (ok : Nat → Prop) (v : Value) (hv : RxV W ok v r) (hT : HasT W) :
    Calls Tryz.prog 45 #[v, .string s] W (GrewI W (natI ((offsC (stepC (mirR r) s.data.toList.reverse (allC s.data.toList.length))).map (fun x => s.size - x)).reverse)) := by
  have hlen := strlen s
  have hv0 := hv
  cases hv with
  | mk k a b A B n c m0 d set vs l hset hvs hl hk ha hb hr =>
  obtain ⟨r, hr'⟩ : ∃ r, Rx.mk k set a b l = r := ⟨_, rfl⟩
  rw [hr'] at hv0 hr hm ⊢
  have hB := bnew (bnew (Below.refl _ W) (.cells #[.int .i64 k, .slice A n c, .int .i64 a, .int .i64 b, .slice B m0 d] 25)) (.cells #[.string s] 9)
  obtain ⟨W1, hW1⟩ : ∃ W1, (W.alloc (.cells #[.int .i64 k, .slice A n c, .int .i64 a, .int .i64 b, .slice B m0 d] 25)).alloc (.cells #[.string s] 9) = W1 := ⟨_, rfl⟩
  have f1 : Five W1 W.heap.size (.int .i64 k) (.slice A n c) (.int .i64 a) (.int .i64 b) (.slice B m0 d) := by
    rw [← hW1]
    exact (five_new W _ _ _ _ _ 25).keep (bnew (Below.refl _ _) _)
  have q1 : W1.heap[W.heap.size + 1]? = some (.cells #[.string s] 9 (0, 0)) := by
    rw [← hW1]
    have := heap_alloc_new (W.alloc (.cells #[.int .i64 k, .slice A n c, .int .i64 a, .int .i64 b, .slice B m0 d] 25)) (.cells #[.string s] 9)
    rw [World.size_alloc] at this
    exact this
  rw [hW1] at hB
  have V1 := hide (hv0.kept hB)
  have B1 := hide hB
  have HT1 := hide (hT.below hB)
  have HM := hide (fun w (hb : Below W1.heap.size W1 w) => hr w ok _ ((hv0.kept hB).kept hb))
  have HR := hide (fun w => reversed66 s (by omega) w)
  have Hm := hide (show ∀ (W : World) (ok : Nat → Prop) (v : Value), RxV W ok v (mirR r) → HasT W → Calls Tryz.prog 30 #[v, .string (revS s)] W fun e w' => ∃ sv, e = .returned sv ∧ StepP (revS s).data.toList.length w' (Rng W.heap.size w'.heap.size) sv (fun f => stepC (mirR r) (revS s).data.toList f) ∧ Below W.heap.size W w' from hm)
  have HW1 := hide hW1
  have F1 := hide f1
  have Q1 := hide q1
  clear hset hvs hl hk ha hb hB hv0 hT hr hm hr' hW1 f1 q1
  refine (callsIn_wide (n := 8)).1 ?_
  refine callsIn_of_wp_marks Tryz.func45 rfl trivial ?_ rfl
  simp only [Tryz.ntmps45, List.size_toArray, List.length_cons, List.length_nil, Nat.reduceAdd, Nat.reduceSub, Array.replicate_succ, Array.replicate_zero, List.push_toArray, List.append_toArray, List.nil_append, List.cons_append]
  refine wpIn_wide.2 ?_
  go_upto_region 1 with fail
  rw [HW1.out]
  obtain ⟨_, t0, t1, t2, t3, t4⟩ := F1.out
  have cs := cell_of_one Q1.out
  have KP := hide (fun (p : Addr) (v : Value) (w' : World) (hb : Below W1.drew.heap.size W1.drew w') (h : W1.cell? p = some v) => show w'.cell? p = some v from (hb.cell (p := p) (World.block_lt_of_cell? _ _ h)).trans h)
  have HD := hide (bel_drew W1)
  have hB1 := HD.out
  go_region_held3 (fun w' => (w'.cell? ⟨W.heap.size, 0, none⟩ = some (.int .i64 k) ∧ w'.cell? ⟨W.heap.size, 1, none⟩ = some (.slice A n c) ∧ w'.cell? ⟨W.heap.size, 2, none⟩ = some (.int .i64 a) ∧ w'.cell? ⟨W.heap.size, 3, none⟩ = some (.int .i64 b) ∧ w'.cell? ⟨W.heap.size, 4, none⟩ = some (.slice B m0 d)) ∧ w'.cell? ⟨W.heap.size + 1, 0, none⟩ = some (.string s))
    (first | exact ⟨⟨t0, t1, t2, t3, t4⟩, cs⟩ | exact ⟨⟨KP.out _ _ _ hb5 t0, KP.out _ _ _ hb5 t1, KP.out _ _ _ hb5 t2, KP.out _ _ _ hb5 t3, KP.out _ _ _ hb5 t4⟩, KP.out _ _ _ hb5 cs⟩ | exact ⟨⟨KP.out _ _ _ (bgo hb5 hb6) t0, KP.out _ _ _ (bgo hb5 hb6) t1, KP.out _ _ _ (bgo hb5 hb6) t2, KP.out _ _ _ (bgo hb5 hb6) t3, KP.out _ _ _ (bgo hb5 hb6) t4⟩, KP.out _ _ _ (bgo hb5 hb6) cs⟩ | exact ⟨⟨KP.out _ _ _ (bgo (bgo hb5 hb6) hb7) t0, KP.out _ _ _ (bgo (bgo hb5 hb6) hb7) t1, KP.out _ _ _ (bgo (bgo hb5 hb6) hb7) t2, KP.out _ _ _ (bgo (bgo hb5 hb6) hb7) t3, KP.out _ _ _ (bgo (bgo hb5 hb6) hb7) t4⟩, KP.out _ _ _ (bgo (bgo hb5 hb6) hb7) cs⟩)
    (first
      | (go_at_call 91; (with_reducible refine (HM.out _ HD.out).mono ?_); rintro e w5 ⟨v5, rfl, hv5, hb5⟩)
      | (go_at_call 92; (with_reducible refine (HR.out _).mono ?_); rintro e w6 ⟨rfl, hb6⟩)
      | (go_at_call 30; (with_reducible refine (Hm.out _ _ _ (hv5.kept hb6) (HT1.out.below (bgo (bgo HD.out hb5) hb6))).mono ?_); rintro e w7 ⟨sv, rfl, hsv, hb7⟩))
  have hsok := hsv.ok (Kept.of (Below.refl _ w7))
  obtain ⟨K, caps, rfl, hrun, hcall⟩ := hsok
  have HS := hide (fun W' f v hW hf hv => hcall W' f v hW hf hv)
  have hb17 := bgo (bgo (bgo HD.out hb5) hb6) hb7
  have hl7 : W.heap.size + 1 < w7.heap.size := Nat.lt_of_lt_of_le (World.block_lt_of_cell? _ _ cs) hb17.size
  have hal := bnew (Below.refl _ w7) (.cells #[.slice none 0 0] 34)
  have hb18 := bgo hb17 hal
  have cs8 := (hb18.cell (p := ⟨W.heap.size + 1, 0, none⟩) (World.block_lt_of_cell? _ _ cs)).trans cs
  have HO := hide (upto36 s.size (by omega) (w7.alloc (.cells #[.slice none 0 0] 34)))
  have BA := hide hal
  have B18 := hide hb18
  have QA := hide (heap_alloc_new w7 (.cells #[.slice none 0 0] 34))
  clear hsv hcall hb17 hal hb18 hb5 hb6 hb7 hv5 t0 t1 t2 t3 t4 hB1
  go_wp2_with fail
  with_reducible refine HO.out.mono ?_
  rintro e w9 ⟨u9, rfl, ⟨s9, rfl, hs9⟩, hb9⟩
  have hN : (revS s).data.toList.length = s.size := by rw [strlen, revS_size]
  rw [← all_mask s.size, ← hN] at hs9
  have HQ := hide (HS.out w9 _ s9 (bgo BA.out hb9) (all_len _) hs9)
  have B9 := hide (bgo B18.out hb9)
  have QA9 := hide ((hb9.block _ (lt_of_block QA.out)).trans QA.out)
  clear hs9 hb9
  go_wp2_with fail
  with_reducible refine HQ.out.mono ?_
  rintro e w10 ⟨u10, rfl, ⟨s10, rfl, hs10⟩, hb10⟩
  have hL : (stepC (mirR r) (revS s).data.toList (allC (revS s).data.toList.length)).length = (revS s).data.toList.length + 1 := stepC_len _ _ _ (all_len _)
  have hm := mask61 (N := (revS s).data.toList.length) (by rw [hN]; omega) hL
  have hbits := offs_bits (f := stepC (mirR r) (revS s).data.toList (allC (revS s).data.toList.length)) (by rw [hL, hN]; omega)
  have hle : ∀ x ∈ bitsL (maskC (stepC (mirR r) (revS s).data.toList (allC (revS s).data.toList.length))), x ≤ s.size := fun x hx => by
    rw [hbits] at hx
    have := on_lt ((offsC_mem _ x).1 hx)
    omega
  obtain ⟨m, hmm⟩ : ∃ m, maskC (stepC (mirR r) (revS s).data.toList (allC (revS s).data.toList.length)) = m := ⟨_, rfl⟩
  rw [revS_list, List.length_reverse] at hbits
  rw [hmm] at hm hs10 hle
  rw [revS_list, List.length_reverse] at hmm
  rw [hmm] at hbits
  have q10 := (hb10.block _ (lt_of_block QA9.out)).trans QA9.out
  have B10 := hide (bgo B9.out hb10)
  have HT10 := hide (HT1.out.below (bgo B9.out hb10))
  have Hs10 := hide hs10
  have Hbits := hide hbits
  have Hle := hide hle
  have c10 := (B10.out.cell (p := ⟨W.heap.size + 1, 0, none⟩) (World.block_lt_of_cell? _ _ cs)).trans cs
  have h710 : w7.heap.size < w10.heap.size := lt_of_block q10
  have hT0 := HT10.out.pos
  obtain ⟨i0, hi, hz0, hz1, hz2⟩ := info_parts info3
  clear hs10 hb10 hL hmm hbits hle
  go_wp2_with fail
  refine (wpIn_wide (n := 8)).1 ?_
  refine range_all (gf := 88) (first := #[.agg #[s10]]) (caps := #[]) rfl (enters_of Tryz.func88 (by kernel_rfl) rfl) (each31 s10 m hm w10 Hs10.out HT10.out) (fun _ => rfl)
    (fun A B C h k => k.trans h) (fun W l o h1 => World.putObj_heap_other (by omega))
    (fun k Wx => ∃ v, Wx.heap[w7.heap.size]? = some (.cells #[v] 34 (0, 0)) ∧ Own Wx (w10.heap.size + 4) 3 v (numCells (natI (((bitsL m).take k).map fun x => s.size - x))) ∧ Below w7.heap.size w10 Wx)
    (fun k A B ⟨v, h1, h2, h4⟩ hb => ⟨v, (hb.block _ (lt_of_block h1)).trans h1, h2.below hb, h4.trans (hb.mono (by have := lt_of_block h1; omega))⟩)
    (fun k A o ⟨v, h1, h2, h4⟩ => ⟨v, (World.putObj_heap_other (by omega)).trans h1, own_put h2 _ _ (fun e => by have := (World.ownsRow.lt h2 _ e).1; omega), below_put h4 _ _ (by omega)⟩)
    ⟨_, q10, by rw [List.take_zero]; exact World.ownsRow_nil _ _ _ _, Below.refl _ _⟩
    (fun x => { tmps := #[.agg #[.int .i64 k, .slice A n c, .int .i64 a, .int .i64 b, .slice B m0 d], .string s, .pointer (some ⟨W.heap.size, 0, none⟩), .pointer (some ⟨W.heap.size + 1, 0, none⟩), .slice none 0 0, .func (.func K) #[] caps, .pointer (some ⟨w7.heap.size, 0, none⟩), .int .i64 (x : Int), .agg #[.int .i64 k, .slice A n c, .int .i64 a, .int .i64 b, .slice B m0 d], v5, .string s, .string (revS s), .func (.func K) #[] caps, .func (.func K) #[] caps, .string s, .int .i64 (s.size : Int), .agg #[s9], .agg #[s10], .func (.func 88) #[.agg #[s10]] #[], .int .i64 (x : Int), undef, undef, undef, undef, undef, undef, undef, undef, undef, undef], defers := [] })
    ?assign ?body ?done
  case assign =>
    intro l x W K hK
    gi_wp2
    exact hK
  case body =>
    rintro l k x Wx hx ⟨v, h1, h2, h4⟩ hsz
    have hxs := Hle.out x (List.mem_of_getElem? hx)
    obtain ⟨y, hy⟩ : ∃ y, s.size - x = y := ⟨_, rfl⟩
    have hyi : (s.size : Int) - (x : Int) = (y : Int) := by omega
    have hlen64 : (bitsL m).length ≤ 64 := by unfold bitsL; exact Nat.le_trans (List.length_filter_le _ _) (by simp)
    have hk : k < 64 := by have := (List.getElem?_eq_some_iff.1 hx).1; omega
    have hkl : (numCells (natI (((bitsL m).take k).map fun x => s.size - x))).length = k := by rw [num_len, natI_len, List.length_map, List.length_take]; have := (List.getElem?_eq_some_iff.1 hx).1; omega
    have hown : (Wx.alloc (.cells #[.int .i64 ((s.size : Int) - (x : Int))] 3)).ownsRow (w10.heap.size + 4) 3 1 v k (numCells (natI (((bitsL m).take k).map fun x => s.size - x))) := by
      have := h2.alloc (.cells #[.int .i64 ((s.size : Int) - (x : Int))] 3)
      unfold Own at this
      rwa [hkl] at this
    have hx2 : numCells (natI (((bitsL m).take k).map fun x => s.size - x)) ++ [.int .i64 ((s.size : Int) - (x : Int))] = numCells (natI (((bitsL m).take (k + 1)).map fun x => s.size - x)) := by
      rw [take_next hx, hyi, List.map_append, List.map_singleton, hy]
      simp [natI, numCells]
    have hfar : ∀ g, v.ownBlock = some g → w10.heap.size + 4 ≤ g := fun g hg => (World.ownsRow.lt h2 g hg).1
    have hb0 := bnew (Below.refl _ Wx) (.cells #[.int .i64 ((s.size : Int) - (x : Int))] 3)
    have c0 := cell_of_one h1
    have cstr := (h4.cell (p := ⟨W.heap.size + 1, 0, none⟩) hl7).trans c10
    have hH := lt_of_block h1
    have hxi : (x : Int) ≤ 60 := by omega
    have hsi : (s.size : Int) ≤ 60 := by omega
    have hxi2 : (x : Int) ≤ (s.size : Int) := by omega
    have H1 := hide h1
    have B4 := hide h4
    have B0 := hide hb0
    have Hx2 := hide hx2
    clear h1 h4 hb0 hx hx2 hy hyi
    gi_wp2_with (gi_at_builtin; refine wpListIn_append_own _ rfl (.tmp 20) (.tmp 25) 34 rfl (w10.heap.size + 4) 3 i0 _ 1 8 Tryz.underlying34 hi hz0 hz1 hz2 rfl (by decide) v k _ rfl hown ⟨Wx.heap.size, 0, none⟩ 1 1 [.int .i64 ((s.size : Int) - (x : Int))] rfl rfl (c1_one _ _ _) (by intro u hu; simp at hu; subst hu; rfl) (by unfold maxLen; omega) (by omega) (by simp; omega) ?_)
    intro v' w' hown' hg _
    obtain ⟨gv, capv, rfl, -, -⟩ := World.ownsRow.form hown' (by omega)
    have hd : Turns (fun q => v.ownBlock = some q) Wx w' := (Turns.of_below B0.out).grown hg fun q hq => hq
    have q1 := (hd.block w7.heap.size hH (fun h => by have := hfar _ h; omega)).trans H1.out
    have c1 := cell_of_one q1
    have f1 := free_of_one q1
    have O' := hide hown'
    have D := hide hd
    have Q1 := hide q1
    clear hown hown' hg hd q1
    gi_wp2
    have hset : ∀ q, q ≠ w7.heap.size → (w'.setCell ⟨w7.heap.size, 0, none⟩ (.slice (some ⟨gv, 0, none⟩) (k + 1) capv)).heap[q]? = w'.heap[q]? := fun q hq => Below.heap_setCell w' ⟨w7.heap.size, 0, none⟩ _ q (by show q ≠ w7.heap.size; exact hq)
    have hbw : Below (w7.heap.size + 1) Wx w' := D.out.below (by omega) fun q h => by have := hfar q h; omega
    refine ⟨⟨by simpa [World.setCell] using D.out.size, fun q h5 h6 => ?_, ?_⟩, _, one_setCell Q1.out, ?_, (B4.out.trans (hbw.mono (by omega))).setCell (Nat.le_refl _) _⟩
    · exact (hset q (by omega)).trans (D.out.block q (by omega) fun h => by have := hfar _ h; omega)
    · exact (hset 0 (by omega)).trans (D.out.block 0 (by omega) fun h => by have := hfar _ h; omega)
    · rw [← Hx2.out]
      unfold Own
      rw [List.length_append, hkl, List.map_take]
      exact ownsRow_setCell_other (a := ⟨w7.heap.size, 0, none⟩) O'.out (own_far O'.out Q1.out (by decide)) _
  case done =>
    rintro Wx ⟨v, h1, h2, h4⟩ hD
    rw [List.take_of_length_le (Nat.le_refl _)] at h2
    have c1 := cell_of_one h1
    have hlen64 : (bitsL m).length ≤ 64 := by unfold bitsL; exact Nat.le_trans (List.length_filter_le _ _) (by simp)
    have HR67 := hide (reverse67 Wx _ v _ h2 (by rw [natI_len, List.length_map]; omega))
    have hfar : ∀ g, v.ownBlock = some g → w10.heap.size + 4 ≤ g := fun g hg => (World.ownsRow.lt h2 g hg).1
    have hGx := lt_of_block h1
    have H1 := hide h1
    have Bw := hide h4
    have D := hide hD
    have hDx : w10.heap.size < Wx.heap.size := (Array.getElem?_eq_some_iff.1 hD).1
    clear h2 h4 hD h1
    go_wp2_with fail
    with_reducible refine HR67.out.mono ?_
    rintro e w12 ⟨rfl, ho12, ht12⟩
    have c12 := cell_of_one ((ht12.block _ hGx (fun h => by have := hfar _ h; omega)).trans H1.out)
    have D12 := hide ((ht12.block _ hDx (fun h => by have := hfar _ h; omega)).trans D.out)
    have O12 := hide ho12
    have B12 := hide (((bgo B1.out B10.out).trans (Bw.out.mono (by omega))).trans (ht12.below (n := W.heap.size) (by omega) fun q h => by have := hfar q h; omega))
    clear ho12 ht12
    go_wp2
    refine ⟨by simp, .inl ⟨_, _, rfl, run_takeDeferred D12.out, ?_⟩⟩
    have hb := below_put B12.out w10.heap.size (.deferred none) (by omega)
    refine ⟨v, results_tmp (t := 4) rfl _ _ _, v, rfl, ?_, hb⟩
    rw [← Hbits.out]
    have e : natI ((bitsL m).map fun x => s.size - x).reverse = (natI ((bitsL m).map fun x => s.size - x)).reverse := by simp [natI]
    rw [e]
    refine owns_mono (own_put O12.out _ _ fun e => ?_) (show W.heap.size ≤ w10.heap.size + 4 by omega)
    have := (World.ownsRow.lt O12.out _ e).1
    omega
end Go.Proofs.YtlnbjdlooghpeaaGreatDoor
namespace Go.Proofs.YtlnbjdlooghpeaaGreatDoor
open Go.RowKit
open Go.ChangeShapes (block_add)
def AllMirror : Prop := ∀ r : Rx, nodeR r = 0 → sizeR r ≤ 1000000 → Mirrors r
theorem begins_at (hM : AllMirror) (s : ByteArray) (hs : s.size ≤ 60) (r : Rx) (h0 : rightR r = 0) (W : World) (ok : Nat → Prop) (v : Value) (hv : RxV W ok v r) (hT : HasT W) :
    Calls Tryz.prog 45 #[v, .string s] W (GrewI W (natI (bgsC r s.data.toList))) := by
  obtain ⟨hn, hsz⟩ := right_nodeB h0
  have h := begin34 s hs r (hM r hn (by omega)) (step29 (revS s) (by rw [revS_size]; exact hs) (mirR r) (node_mir r hn) (by rw [mir_size]; omega)) W ok v hv hT
  rw [← bgs_is r s.data.toList hn (allC s.data.toList.length) (all_len _) (fun j => all_on _ j)]
  rw [← strlen s] at h
  exact h
theorem bgs_len (r : Rx) (s : List UInt8) : (bgsC r s).length ≤ s.length + 1 := by
  unfold bgsC
  exact Nat.le_trans (List.length_filter_le _ _) (by simp)
theorem natI_at {l : List Nat} {k a : Nat} (h : l[k]? = some a) : (natI l)[k]? = some (a : Int) := by simp [natI, h]
def findV : Option (Nat × Nat) → Value
  | some (a, b) => .tuple #[.agg #[.int .i64 (a : Int), .int .i64 (b : Int)], .bool true]
  | none => .tuple #[.agg #[.int .i64 0, .int .i64 0], .bool false]
theorem res_pair {fn : Func} (h : fn.results = #[.cell 6 48, .tmp 7]) (tmps : Array Value) (W : World) (b : Nat) (x y z : Value) (hp : tmps.getD 6 undef = .pointer (some ⟨b, 0, none⟩)) (hz : tmps.getD 7 undef = z) (hf : W.heap[b]? = some (.cells #[x, y] 48 (0, 0))) :
    (results fn tmps).run Tryz.prog W = .ok (.tuple #[.agg #[x, y], z]) W := by
  have hp' : tmps[6]?.getD undef = .pointer (some ⟨b, 0, none⟩) := by simpa using hp
  have hz' : tmps[7]?.getD undef = z := by simpa using hz
  simp [results, h, hp', hz', asAddr, load_two32 hf]
set_option maxRecDepth 100000 in
set_option maxHeartbeats 4000000 in
theorem find14 (hM : AllMirror) (s : ByteArray) (hs : s.size ≤ 60) (r : Rx) (h1 : sizeR r ≤ 1000000) (h2 : depthR r ≤ 1000000) (from_ : Int) (W : World) (ok : Nat → Prop) (v : Value) (hv : RxV W ok v r) (hT : HasT W) :
    Calls Tryz.prog 20 #[v, .string s, .int .i64 from_] W fun e w' => e = .returned (findV (findP r s.data.toList from_)) ∧ Below W.heap.size W w' := by
  have hlen := strlen s
  have hv0 := hv
  cases hv with
  | mk k a b A B n c m d set vs l hset hvs hl hk ha hb hr =>
  have hB := bnew (bnew (Below.refl _ W) (.cells #[.int .i64 k, .slice A n c, .int .i64 a, .int .i64 b, .slice B m d] 25)) (.cells #[.int .i64 0, .int .i64 0] 48)
  obtain ⟨W1, hW1⟩ : ∃ W1, (W.alloc (.cells #[.int .i64 k, .slice A n c, .int .i64 a, .int .i64 b, .slice B m d] 25)).alloc (.cells #[.int .i64 0, .int .i64 0] 48) = W1 := ⟨_, rfl⟩
  have f1 : Five ((W.alloc (.cells #[.int .i64 k, .slice A n c, .int .i64 a, .int .i64 b, .slice B m d] 25)).alloc (.cells #[.int .i64 0, .int .i64 0] 48)) W.heap.size (.int .i64 k) (.slice A n c) (.int .i64 a) (.int .i64 b) (.slice B m d) := (five_new W _ _ _ _ _ 25).keep (bnew (Below.refl _ _) _)
  have q1 : W1.heap[W.heap.size + 1]? = some (.cells #[.int .i64 0, .int .i64 0] 48 (0, 0)) := by
    rw [← hW1]
    have := heap_alloc_new (W.alloc (.cells #[.int .i64 k, .slice A n c, .int .i64 a, .int .i64 b, .slice B m d] 25)) (.cells #[.int .i64 0, .int .i64 0] 48)
    rw [World.size_alloc] at this
    exact this
  rw [hW1] at hB
  obtain ⟨r, hr'⟩ : ∃ r, Rx.mk k set a b l = r := ⟨_, rfl⟩
  rw [hr'] at hv0 h1 h2 ⊢
  have V1 := hide (hv0.kept hB)
  have B1 := hide hB
  have HT1 := hide (hT.below hB)
  have HR := hide (pright27 V1.out h1 h2)
  have HW1 := hide hW1
  have F1 := hide (hW1 ▸ f1)
  have Q1 := hide q1
  obtain ⟨_, t0, t1, t2, t3, t4⟩ := f1
  obtain ⟨q, hq⟩ : ∃ q, rightR r = q := ⟨_, rfl⟩
  rw [hq] at HR
  clear hset hvs hl hk ha hb hr hB hv0 hT hr' hW1 q1
  by_cases c3 : q = 0
  · have hne : (q != 0) = false := int_eq c3
    subst c3
    have Hq := hide hq
    clear hq
    go_enter Tryz.func20, Tryz.ntmps20
    go_wp2_with fail
    rw [HW1.out]
    with_reducible refine HR.out.mono ?_
    rintro e w2 ⟨rfl, hb2⟩
    have HB := hide (begins_at hM s hs r Hq.out w2 ok _ (V1.out.kept hb2) (HT1.out.below hb2))
    have B2 := hide (bgo B1.out hb2)
    have B12 := hide hb2
    clear t0 t1 t2 t3 t4
    obtain ⟨_, t0, t1, t2, t3, t4⟩ := F1.out.keep hb2
    clear hb2
    go_wp2_with fail
    with_reducible refine HB.out.mono ?_
    rintro e w3 hgr
    obtain ⟨Ab, nb, cb, rfl, hnb, hslb, hb3⟩ := hgr.sl
    have hb13 := B12.out.trans (hb3.mono B12.out.size)
    have hbl := bgs_len r s.data.toList
    have hnb' : nb = (bgsC r s.data.toList).length := by rw [hnb, natI_len]
    have Sl3 := hide hslb
    have B3 := hide (bgo B2.out hb3)
    have B13 := hide hb13
    have F3 := F1.out.keep hb13
    clear t0 t1 t2 t3 t4
    obtain ⟨_, t0, t1, t2, t3, t4⟩ := F3
    have Q3 := hide ((hb13.block _ (lt_of_block Q1.out)).trans Q1.out)
    have q3 := two_cell Q3.out
    clear hgr hslb hb3 hb13 hnb
    go_wp2
    go_loopw [18] (fun y wr => ∃ i : Nat, i ≤ nb ∧ y = .int .i64 (i : Int) ∧ (∀ x ∈ (bgsC r s.data.toList).take i, (x : Int) < from_) ∧ wr = w3) (fun y _ => nb - (intOf y).toNat)
    case atStart => exact ⟨0, Nat.zero_le _, rfl, fun x hx => (by simp at hx), rfl⟩
    case round =>
      obtain ⟨i, hi, rfl, hlow, rfl⟩ := hrel
      have Hlow := hide hlow
      by_cases hlt : i < nb
      · obtain ⟨ad, z, rfl, hz, hcell⟩ := num_cell Sl3.out.reads hlt
        obtain ⟨x, hx⟩ : ∃ x, (bgsC r s.data.toList)[i]? = some x := ⟨_, List.getElem?_eq_getElem (by omega)⟩
        have hzx : z = (x : Int) := by
          have := natI_at hx
          rw [hz] at this
          exact Option.some.inj this
        subst hzx
        have hxs := ((bgs_mem r s.data.toList x).1 (List.mem_of_getElem? hx)).1
        rw [hlen] at hxs
        have Hx := hide hx
        have hd : decide ((i : Int) < (nb : Int)) = true := decide_eq_true (by omega)
        have hd2 : decide (i < nb) = true := decide_eq_true hlt
        clear hlow hx hz
        by_cases hge : from_ ≤ (x : Int)
        · have hd3 : decide (from_ ≤ (x : Int)) = true := decide_eq_true hge
          have hres := find_at r s.data.toList Hq.out from_ i x Hx.out Hlow.out hge
          have Hres := hide hres
          have HM := hide (step29 s hs r (right_nodeB Hq.out).1 (by have := (right_nodeB Hq.out).2; omega) wr ok _ (V1.out.kept B13.out) (HT1.out.below B13.out))
          clear hres
          go_wp2_with fail
          with_reducible refine HM.out.mono ?_
          rintro e w5 ⟨sv, rfl, hsv, hb5⟩
          have hf : (stepC r s.data.toList (onlyC s.data.toList.length x)).length = s.data.toList.length + 1 := stepC_len r _ _ (only_len _ _)
          have HL := hide (longest35 s.data.toList.length x (by rw [hlen]; omega) (by rw [hlen]; omega) _ hf sv w5 (hsv.ok (Kept.of (Below.refl _ w5))) ((HT1.out.below B13.out).below hb5))
          have Q5 := hide ((hb5.block _ (lt_of_block Q3.out)).trans Q3.out)
          have B5 := hide (bgo B3.out hb5)
          clear hsv hb5 hf
          go_wp2_with fail
          with_reducible refine HL.out.mono ?_
          rintro e w6 ⟨rfl, hb6⟩
          have Q6 := hide ((hb6.block _ (lt_of_block Q5.out)).trans Q5.out)
          obtain ⟨z0, z1, g0, g1⟩ := two_cell Q6.out
          have B6 := hide (bgo B5.out hb6)
          clear hb6
          go_wp2
          refine bodyPost_ret (res_pair rfl _ _ (W.heap.size + 1) _ _ _ rfl rfl (two_set (two_set0 Q6.out))) rfl ⟨?_, ?_⟩
          · rw [Hres.out]; rfl
          · exact (B6.out.setCell (by show W.heap.size ≤ W.heap.size + 1; omega) _).setCell (by show W.heap.size ≤ W.heap.size + 1; omega) _
        · have hd3 : decide (from_ ≤ (x : Int)) = false := decide_eq_false hge
          go_wp2
          go_roundw
          case rel =>
            refine ⟨i + 1, by omega, by go_num, fun y hy => ?_, trivial⟩
            rw [take_next Hx.out, List.mem_append, List.mem_singleton] at hy
            rcases hy with hy | rfl
            · exact Hlow.out y hy
            · omega
          case measure => simp [intOf]; omega
      · obtain rfl : i = nb := by omega
        have hres := find_none r s.data.toList from_ (by rw [List.take_of_length_le (by omega)] at hlow; exact hlow)
        have Hres := hide hres
        obtain ⟨z0, z1, g0, g1⟩ := q3
        clear hres hlow
        go_wp2
        refine bodyPost_ret (res_pair rfl _ _ (W.heap.size + 1) _ _ _ rfl rfl (two_set (two_set0 Q3.out))) rfl ⟨?_, ?_⟩
        · rw [Hres.out]; rfl
        · exact (B3.out.setCell (by show W.heap.size ≤ W.heap.size + 1; omega) _).setCell (by show W.heap.size ≤ W.heap.size + 1; omega) _
  · have hne : (q != 0) = true := int_ne c3
    have he : findP r s.data.toList from_ = none := by unfold findP; rw [if_neg (by omega)]
    rw [he]
    clear he hq
    go_enter Tryz.func20, Tryz.ntmps20
    go_wp2_with fail
    rw [HW1.out]
    with_reducible refine HR.out.mono ?_
    rintro e w2 ⟨rfl, hb2⟩
    have B2 := hide (bgo B1.out hb2)
    have Q2 := hide ((hb2.block _ (lt_of_block Q1.out)).trans Q1.out)
    obtain ⟨z0, z1, g0, g1⟩ := two_cell Q2.out
    clear hb2
    go_wp2
    refine bodyPost_ret (res_pair rfl _ _ (W.heap.size + 1) _ _ _ rfl rfl (two_set (two_set0 Q2.out))) rfl ⟨rfl, ?_⟩
    exact (B2.out.setCell (by show W.heap.size ≤ W.heap.size + 1; omega) _).setCell (by show W.heap.size ≤ W.heap.size + 1; omega) _
end Go.Proofs.YtlnbjdlooghpeaaGreatDoor
namespace Go.Proofs.YtlnbjdlooghpeaaGreatDoor
open Go.RowKit
open Go.ChangeShapes (block_add)
theorem info32 : (Tryz.prog.info? 48).map (fun i => (i.zero, i.size, i.bytes)) = some (some (.agg #[.int .i64 0, .int .i64 0]), 2, 16) := by kernel_rfl
def spanC (l : List (Nat × Nat)) : List Value := l.flatMap fun p => [.int .i64 (p.1 : Int), .int .i64 (p.2 : Int)]
theorem spanC_snoc (l : List (Nat × Nat)) (a b : Nat) : spanC l ++ [.int .i64 (a : Int), .int .i64 (b : Int)] = spanC (l ++ [(a, b)]) := by simp [spanC]
def OwnSY (w : World) (B : Nat) (v : Value) (l : List (Nat × Nat)) : Prop := w.ownsRow B 48 2 v l.length (spanC l)
theorem pair_at (w : World) (x y : Value) (T : TypeId) : ∀ (j : Nat) (u : Value), [x, y][j]? = some u → (w.alloc (.cells #[x, y] T)).cell? ((⟨w.heap.size, 0, none⟩ : Addr).add j) = some u := by
  intro j u h
  match j, h with
  | 0, h => simp at h; subst h; rw [addr0, World.cell?_alloc_mark]; rfl
  | 1, h => simp at h; subst h; rw [addr0, World.cell?_alloc_mark]; rfl
set_option maxRecDepth 100000 in
set_option maxHeartbeats 4000000 in
theorem all21 (hM : AllMirror) (s : ByteArray) (hs : s.size ≤ 60) (r : Rx) (h1 : sizeR r ≤ 1000000) (h2 : depthR r ≤ 1000000) (W : World) (ok : Nat → Prop) (v : Value) (hv : RxV W ok v r) (hT : HasT W) :
    Calls Tryz.prog 15 #[v, .string s] W fun e w' => ∃ u, e = .returned u ∧ OwnSY w' W.heap.size u (allP r s.data.toList) ∧ Below W.heap.size W w' := by
  obtain ⟨i0, hi, hz0, hz1, hz2⟩ := info_parts info32
  have hlen := strlen s
  have hv0 := hv
  cases hv with
  | mk k a b A B n c m d set vs l hset hvs hl hk ha hb hr =>
  have hB := bnew (Below.refl _ W) (.cells #[.int .i64 k, .slice A n c, .int .i64 a, .int .i64 b, .slice B m d] 25)
  have F := hide (five_new W (.int .i64 k) (.slice A n c) (.int .i64 a) (.int .i64 b) (.slice B m d) 25)
  have V := hide (hv0.kept hB)
  have BB := hide hB
  have HT := hide (hT.below hB)
  obtain ⟨_, t0, t1, t2, t3, t4⟩ := F.out
  obtain ⟨r, hr'⟩ : ∃ r, Rx.mk k set a b l = r := ⟨_, rfl⟩
  rw [hr'] at V h1 h2 ⊢
  clear hset hvs hl hk ha hb hr hB hv0 hT hr'
  have HR := hide (pright27 V.out h1 h2)
  obtain ⟨q, hq⟩ : ∃ q, rightR r = q := ⟨_, rfl⟩
  rw [hq] at HR
  by_cases c3 : q = 0
  · have hne : (q != 0) = false := int_eq c3
    subst c3
    have Hq := hide hq
    have Hn := hide (right_nodeB hq)
    clear hq
    have HM := hide (step29 s hs r Hn.out.1 (by have := Hn.out.2; omega))
    go_enter Tryz.func15, Tryz.ntmps15
    go_wp2_with fail
    with_reducible refine HR.out.mono ?_
    rintro e w2 ⟨rfl, hb2⟩
    have B2 := hide (bgo BB.out hb2)
    have B02 := hide hb2
    have HC := hide (HM.out w2 ok _ (V.out.kept hb2) (HT.out.below hb2))
    clear t0 t1 t2 t3 t4
    obtain ⟨_, t0, t1, t2, t3, t4⟩ := F.out.keep hb2
    clear hb2
    go_wp2_with fail
    with_reducible refine HC.out.mono ?_
    rintro e w3 ⟨sv, rfl, hsv, hb3⟩
    have hb03 := bgo B02.out hb3
    have Hst := hide (hsv.ok (Kept.of (Below.refl _ w3)))
    have HG := hide (begins_at hM s hs r Hq.out w3 ok _ (V.out.kept hb03) (HT.out.below hb03))
    have HT3 := hide (HT.out.below hb03)
    have B3 := hide (bgo B2.out hb3)
    clear t0 t1 t2 t3 t4
    obtain ⟨_, t0, t1, t2, t3, t4⟩ := F.out.keep hb03
    clear hsv hb3 hb03
    go_wp2_with fail
    with_reducible refine HG.out.mono ?_
    rintro e w4 hgr
    obtain ⟨Ab, nb, cb, rfl, hnb, hslb, hb4⟩ := hgr.sl
    have hbl := bgs_len r s.data.toList
    have hnb' : nb = (bgsC r s.data.toList).length := by rw [hnb, natI_len]
    have Sl4 := hide hslb
    have B4 := hide (bgo B3.out hb4)
    have St4 := hide (Hst.out.below hb4)
    have HT4 := hide (HT3.out.below hb4)
    clear hgr hslb hb4 hnb t0 t1 t2 t3 t4
    go_wp2
    go_loopw [5, 7, 21] (fun u f y wr => ∃ (i : Nat) (p : List (Nat × Nat) × Nat), i ≤ nb ∧ y = .int .i64 (i : Int) ∧ f = .int .i64 (p.2 : Int) ∧ ((bgsC r s.data.toList).take i).foldl (stepA r s.data.toList) ([], 0) = p ∧ p.1.length ≤ i ∧ p.2 ≤ s.size ∧ OwnSY wr w4.heap.size u p.1 ∧ Below w4.heap.size w4 wr)
      (fun _ _ y _ => nb - (intOf y).toNat)
    case atStart => exact ⟨0, ([], 0), Nat.zero_le _, rfl, rfl, rfl, Nat.le_refl _, Nat.zero_le _, World.ownsRow_nil _ _ _ _, Below.refl _ _⟩
    case round =>
      obtain ⟨i, p, hib, rfl, rfl, hp, hpl, hpf, hown, hbel⟩ := hrel
      obtain ⟨w5, hw5⟩ : ∃ w5, w5 = wr := ⟨wr, rfl⟩
      subst hw5
      by_cases hlt : i < nb
      · obtain ⟨ad, z, rfl, hz, hcell0⟩ := num_cell Sl4.out.reads hlt
        have hcell := (hbel.cell (p := ad.add i) (World.block_lt_of_cell? _ _ hcell0)).trans hcell0
        obtain ⟨x, hx⟩ : ∃ x, (bgsC r s.data.toList)[i]? = some x := ⟨_, List.getElem?_eq_getElem (by omega)⟩
        have hzx : z = (x : Int) := by
          have := natI_at hx
          rw [hz] at this
          exact Option.some.inj this
        subst hzx
        have hxm := List.mem_of_getElem? hx
        have hxs := ((bgs_mem r s.data.toList x).1 hxm).1
        rw [hlen] at hxs
        have Hx := hide hx
        have Hp := hide hp
        have hd : decide ((i : Int) < (nb : Int)) = true := decide_eq_true (by omega)
        have hd2 : decide (i < nb) = true := decide_eq_true hlt
        have O := hide hown
        have B5 := hide hbel
        by_cases hge : x < p.2
        · have hd3 : decide ((x : Int) < (p.2 : Int)) = true := decide_eq_true (by omega)
          have hd4 : decide (x < p.2) = true := decide_eq_true hge
          clear hx hp hz hown hbel hcell0
          go_wp2
          go_roundw
          case rel =>
            refine ⟨i + 1, p, by omega, by go_num, rfl, ?_, by omega, hpf, O.out, B5.out⟩
            rw [take_next Hx.out, List.foldl_append, Hp.out]
            show stepA r s.data.toList p x = p
            unfold stepA
            rw [if_pos hge]
          case measure => simp [intOf]; omega
        · have hd3 : decide ((x : Int) < (p.2 : Int)) = false := decide_eq_false (by omega)
          have hd4 : decide (x < p.2) = false := decide_eq_false hge
          have hf : (stepC r s.data.toList (onlyC s.data.toList.length x)).length = s.data.toList.length + 1 := stepC_len r _ _ (only_len _ _)
          obtain ⟨hl1, hl2⟩ := last_ge r s.data.toList Hn.out.1 x hxm
          rw [hlen] at hl2
          have HL := hide (show Calls Tryz.prog 46 #[sv, .int .i64 (x : Int)] w5 fun e w' => e = .returned (.agg #[.int .i64 (x : Int), .int .i64 (lastE r s.data.toList x : Nat)]) ∧ Below w5.heap.size w5 w' from
            longest35 s.data.toList.length x (by rw [hlen]; omega) (by rw [hlen]; omega) _ hf sv w5 (St4.out.below hbel) (HT4.out.below hbel))
          obtain ⟨b, hb⟩ : ∃ b, lastE r s.data.toList x = b := ⟨_, rfl⟩
          rw [hb] at HL hl1 hl2
          have Hb := hide hb
          have hw4 := hbel.size
          clear hx hp hz hown hbel hcell0 hf hb
          go_wp2_with fail
          with_reducible refine HL.out.mono ?_
          rintro e w6 ⟨rfl, hb6⟩
          obtain ⟨w7, hw7⟩ : ∃ w7, w6.alloc (.cells #[.int .i64 (x : Int), .int .i64 (b : Int)] 48) = w7 := ⟨_, rfl⟩
          have b67 : Below w6.heap.size w6 w7 := by rw [← hw7]; exact bnew (Below.refl _ _) _
          have q7 : w7.heap[w6.heap.size]? = some (.cells #[.int .i64 (x : Int), .int .i64 (b : Int)] 48 (0, 0)) := by rw [← hw7]; exact heap_alloc_new _ _
          obtain ⟨z0, z1, -, -⟩ := two_cell (hw7 ▸ q7 : (w6.alloc (.cells #[.int .i64 (x : Int), .int .i64 (b : Int)] 48)).heap[w6.heap.size]? = _)
          have b57 := bgo hb6 b67
          have hown7 := owns_below' O.out b57
          have HW7 := hide hw7
          have Q7 := hide q7
          have B57 := hide b57
          have hw45 := B57.out.size
          have hsz6 := hb6.size
          have hw45' : w4.heap.size ≤ w7.heap.size := Nat.le_trans hw4 hw45
          clear hw7 b67 q7 b57 hb6
          go_upto_region 11 with fail
          rw [HW7.out]
          rw [HW7.out] at z0 z1
          have hown8 := hown7.alloc (.cells #[.int .i64 (x : Int), .int .i64 (b : Int)] 48)
          go_wp2_with (at_builtin; refine wpList_append_own _ rfl (.tmp 31) (.tmp 33) 42 rfl w4.heap.size 48 i0 _ 2 16 Tryz.underlying42 hi hz0 hz1 hz2 rfl (by decide) _ _ _ rfl hown8 ⟨w7.heap.size, 0, none⟩ 1 1 [.int .i64 (x : Int), .int .i64 (b : Int)] rfl rfl (pair_at _ _ _ _) (c2_two _ _ _) (by unfold maxLen; omega) (by omega) (by simp; omega) ?_)
          intro v' w8 hown' hg _
          have hlow : ∀ q, u5.ownBlock = some q → w4.heap.size ≤ q ∧ q < w5.heap.size := fun q hq => World.ownsRow.lt O.out q hq
          have hd : Turns (fun q => u5.ownBlock = some q) w7 w8 := (Turns.of_below (bnew (Below.refl _ w7) (.cells #[.int .i64 (x : Int), .int .i64 (b : Int)] 48))).grown hg fun q hq => hq
          have h6l := lt_of_block Q7.out
          have h56 : w5.heap.size ≤ w6.heap.size := hsz6
          have q8 := (hd.block w6.heap.size h6l (fun h => by have := (hlow _ h).2; omega)).trans Q7.out
          obtain ⟨y0, y1, -, -⟩ := two_cell q8
          have O8 := hide hown'
          have B8 := hide ((B5.out.trans (B57.out.mono hw4)).trans (hd.below hw45' fun q h => (hlow q h).1))
          clear hown7 hown8 hown' hg hd q8 z0 z1
          go_wp2
          go_roundw
          case rel =>
            refine ⟨i + 1, (p.1 ++ [(x, b)], b), by omega, by go_num, rfl, ?_, by simp; omega, hl2, ?_, B8.out⟩
            · rw [take_next Hx.out, List.foldl_append, Hp.out]
              show stepA r s.data.toList p x = _
              unfold stepA
              rw [if_neg hge, Hb.out]
            · unfold OwnSY
              rw [← spanC_snoc, List.length_append]
              exact O8.out
          case measure => simp [intOf]; omega
      · obtain rfl : i = nb := by omega
        rw [List.take_of_length_le (by omega), ] at hp
        have hres : p.1 = allP r s.data.toList := by rw [← all_is r s.data.toList Hq.out Hn.out.1, hp]
        have Hres := hide hres
        have O := hide hown
        have B5 := hide (B4.out.trans (hbel.mono B4.out.size))
        clear hres hp hown hbel
        go_wp2
        go_ret
        refine ⟨_, rfl, ?_, B5.out⟩
        rw [← Hres.out]
        exact owns_mono O.out B4.out.size
  · have hne : (q != 0) = true := int_ne c3
    have he := all_bad r s.data.toList (by omega)
    rw [he]
    clear he hq
    go_enter Tryz.func15, Tryz.ntmps15
    go_wp2_with fail
    with_reducible refine HR.out.mono ?_
    rintro e w2 ⟨rfl, hb2⟩
    have B2 := hide (bgo BB.out hb2)
    clear hb2
    go_wp2
    go_ret
    exact ⟨_, rfl, World.ownsRow_nil _ _ _ _, B2.out⟩
end Go.Proofs.YtlnbjdlooghpeaaGreatDoor
namespace Go.Proofs.YtlnbjdlooghpeaaGreatDoor
open Go.RowKit Go.Shelf
open Go.ChangeShapes (block_add)
theorem backward81 (B : Option Addr) (m d : Nat) (W : World) : Calls Tryz.prog 121 #[.slice B m d] W fun e w' => e = .returned (.func (.func 148) #[] #[.pointer (some ⟨W.heap.size, 0, none⟩)]) ∧ w' = W.alloc (.cells #[.slice B m d] 23) := by
  go_enter Tryz.func121, Tryz.ntmps121
  go_wp2
  go_ret
  exact ⟨rfl, rfl⟩
end Go.Proofs.YtlnbjdlooghpeaaGreatDoor
