/- TopRegex: Pd. -/
import Derived.Test.YtlnbjdlooghpeaaGreatDoorTPb
import Derived.Test.YtlnbjdlooghpeaaGreatDoorTNp
namespace Go.Proofs.YtlnbjdlooghpeaaGreatDoor
open Go.RowKit
open Go.Lib (byteCells byteCells_append)
def head4 (k g : Int) : List UInt8 := [UInt8.ofNat k.toNat, UInt8.ofNat (g.toNat / 65536), UInt8.ofNat (g.toNat / 256), UInt8.ofNat g.toNat]
theorem key_head (k g : Int) (l : List Nd) : keyN (.mk k g l) = head4 k g ++ keyNL l ++ [0] := by rw [keyN_mk]; rfl
theorem head_cells {k g : Int} (h : 1 ≤ k ∧ k ≤ 5 ∧ 0 ≤ g ∧ g < 16777216) : [Value.int .u8 k, Value.int .u8 (g / 65536), Value.int .u8 (g / 256 % 256), Value.int .u8 (g % 256)] = byteCells (head4 k g) := by
  have key : ∀ (n : Nat) (z : Int), z = ((n % 256 : Nat) : Int) → Value.int .u8 z = Value.int .u8 ((UInt8.ofNat n).toNat : Int) := fun n z h => by rw [h]; simp
  show _ = [Value.int .u8 ((UInt8.ofNat k.toNat).toNat : Int), Value.int .u8 ((UInt8.ofNat (g.toNat / 65536)).toNat : Int), Value.int .u8 ((UInt8.ofNat (g.toNat / 256)).toNat : Int), Value.int .u8 ((UInt8.ofNat g.toNat).toNat : Int)]
  rw [key k.toNat k (by omega), key (g.toNat / 65536) (g / 65536) (by omega), key (g.toNat / 256) (g / 256 % 256) (by omega), key g.toNat (g % 256) (by omega)]
theorem keyNL_take {l : List Nd} {i : Nat} {x : Nd} (h : l[i]? = some x) : keyNL (l.take (i + 1)) = keyNL (l.take i) ++ keyN x := by
  rw [takeN h, keyNL_app]
  simp [keyNL]
theorem info5 : (Tryz.prog.info? 5).map (fun i => (i.zero, i.size, i.bytes)) = some (some (.int .u8 0), 1, 1) := by kernel_rfl
theorem far_cell {W W' : World} {v v' : Value} (h : Far W W' v v') {p : Addr} {u : Value} (hc : W.cell? p = some u) (hn : v.ownBlock ≠ some p.block) : W'.cell? p = some u :=
  (World.cell?_of_block (w := W) (h.2 p.block (World.block_lt_of_cell? _ _ hc) hn).1).trans hc
theorem ndv_far {W W' : World} {v v' u : Value} {r : Nd} (h : NdV W (fun g => v.ownBlock ≠ some g) u r) (hF : Far W W' v v') : NdV W' (fun g => v'.ownBlock ≠ some g) u r :=
  h.map (fun p hp hlt => World.cell?_of_block (hF.2 p.block hlt hp).1) fun g hg hlt => (hF.2 g hlt hg).2
def KeyG (W : World) (B : Nat) (kv : Value) (key : List UInt8) (e : Ending) (w' : World) : Prop := ∃ kv', e = .returned kv' ∧ Own w' B 5 kv' (byteCells key) ∧ Below B W w' ∧ Far W w' kv kv'
set_option maxRecDepth 20000 in
set_option maxHeartbeats 6400000 in
theorem key79 : ∀ (r : Nd), WfN r → sizeN r ≤ 1000000 → ∀ (W : World) (B : Nat) (kv v : Value) (key : List UInt8), NdV W (fun g => kv.ownBlock ≠ some g) v r → Own W B 5 kv (byteCells key) → B ≤ W.heap.size → key.length + 5 * sizeN r ≤ 1000000000 →
    Calls Tryz.prog 107 #[kv, v] W (KeyG W B kv (key ++ keyN r)) := by
  intro r
  induction r using Nd.ind with
  | h k g l ih =>
    intro hwf hsz W B kv v key hv hown hBW hkl
    obtain ⟨k', g', A, m, d, rfl, hk', hg', hm', hmd, hdd, hkk, hgg⟩ := ndv_shape hv
    simp only [Nd.kind, Nd.gram, Nd.subs] at hk' hg' hm'
    subst hk' hg'
    have hrg := wf_range hwf
    simp only [Nd.kind, Nd.gram] at hrg
    have hb := bel_alloc W (.cells #[.int .i64 k', .int .i64 g', .slice A m d] 32)
    obtain ⟨_, t0, t1, t2⟩ := tri3_alloc W k' g' A m d 32
    obtain ⟨i0, hi0, hz0, hz1, hz2⟩ := info_parts info5
    have hml : l.length = m := hm'.symm
    have hszl : sizeNL l + 1 = sizeN (.mk k' g' l) := by rw [sizeN_mk]; omega
    have hm6 : m ≤ 1000000 := by have := sizeNL_len l; omega
    have HK := hide (key_head k' g' l)
    have HH := hide (head_cells hrg)
    have hhl : (head4 k' g').length = 4 := rfl
    obtain ⟨hd, hhd⟩ : ∃ hd, head4 k' g' = hd := ⟨_, rfl⟩
    rw [hhd] at HK HH hhl
    obtain ⟨w1, hw1⟩ : ∃ w1, W.alloc (.cells #[.int .i64 k', .int .i64 g', .slice A m d] 32) = w1 := ⟨_, rfl⟩
    have hb2 : Below W.heap.size W (w1.alloc (.cells #[.int .u8 k', .int .u8 (g' / 65536), .int .u8 (g' / 256 % 256), .int .u8 (g' % 256)] 5)) := bgo (by rw [← hw1]; exact hb) (bel_alloc w1 _)
    have hs2 := lit_sl w1 #[.int .u8 k', .int .u8 (g' / 65536), .int .u8 (g' / 256 % 256), .int .u8 (g' % 256)] 5 (byteCells hd) 4 HH.out (by rw [bytes_size]; exact hhl) (by omega)
    obtain ⟨w2, hw2⟩ : ∃ w2, w1.alloc (.cells #[.int .u8 k', .int .u8 (g' / 65536), .int .u8 (g' / 256 % 256), .int .u8 (g' % 256)] 5) = w2 := ⟨_, rfl⟩
    have hsz1 : w1.heap.size = W.heap.size + 1 := by rw [← hw1]; simp
    rw [hw2] at hb2 hs2
    rw [hsz1] at hs2
    have O2 := hide (hown.below hb2)
    have S2 := hide hs2
    have V2 := hide (hv.kept hb2).subs
    have F2 := hide (Far.of_below (v := kv) hb2)
    have B2 := hide (hb2.mono hBW)
    have Hno := hide (show kv.ownBlock ≠ some W.heap.size from fun e => by have := (hown.lt _ e).2; omega)
    have t2' : w2.cell? ⟨W.heap.size, 2, none⟩ = some (.slice A m d) := by
      rw [← hw2]
      exact ((bel_alloc w1 _).cell (by rw [hsz1]; exact Nat.lt_succ_self _)).trans (by rw [← hw1]; exact t2)
    have T2 := hide t2'
    have hs2' : B ≤ w2.heap.size := Nat.le_trans hBW hb2.size
    have IH := hide ih
    have WF := hide (wf_subs hwf)
    have hkey5 : (byteCells key).length ≤ 1000000000 := by rw [bytes_size]; omega
    rw [hw1] at t0 t1 t2
    clear hm' ih hv hown hb hb2 hs2 hhd hwf t2'
    go_enter Tryz.func107, Tryz.ntmps107
    go_wp2_with (first
      | (at_builtin; refine wp_join_far (by rfl) (.tmp 7) (.tmp 22) 129 (by rfl) 5 i0 _ 1 Tryz.underlying129 hi0 hz0 hz1 hz2 rfl B kv (byteCells key) (by rfl) w2 O2.out hs2' (some ⟨W.heap.size + 1, 0, none⟩) 4 4 (byteCells hd) (by rfl) S2.out (bytes_one _) (by omega) (by unfold maxLen; omega) ?_; intro kv3 w3 hown3 hb3 hF3; have hc2 := far_cell hF3 T2.out Hno.out)
      | fail)
    have O3 := hide hown3
    have B3 := hide (B2.out.trans hb3)
    have F3 := hide (F2.out.trans hF3)
    have V3 := hide (ndv_far V2.out hF3)
    have hB3 : B ≤ w3.heap.size := Nat.le_trans hs2' hb3.size
    rw [← byteCells_append] at hown3
    clear hown3 hb3 hF3 hc2
    go_loopw [0, 27] (fun y0 y27 wr => ∃ (i : Nat) (kvi : Value), i ≤ m ∧ y27 = .int .i64 (i : Int) ∧ kvi = y0 ∧ Own wr B 5 kvi (byteCells (key ++ hd ++ keyNL (l.take i))) ∧ NsV wr (fun g => kvi.ownBlock ≠ some g) A m d l ∧ Far W wr kv kvi ∧ Below B W wr) (fun _ y27 _ => m - (intOf y27).toNat)
    case atStart => exact ⟨0, kv3, Nat.zero_le _, rfl, rfl, by rw [List.take_zero, keyNL, List.append_nil, byteCells_append]; exact O3.out, V3.out, F3.out, B3.out⟩
    case round =>
      obtain ⟨i, kvi, hi, rfl, rfl, ho, hns, hfar, hbel⟩ := hrel
      obtain ⟨w4, hw4⟩ : ∃ w4, w4 = wr := ⟨wr, rfl⟩
      subst hw4
      have O4 := hide ho
      have V4 := hide hns
      have F4 := hide hfar
      have B4 := hide hbel
      have hB4 : B ≤ w4.heap.size := Nat.le_trans hBW hbel.size
      have hlk2 := keyNL_len (l := l.take i) fun x _ => keyN_len x
      by_cases hlt : i < m
      · have hlt' : (i : Int) < (m : Int) := by omega
        obtain ⟨x, b, o, q0, q1, qA, qn, qc, hxl, rfl, x0, x1, x2, rx⟩ := hns.at_ hlt
        have hmem : x ∈ l := List.mem_of_getElem? hxl
        have hsx := sizeNL_mem hmem
        have hb5 := bel_alloc w4 (.cells #[.int .i64 q0, .int .i64 q1, .slice qA qn qc] 32)
        have hf5 := tri3_alloc w4 q0 q1 qA qn qc 32
        have hsum : sizeNL (l.take (i + 1)) = sizeNL (l.take i) + sizeN x := sizeNL_split hxl
        have hle := sizeNL_take l (i + 1)
        have HC := hide (IH.out x hmem (WF.out x hmem) (by omega) _ B kvi _ _ (rx.kept hb5) (ho.below hb5) (by have := hb5.size; omega) (by rw [List.length_append, List.length_append]; omega))
        have HT := hide (show key ++ hd ++ keyNL (l.take i) ++ keyN x = key ++ hd ++ keyNL (l.take (i + 1)) by rw [keyNL_take hxl]; simp only [List.append_assoc])
        have F5 := hide (hfar.trans (Far.of_below (v := kvi) hb5))
        have B5 := hide (hbel.trans (hb5.mono hB4))
        have V5 := hide (hns.below hb5)
        obtain ⟨-, y0, y1, y2⟩ := hf5
        clear ho hns hfar hbel hxl hmem rx hb5 hlk2 hsum hle hsx
        go_wp2_with fail
        with_reducible refine HC.out.mono ?_
        rintro e w6 ⟨kv6, rfl, ho6, hb6, hf6⟩
        have O6 := hide ho6
        have F6 := hide (F5.out.trans hf6)
        have B6 := hide (B5.out.trans hb6)
        have V6 := hide (ndv_far V5.out hf6)
        clear ho6 hb6 hf6
        go_wp2
        go_roundw
        case rel => exact ⟨i + 1, kv6, by omega, by go_num, rfl, by rw [← HT.out]; exact O6.out, V6.out, F6.out, B6.out⟩
        case measure => simp [intOf]; omega
      · have hlt' : ¬ (i : Int) < (m : Int) := by omega
        have HT := hide (show keyNL (l.take i) = keyNL l by rw [List.take_of_length_le (by omega)])
        have hb5 := bel_alloc w4 (.cells #[.int .u8 0] 5)
        have hs5 := lit_sl w4 #[.int .u8 0] 5 (byteCells [0]) 1 rfl rfl (by omega)
        have hlen5 : (byteCells (key ++ hd ++ keyNL (l.take i))).length ≤ 1000000100 := by
          rw [bytes_size, List.length_append, List.length_append]
          have h1 := keyNL_len (l := l.take i) fun x _ => keyN_len x
          have h2 := sizeNL_take l i
          omega
        obtain ⟨w5, hw5⟩ : ∃ w5, w4.alloc (.cells #[.int .u8 0] 5) = w5 := ⟨_, rfl⟩
        rw [hw5] at hb5 hs5
        have O5 := hide (ho.below hb5)
        have S5 := hide hs5
        have F5 := hide (hfar.trans (Far.of_below (v := kvi) hb5))
        have B5 := hide (hbel.trans (hb5.mono hB4))
        have hB5 : B ≤ w5.heap.size := Nat.le_trans hB4 hb5.size
        clear ho hns hfar hbel hb5 hs5 hlk2
        go_wp2_with (first
          | (at_builtin; refine wp_join_far (by rfl) (.tmp 35) (.tmp 36) 129 (by rfl) 5 i0 _ 1 Tryz.underlying129 hi0 hz0 hz1 hz2 rfl B kvi (byteCells (key ++ hd ++ keyNL (l.take i))) (by rfl) w5 O5.out hB5 (some ⟨w4.heap.size, 0, none⟩) 1 1 (byteCells [0]) (by rfl) S5.out (bytes_one _) (by omega) (by unfold maxLen; omega) ?_; intro kv6 w6 hown6 hb6 hF6)
          | fail)
        have O6 := hide hown6
        have B6 := hide (B5.out.trans hb6)
        have F6 := hide (F5.out.trans hF6)
        clear hown6 hb6 hF6
        go_wp2
        go_ret
        refine ⟨_, rfl, ?_, B6.out, F6.out⟩
        have := O6.out
        rw [← byteCells_append, HT.out] at this
        rw [HK.out, ← List.append_assoc, ← List.append_assoc]
        exact this
end Go.Proofs.YtlnbjdlooghpeaaGreatDoor
