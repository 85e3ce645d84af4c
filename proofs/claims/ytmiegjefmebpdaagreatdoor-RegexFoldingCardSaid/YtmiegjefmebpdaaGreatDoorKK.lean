/- Walks of layer 8's reference: one byte, a set. -/
import Derived.Test.YtmiegjefmebpdaaGreatDoorKJ
import Derived.Laws.ResultCell
namespace Go.Proofs.YtmiegjefmebpdaaGreatDoor
open Go.RowKit

/-- An expression and the offset behind it. -/
def GotP (s : ByteArray) (w : World) (o : Option (Rx × List UInt8)) (e : Ending) (w' : World) : Prop :=
  ∃ v, e = .returned (.tuple #[v, .int .i64 (offO s o)]) ∧ RxV w' (fun g => w.heap.size ≤ g) v (match o with | none => rx0 | some p => p.1) ∧ Below w.heap.size w w'
theorem OwnR.rxv {W : World} {B : Nat} {v : Value} {l : List (UInt8 × UInt8)} (h : OwnR W B v l) : RxV W (fun g => B ≤ g) (.agg #[.int .i64 1, v, .int .i64 0, .int .i64 0, .slice none 0 0]) (setR l) := by
  obtain ⟨A, n, c, rfl, _, hs⟩ := h.s
  exact rxv_set hs

theorem load_five {W : World} {b : Nat} {c0 c1 c2 c3 c4 : Value} (h : Five W b c0 c1 c2 c3 c4) : (loadVar 25 ⟨b, 0, none⟩).run Tryz.prog W = .ok (.agg #[c0, c1, c2, c3, c4]) W := by
  obtain ⟨h0, h1, h2, h3, h4, h5⟩ := h
  go_simp
/-- A result in a box alone. -/
theorem res_box {fn : Func} {p : Tmp} (h : fn.results = #[.cell p 25]) (tmps : Array Value) (W : World) (b : Nat) (c0 c1 c2 c3 c4 : Value) (hp : tmps.getD p undef = .pointer (some ⟨b, 0, none⟩)) (hf : Five W b c0 c1 c2 c3 c4) :
    (results fn tmps).run Tryz.prog W = .ok (.agg #[c0, c1, c2, c3, c4]) W := by
  have hp' : tmps[p]?.getD undef = .pointer (some ⟨b, 0, none⟩) := by simpa using hp
  simp [results, h, hp', asAddr, load_five hf]
/-- A result in a box and a number beside it. -/
theorem res_two {fn : Func} {p u : Tmp} (h : fn.results = #[.cell p 25, .tmp u]) (tmps : Array Value) (W : World) (b : Nat) (c0 c1 c2 c3 c4 z : Value) (hp : tmps.getD p undef = .pointer (some ⟨b, 0, none⟩)) (hu : tmps.getD u undef = z) (hf : Five W b c0 c1 c2 c3 c4) :
    (results fn tmps).run Tryz.prog W = .ok (.tuple #[.agg #[c0, c1, c2, c3, c4], z]) W := by
  rw [results_cell_tmp h, hp, hu]
  simp [asAddr, load_five hf, Result.andThen]

set_option maxRecDepth 20000 in
set_option maxHeartbeats 3200000 in
theorem byteof106 (c : UInt8) (w : World) : Calls Tryz.prog 106 #[.int .u8 (c.toNat : Int)] w fun e w' => ∃ v, e = .returned v ∧ RxV w' (fun g => w.heap.size ≤ g) v (setR [(c, c)]) ∧ Below w.heap.size w w' := by
  obtain ⟨w0, hw0⟩ : ∃ w0, w0 = w.alloc (.cells #[.int .i64 1, .slice (some ⟨w.heap.size + 1, 0, none⟩) 1 1, .int .i64 0, .int .i64 0, .slice none 0 0] 25) := ⟨_, rfl⟩
  have hs0 : w0.heap.size = w.heap.size + 1 := by rw [hw0]; simp
  have L := ownR_lit w0 #[.int .u8 (c.toNat : Int), .int .u8 (c.toNat : Int)] [(c, c)] 1 rfl rfl (by decide)
  have F := (five_new w (.int .i64 1) (.slice (some ⟨w.heap.size + 1, 0, none⟩) 1 1) (.int .i64 0) (.int .i64 0) (.slice none 0 0) 25)
  rw [← hw0] at F
  have hbb := bnew (Below.refl _ w0) (.cells #[.int .u8 (c.toNat : Int), .int .u8 (c.toNat : Int)] 48)
  have F2 := F.keep hbb
  have B0 : Below w.heap.size w (w0.alloc (.cells #[.int .u8 (c.toNat : Int), .int .u8 (c.toNat : Int)] 48)) := by rw [hw0]; exact bnew (bnew (Below.refl _ w) _) _
  rw [hs0] at L
  have R := (L.mono (B' := w.heap.size) (by omega)).rxv
  rw [hw0] at R F2 B0
  have HR := hide R
  have HF := hide F2
  have HB := hide B0
  clear L F F2 B0 hbb R hs0 hw0
  go_enter Tryz.func106, Tryz.ntmps106
  go_wp2
  exact bodyPost_ret (res_box rfl _ _ w.heap.size _ _ _ _ _ rfl HF.out) rfl ⟨_, rfl, HR.out, HB.out⟩

end Go.Proofs.YtmiegjefmebpdaaGreatDoor
