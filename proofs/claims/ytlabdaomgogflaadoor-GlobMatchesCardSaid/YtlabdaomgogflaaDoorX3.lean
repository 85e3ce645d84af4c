/- The reference: step at an element that stands for one byte. -/
import Derived.Test.YtlabdaomgogflaaDoorX2
import Derived.Deep.RegionHeld3
namespace Go.Proofs.YtlabdaomgogflaaDoor
open Go.RowKit

set_option maxHeartbeats 6400000 in
theorem step41_one (kd : Int) (ch : UInt8) (neg : Bool) (ao ao2 : Option Addr) (m cap cap2 : Nat) (p : ByteArray) (t : UInt8 → Bool) (f : Nat → Bool) (hk3 : (kd == 3) = false) (hk4 : (kd == 4) = false) (w : World)
    (hone : ∀ (c : UInt8) (w' : World), Below w.heap.size w w' → Calls Tryd.prog 57 #[.agg #[.int .i64 kd, .int .u8 (ch.toNat : Int), .bool neg, .slice ao m cap], .int .u8 (c.toNat : Int)] w' fun e w'' => e = .returned (.bool (t c)) ∧ Below w'.heap.size w' w'')
    (hp : p.size ≤ 100000) (hf : BRead w ao2 (p.size + 1) f) (N : Nat) (hN : N = p.size + 1) :
    Calls Tryd.prog 41 #[.agg #[.int .i64 kd, .int .u8 (ch.toNat : Int), .bool neg, .slice ao m cap], .string p, .slice ao2 N cap2] w fun e w' =>
      (∃ bk, e = .returned (.slice (some ⟨bk, 0, none⟩) (p.size + 1) (p.size + 1)) ∧ BRow w' bk (p.size + 1) (oneR (fun i => t (p.data.toList.getD i 0)) f (p.size + 1))) ∧ Below w.heap.size w w' := by
  subst hN
  have hch : ch.toNat < 256 := UInt8.toNat_lt _
  have hbx : Below w.heap.size w (w.alloc (.cells #[.int .i64 kd, .int .u8 (ch.toNat : Int), .bool neg, .slice ao m cap] 47)) := bnew (Below.refl _ _) _
  have q0 : (w.alloc (.cells #[.int .i64 kd, .int .u8 (ch.toNat : Int), .bool neg, .slice ao m cap] 47)).cell? ⟨w.heap.size, 0, none⟩ = some (.int .i64 kd) := by rw [World.cell?_alloc_mark]; rfl
  have q1 : (w.alloc (.cells #[.int .i64 kd, .int .u8 (ch.toNat : Int), .bool neg, .slice ao m cap] 47)).cell? ⟨w.heap.size, 1, none⟩ = some (.int .u8 (ch.toNat : Int)) := by rw [World.cell?_alloc_mark]; rfl
  have q2 : (w.alloc (.cells #[.int .i64 kd, .int .u8 (ch.toNat : Int), .bool neg, .slice ao m cap] 47)).cell? ⟨w.heap.size, 2, none⟩ = some (.bool neg) := by rw [World.cell?_alloc_mark]; rfl
  have q3 : (w.alloc (.cells #[.int .i64 kd, .int .u8 (ch.toNat : Int), .bool neg, .slice ao m cap] 47)).cell? ⟨w.heap.size, 3, none⟩ = some (.slice ao m cap) := by rw [World.cell?_alloc_mark]; rfl
  have hlt0 : w.heap.size < (w.alloc (.cells #[.int .i64 kd, .int .u8 (ch.toNat : Int), .bool neg, .slice ao m cap] 47)).heap.size := by simp
  have hsz1 : (w.alloc (.cells #[.int .i64 kd, .int .u8 (ch.toNat : Int), .bool neg, .slice ao m cap] 47)).heap.size = w.heap.size + 1 := by simp
  obtain ⟨w3, hmk, hbr3, hb3⟩ := mk_bools p.size (by omega) (w.alloc (.cells #[.int .i64 kd, .int .u8 (ch.toNat : Int), .bool neg, .slice ao m cap] 47))
  have hf1 := (hf.below hbx).below hb3
  have r0 := (hb3.cell (p := ⟨w.heap.size, 0, none⟩) hlt0).trans q0
  have r1 := (hb3.cell (p := ⟨w.heap.size, 1, none⟩) hlt0).trans q1
  have r2 := (hb3.cell (p := ⟨w.heap.size, 2, none⟩) hlt0).trans q2
  have r3 := (hb3.cell (p := ⟨w.heap.size, 3, none⟩) hlt0).trans q3
  have hbw : Below w.heap.size w w3 := bgo hbx hb3
  obtain ⟨g, rfl, hg, hgc⟩ := hf
  have hgb : g < w.heap.size + 1 := by omega
  obtain ⟨g', hgg, hg', hgc'⟩ := hf1
  simp only [Option.some.injEq, Addr.mk.injEq, and_true] at hgg
  subst hgg
  rw [hsz1] at hbr3 hb3
  have hcell : ∀ wr, Below (w.heap.size + 1) w3 wr → wr.cell? ⟨w.heap.size, 0, none⟩ = some (.int .i64 kd) ∧ wr.cell? ⟨w.heap.size, 1, none⟩ = some (.int .u8 (ch.toNat : Int)) ∧ wr.cell? ⟨w.heap.size, 2, none⟩ = some (.bool neg) ∧ wr.cell? ⟨w.heap.size, 3, none⟩ = some (.slice ao m cap) := fun wr hb =>
    have hl : w.heap.size < w.heap.size + 1 := by omega
    ⟨(hb.cell (p := ⟨w.heap.size, 0, none⟩) hl).trans r0, (hb.cell (p := ⟨w.heap.size, 1, none⟩) hl).trans r1, (hb.cell (p := ⟨w.heap.size, 2, none⟩) hl).trans r2, (hb.cell (p := ⟨w.heap.size, 3, none⟩) hl).trans r3⟩
  have hfrom : ∀ wr, Below (w.heap.size + 1) w3 wr → ∀ j, j < p.size + 1 → wr.cell? ⟨g, j, none⟩ = some (.bool (f j)) := fun wr hb j hj => (hb.cell (p := ⟨g, j, none⟩) (by show g < w.heap.size + 1; omega)).trans (hgc' j hj)
  obtain ⟨t', ht'⟩ : ∃ t' : Nat → Bool, (fun i => t (p.data.toList.getD i 0)) = t' := ⟨_, rfl⟩
  rw [ht']
  have htat : ∀ k (h : k < p.size), t' k = t p[k] := fun k h => by rw [← ht']; show t (p.data.toList.getD k 0) = _; rw [getD_byte p k h]
  have Hcell := hide hcell
  have Hfrom := hide hfrom
  have Htat := hide htat
  have Hbw := hide hbw
  have Hbr3 := hide hbr3
  have Hone := hide hone
  rw [hsz1] at hmk
  clear hcell hfrom htat ht' hbw hbr3 hb3 q0 q1 q2 q3 r0 r1 r2 r3 hgc hgc' hbx hlt0 hg' hone
  go_enter Tryd.func41, Tryd.ntmps41
  go_wp2
  go_loopw [8] (fun iv wr => ∃ i : Nat, i ≤ p.size + 1 ∧ iv = .int .i64 i ∧ BRow wr (w.heap.size + 1) (p.size + 1) (oneR t' f i) ∧ Below (w.heap.size + 1) w3 wr) (fun iv _ => p.size + 1 - (intOf iv).toNat)
  case atStart =>
    refine ⟨0, Nat.zero_le _, rfl, Hbr3.out.ext fun j _ => ?_, Below.refl _ _⟩
    unfold oneR
    rw [decide_eq_false (by omega), Bool.false_and]
  case round =>
    obtain ⟨i, hi, rfl, hbr, hbl⟩ := hrel
    have Hbr := hide hbr
    have Hbl := hide hbl
    clear hbr hbl
    by_cases hlt : i < p.size + 1
    · have hfi := Hfrom.out _ Hbl.out i hlt
      obtain ⟨s0, s1, s2, s3⟩ := Hcell.out _ Hbl.out
      cases hfv : f i
      · rw [hfv] at hfi
        have hnx := Hbr.out.ext (fun j _ => oneR_skip t' f i j (by rw [hfv]; rfl))
        have Hnx := hide hnx
        clear hnx hfv
        go_wp2
        go_roundw
        case rel => exact ⟨i + 1, by omega, by go_num, Hnx.out, Hbl.out⟩
        case measure => simp [intOf]; omega
      · rw [hfv] at hfi
        by_cases hl2 : i < p.size
        · have hbb : p[i].toNat < 256 := UInt8.toNat_lt _
          have hd : decide ((i : Int) < (p.size : Int)) = true := decide_eq_true (by omega)
          have hli : (i : Int) < (p.size : Int) := by omega
          have h0i : (0 : Int) ≤ (i : Int) := by omega
          have htk := Htat.out i hl2
          have hbase : Below w.heap.size w wr := Hbw.out.trans (Hbl.out.mono (by omega))
          have hcall := Hone.out p[i] wr.drew (hbase.trans (Drawn.below ⟨1, rfl⟩ _))
          rw [← htk] at hcall
          have hbkl : w.heap.size + 1 < wr.heap.size := Hbr.out.1
          have hlw : w.heap.size < wr.drew.heap.size := by show w.heap.size < wr.heap.size; omega
          have hkeep : ∀ w2, Below wr.drew.heap.size wr.drew w2 → w2.cell? ⟨w.heap.size, 0, none⟩ = some (.int .i64 kd) ∧ w2.cell? ⟨w.heap.size, 1, none⟩ = some (.int .u8 (ch.toNat : Int)) ∧ w2.cell? ⟨w.heap.size, 2, none⟩ = some (.bool neg) ∧ w2.cell? ⟨w.heap.size, 3, none⟩ = some (.slice ao m cap) := fun w2 hb =>
            ⟨(hb.cell (p := ⟨w.heap.size, 0, none⟩) hlw).trans s0, (hb.cell (p := ⟨w.heap.size, 1, none⟩) hlw).trans s1, (hb.cell (p := ⟨w.heap.size, 2, none⟩) hlw).trans s2, (hb.cell (p := ⟨w.heap.size, 3, none⟩) hlw).trans s3⟩
          have Hkeep := hide hkeep
          have hbdr : Below wr.heap.size wr wr.drew := Drawn.below ⟨1, rfl⟩ _
          have Hbdr := hide hbdr
          clear hkeep hbdr
          cases hv : t' i
          · rw [hv] at hcall
            have Hcall := hide hcall
            have hnx := Hbr.out.ext (fun j _ => oneR_skip t' f i j (by rw [hv, Bool.and_false]))
            have Hnx := hide hnx
            clear hcall htk hnx
            go_wp2
            go_region_held3 (fun w' => w'.cell? ⟨w.heap.size, 0, none⟩ = some (.int .i64 kd) ∧ w'.cell? ⟨w.heap.size, 1, none⟩ = some (.int .u8 (ch.toNat : Int)) ∧ w'.cell? ⟨w.heap.size, 2, none⟩ = some (.bool neg) ∧ w'.cell? ⟨w.heap.size, 3, none⟩ = some (.slice ao m cap))
              (first | go_keep | exact Hkeep.out _ hb2)
              (first | (go_at_call 57; refine Hcall.out.mono ?_; rintro e w2 ⟨rfl, hb2⟩))
            have hbd2 := Hbdr.out.trans (hb2.mono (by exact Nat.le_refl _))
            have hbr2 := Hnx.out.below hbd2
            have hbl2 := Hbl.out.trans (hbd2.mono (by omega))
            have Hbr2 := hide hbr2
            have Hbl2 := hide hbl2
            clear hbr2 hbl2 hbd2 hb2
            go_wp2
            go_roundw
            case rel => exact ⟨i + 1, by omega, by go_num, Hbr2.out, Hbl2.out⟩
            case measure => simp [intOf]; omega
          · rw [hv] at hcall
            have Hcall := hide hcall
            have Hv := hide hv
            have Hfv := hide hfv
            clear hcall htk hv hfv
            go_wp2
            go_region_held3 (fun w' => w'.cell? ⟨w.heap.size, 0, none⟩ = some (.int .i64 kd) ∧ w'.cell? ⟨w.heap.size, 1, none⟩ = some (.int .u8 (ch.toNat : Int)) ∧ w'.cell? ⟨w.heap.size, 2, none⟩ = some (.bool neg) ∧ w'.cell? ⟨w.heap.size, 3, none⟩ = some (.slice ao m cap))
              (first | go_keep | exact Hkeep.out _ hb2)
              (first | (go_at_call 57; refine Hcall.out.mono ?_; rintro e w2 ⟨rfl, hb2⟩))
            have hbd2 := Hbdr.out.trans (hb2.mono (by exact Nat.le_refl _))
            have hbr2 := Hbr.out.below hbd2
            have hbl2 := Hbl.out.trans (hbd2.mono (by omega))
            obtain ⟨u1, u2⟩ := hbr2.2 (i + 1) (by omega)
            have hbr3 := (hbr2.set (i + 1) (by omega) true).ext (fun j _ => oneR_put t' f i j (by rw [Hfv.out, Hv.out]; rfl))
            have hbl3 : Below (w.heap.size + 1) w3 (w2.setCell ⟨w.heap.size + 1, i + 1, none⟩ (.bool true)) := hbl2.setCell (by exact Nat.le_refl _) _
            have Hbr3 := hide hbr3
            have Hbl3 := hide hbl3
            clear hbr2 hbl2 hbd2 hb2 hbr3 hbl3
            go_wp2
            go_roundw
            case rel => exact ⟨i + 1, by omega, by go_num, Hbr3.out, Hbl3.out⟩
            case measure => simp [intOf]; omega
        · have hd : decide ((i : Int) < (p.size : Int)) = false := decide_eq_false (by omega)
          have hbdr : Below wr.heap.size wr wr.drew := Drawn.below ⟨1, rfl⟩ _
          have hbr2 := (Hbr.out.ext (d' := oneR t' f (i + 1)) (fun j hj => by
            unfold oneR
            congr 1
            rw [Bool.eq_iff_iff, decide_eq_true_eq, decide_eq_true_eq]
            omega))
          have Hbr2 := hide hbr2
          clear hbr2 hbdr
          go_wp2
          go_quiet (fail)
          go_wp2
          go_roundw
          case rel => exact ⟨i + 1, by omega, by go_num, Hbr2.out.below (Drawn.below ⟨_, rfl⟩ _), Hbl.out.trans (Drawn.below ⟨_, rfl⟩ _)⟩
          case measure => simp [intOf]; omega
    · have hie : i = p.size + 1 := by omega
      subst hie
      go_wp2
      go_ret
      exact ⟨⟨_, rfl, Hbr.out⟩, Hbw.out.trans (Hbl.out.mono (by omega))⟩

end Go.Proofs.YtlabdaomgogflaaDoor
