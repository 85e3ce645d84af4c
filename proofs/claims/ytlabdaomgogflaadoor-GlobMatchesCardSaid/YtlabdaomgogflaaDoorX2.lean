/- The reference: one, step. -/
import Derived.Test.YtlabdaomgogflaaDoorX1
import Derived.BigQuiet
namespace Go.Proofs.YtlabdaomgogflaaDoor
open Go.RowKit

set_option maxHeartbeats 1600000 in
theorem one57_no (kd : Int) (neg : Bool) (m cap : Nat) (ao : Option Addr) (ch : UInt8) (hk : kd = 2 ∨ kd = 5) (w : World) :
    Calls Tryd.prog 57 #[.agg #[.int .i64 kd, .int .u8 (ch.toNat : Int), .bool neg, .slice ao m cap], .int .u8 47] w fun e w' => e = .returned (.bool false) ∧ Below w.heap.size w w' := by
  have hch : ch.toNat < 256 := UInt8.toNat_lt _
  rcases hk with rfl | rfl
  all_goals
    go_enter Tryd.func57, Tryd.ntmps57
    go_wp2
    go_ret
    exact ⟨rfl, bnew (Below.refl _ _) _⟩
set_option maxHeartbeats 1600000 in
theorem one57_two (neg : Bool) (m cap : Nat) (ao : Option Addr) (c ch : UInt8) (h47 : c ≠ 47) (w : World) :
    Calls Tryd.prog 57 #[.agg #[.int .i64 2, .int .u8 (ch.toNat : Int), .bool neg, .slice ao m cap], .int .u8 (c.toNat : Int)] w fun e w' => e = .returned (.bool true) ∧ Below w.heap.size w w' := by
  have hcc : c.toNat < 256 := UInt8.toNat_lt _
  have hch : ch.toNat < 256 := UInt8.toNat_lt _
  have e47 : ((c.toNat : Int) == 47) = false := u8f h47
  clear h47
  go_enter Tryd.func57, Tryd.ntmps57
  go_wp2
  go_ret
  exact ⟨rfl, bnew (Below.refl _ _) _⟩
set_option maxHeartbeats 1600000 in
theorem one57_byte (neg : Bool) (m cap : Nat) (ao : Option Addr) (c ch : UInt8) (b : Bool) (hb : (ch == c) = b) (w : World) :
    Calls Tryd.prog 57 #[.agg #[.int .i64 1, .int .u8 (ch.toNat : Int), .bool neg, .slice ao m cap], .int .u8 (c.toNat : Int)] w fun e w' => e = .returned (.bool b) ∧ Below w.heap.size w w' := by
  have hcc : c.toNat < 256 := UInt8.toNat_lt _
  have hch : ch.toNat < 256 := UInt8.toNat_lt _
  have e1 : ((c.toNat : Int) == (ch.toNat : Int)) = b := by
    rw [u8i, ← hb, Bool.eq_iff_iff, beq_iff_eq, beq_iff_eq]
    exact ⟨fun h => h.symm, fun h => h.symm⟩
  clear hb
  go_enter Tryd.func57, Tryd.ntmps57
  go_wp2
  go_ret
  exact ⟨rfl, bnew (Below.refl _ _) _⟩

theorem one57 (e : List UInt8) (c : UInt8) (hst : isStar e = false) (m cap : Nat) (ao : Option Addr) (hm : (setOf e).length = m) (hml : m ≤ 100000) (b : Bool) (hb : takes e c = b) (w : World) (hrd : RdS w ao m cap 2 (rCells (setOf e))) :
    Calls Tryd.prog 57 #[.agg #[.int .i64 (kindOf e), .int .u8 ((charOf e).toNat : Int), .bool (negOf e), .slice ao m cap], .int .u8 (c.toNat : Int)] w fun e w' => e = .returned (.bool b) ∧ Below w.heap.size w w' := by
  subst hb
  have h42 : ¬ e.headD 0 = 42 := by
    intro h
    unfold isStar at hst
    rw [h] at hst
    cases hst
  unfold takes
  rw [if_neg h42]
  by_cases h63 : e.headD 0 = 63
  · have hk : kindOf e = 2 := by unfold kindOf; rw [if_neg h42, if_pos h63]
    rw [if_pos h63, hk]
    by_cases hc : c = 47
    · subst hc
      exact one57_no 2 _ _ _ _ _ (Or.inl rfl) w
    · rw [show (c != 47) = true by simpa using hc]
      exact one57_two _ _ _ _ _ _ hc w
  · rw [if_neg h63]
    by_cases h91 : e.headD 0 = 91
    · have hk : kindOf e = 5 := by unfold kindOf; rw [if_neg h42, if_neg h63, if_pos h91]
      rw [if_pos h91, hk]
      by_cases hc : c = 47
      · subst hc
        exact one57_no 5 _ _ _ _ _ (Or.inr rfl) w
      · have hs : setOf e = ranges (Lib.trimPrefix (inOf e) [33]) := by unfold setOf; rw [if_pos h91]
        have hn : negOf e = Lib.hasPrefix (inOf e) [33] := by unfold negOf; rw [if_pos h91]
        rw [show (c != 47) = true by simpa using hc, Bool.true_and]
        show Calls _ _ _ _ fun e' w' => e' = .returned (.bool (inS (inOf e) c)) ∧ _
        have h2 := one57_set (negOf e) (setOf e) m cap ao c (charOf e) hm hml w hrd hc
        rw [hs, hn] at h2
        rw [hn]
        exact h2
    · have hk : kindOf e = 1 := by unfold kindOf; rw [if_neg h42, if_neg h63, if_neg h91]
      have hch : charOf e = e.headD 0 := by unfold charOf; rw [if_neg h42, if_neg h63, if_neg h91]
      rw [if_neg h91, hk, hch]
      exact one57_byte _ _ _ _ _ _ _ rfl w

/-- An element's asterisks are one or two. -/
def Stars (e : List UInt8) : Prop := e.headD 0 = 42 → e = [42] ∨ e = [42, 42]
theorem firstEl_stars (l : List UInt8) (n : Nat) (hn : firstEl l = n) (h0 : n ≠ 0) : Stars (l.take n) := by
  intro h
  cases l with
  | nil => simp at h
  | cons c r =>
    obtain ⟨k, rfl⟩ : ∃ k, n = k + 1 := ⟨n - 1, by omega⟩
    have hc : c = 42 := by simpa using h
    subst hc
    rw [firstEl, if_pos rfl] at hn
    split at hn
    · omega
    · have hk : (r.takeWhile (· == 42)).length = k := by omega
      have hk1 : k ≤ 1 := by omega
      rcases (show k = 0 ∨ k = 1 by omega) with rfl | rfl
      · exact Or.inl rfl
      · cases r with
        | nil => simp at hk
        | cons d r =>
          rw [List.takeWhile_cons] at hk
          split at hk
          · rename_i hd
            have : d = 42 := by simpa using hd
            subst this
            exact Or.inr rfl
          · simp at hk
theorem elemsF_stars : ∀ (f : Nat) (l : List UInt8) (es : List (List UInt8)), elemsF f l = some es → ∀ e ∈ es, Stars e
  | 0, [], es, h => by simp [elemsF] at h; subst h; simp
  | 0, _ :: _, es, h => by simp [elemsF] at h
  | f + 1, [], es, h => by simp [elemsF] at h; subst h; simp
  | f + 1, c :: l, es, h => by
    unfold elemsF at h
    by_cases h0 : firstEl (c :: l) = 0
    · rw [if_pos h0] at h; cases h
    · rw [if_neg h0, Option.map_eq_some_iff] at h
      obtain ⟨fs, hfs, rfl⟩ := h
      intro e he
      rcases List.mem_cons.1 he with rfl | he
      · exact firstEl_stars _ _ rfl h0
      · exact elemsF_stars f _ fs hfs e he
theorem star_kind (e : List UInt8) (h : Stars e) (hs : isStar e = true) : (kindOf e = 3 ∧ ∀ c, takes e c = (c != 47)) ∨ (kindOf e = 4 ∧ ∀ c, takes e c = true) := by
  have h42 : e.headD 0 = 42 := by unfold isStar at hs; simpa using hs
  rcases h h42 with rfl | rfl
  · refine Or.inl ⟨rfl, fun c => ?_⟩
    unfold takes
    rw [if_pos (by decide)]
    rfl
  · refine Or.inr ⟨rfl, fun c => ?_⟩
    unfold takes
    rw [if_pos (by decide)]
    rfl
theorem one_kind (e : List UInt8) (hs : isStar e = false) : (kindOf e == 3) = false ∧ (kindOf e == 4) = false := by
  have h42 : ¬ e.headD 0 = 42 := by
    intro h
    unfold isStar at hs
    rw [h] at hs
    cases hs
  unfold kindOf
  rw [if_neg h42]
  split
  · exact ⟨rfl, rfl⟩
  · split <;> exact ⟨rfl, rfl⟩

theorem mk_bools' (n : Nat) (hn : n ≤ 200000) (w : World) : ∃ w3, (Instr.makeSlice 41 (.int .i64 ((n : Int) + 1)) (.int .i64 ((n : Int) + 1))).run Tryd.prog w = .ok (.slice (some ⟨w.heap.size, 0, none⟩) (n + 1) (n + 1)) w3 ∧ BRow w3 w.heap.size (n + 1) (fun _ => false) ∧ Below w.heap.size w w3 := mk_bools n hn w

/-- The truths of a row that lies in a world that was. -/
def BRead (w : World) (ao : Option Addr) (N : Nat) (f : Nat → Bool) : Prop := ∃ g, ao = some ⟨g, 0, none⟩ ∧ g < w.heap.size ∧ ∀ j, j < N → w.cell? ⟨g, j, none⟩ = some (.bool (f j))
theorem BRead.below {w w' : World} {ao : Option Addr} {N : Nat} {f : Nat → Bool} (h : BRead w ao N f) (hb : Below w.heap.size w w') : BRead w' ao N f := by
  obtain ⟨g, h1, h2, h3⟩ := h
  exact ⟨g, h1, by have := hb.size; omega, fun j hj => (hb.cell (p := ⟨g, j, none⟩) h2).trans (h3 j hj)⟩
theorem BRow.read {w : World} {bk N : Nat} {f : Nat → Bool} (h : BRow w bk N f) : BRead w (some ⟨bk, 0, none⟩) N f := ⟨bk, rfl, h.1, fun j hj => (h.2 j hj).1⟩

set_option maxHeartbeats 6400000 in
theorem step41_star (kd : Int) (ch : UInt8) (neg : Bool) (ao ao2 : Option Addr) (m cap cap2 : Nat) (p : ByteArray) (t : UInt8 → Bool) (f : Nat → Bool) (hk : (kd = 3 ∧ ∀ c, t c = (c != 47)) ∨ (kd = 4 ∧ ∀ c, t c = true)) (w : World) (hp : p.size ≤ 100000) (hf : BRead w ao2 (p.size + 1) f) (N : Nat) (hN : N = p.size + 1) :
    Calls Tryd.prog 41 #[.agg #[.int .i64 kd, .int .u8 (ch.toNat : Int), .bool neg, .slice ao m cap], .string p, .slice ao2 N cap2] w fun e w' =>
      (∃ bk, e = .returned (.slice (some ⟨bk, 0, none⟩) (p.size + 1) (p.size + 1)) ∧ BRow w' bk (p.size + 1) (starR (fun i => t (p.data.toList.getD i 0)) f)) ∧ Below w.heap.size w w' := by
  subst hN
  have hch : ch.toNat < 256 := UInt8.toNat_lt _
  have hbx : Below w.heap.size w (w.alloc (.cells #[.int .i64 kd, .int .u8 (ch.toNat : Int), .bool neg, .slice ao m cap] 47)) := bnew (Below.refl _ _) _
  have q0 : (w.alloc (.cells #[.int .i64 kd, .int .u8 (ch.toNat : Int), .bool neg, .slice ao m cap] 47)).cell? ⟨w.heap.size, 0, none⟩ = some (.int .i64 kd) := by rw [World.cell?_alloc_mark]; rfl
  have hlt0 : w.heap.size < (w.alloc (.cells #[.int .i64 kd, .int .u8 (ch.toNat : Int), .bool neg, .slice ao m cap] 47)).heap.size := by simp
  have hsz1 : (w.alloc (.cells #[.int .i64 kd, .int .u8 (ch.toNat : Int), .bool neg, .slice ao m cap] 47)).heap.size = w.heap.size + 1 := by simp
  obtain ⟨w3, hmk, hbr3, hb3⟩ := mk_bools p.size (by omega) (w.alloc (.cells #[.int .i64 kd, .int .u8 (ch.toNat : Int), .bool neg, .slice ao m cap] 47))
  have hf1 := (hf.below hbx).below hb3
  have q3 := (hb3.cell (p := ⟨w.heap.size, 0, none⟩) hlt0).trans q0
  have hbw : Below w.heap.size w w3 := bgo hbx hb3
  obtain ⟨g, rfl, hg, hgc⟩ := hf
  have hgb : g < w.heap.size + 1 := by omega
  obtain ⟨g', hgg, hg', hgc'⟩ := hf1
  simp only [Option.some.injEq, Addr.mk.injEq, and_true] at hgg
  subst hgg
  rw [hsz1] at hbr3 hb3
  have hcell : ∀ wr, Below (w.heap.size + 1) w3 wr → wr.cell? ⟨w.heap.size, 0, none⟩ = some (.int .i64 kd) := fun wr hb => (hb.cell (p := ⟨w.heap.size, 0, none⟩) (by show w.heap.size < w.heap.size + 1; omega)).trans q3
  have hfrom : ∀ wr, Below (w.heap.size + 1) w3 wr → ∀ j, j < p.size + 1 → wr.cell? ⟨g, j, none⟩ = some (.bool (f j)) := fun wr hb j hj => (hb.cell (p := ⟨g, j, none⟩) (by show g < w.heap.size + 1; omega)).trans (hgc' j hj)
  obtain ⟨t', ht'⟩ : ∃ t' : Nat → Bool, (fun i => t (p.data.toList.getD i 0)) = t' := ⟨_, rfl⟩
  rw [ht']
  have htat : ∀ k (h : k < p.size), t' k = t p[k] := fun k h => by rw [← ht']; show t (p.data.toList.getD k 0) = _; rw [getD_byte p k h]
  have Hcell := hide hcell
  have Hfrom := hide hfrom
  have Htat := hide htat
  have Hbw := hide hbw
  have Hbr3 := hide hbr3
  rw [hsz1] at hmk
  clear hcell hfrom htat ht' hbw hbr3 hb3 q0 q3 hgc hgc' hbx hlt0 hg'
  rcases hk with ⟨rfl, ht⟩ | ⟨rfl, ht⟩
  all_goals
    have Ht := hide ht
    clear ht
    go_enter Tryd.func41, Tryd.ntmps41
    go_wp2
    go_loopw [8] (fun iv wr => ∃ i : Nat, i ≤ p.size + 1 ∧ iv = .int .i64 i ∧ BRow wr (w.heap.size + 1) (p.size + 1) (reach t' f i) ∧ Below (w.heap.size + 1) w3 wr) (fun iv _ => p.size + 1 - (intOf iv).toNat)
    case atStart => exact ⟨0, Nat.zero_le _, rfl, Hbr3.out, Below.refl _ _⟩
    case round =>
      obtain ⟨i, hi, rfl, hbr, hbl⟩ := hrel
      have Hbr := hide hbr
      have Hbl := hide hbl
      clear hbr hbl
      by_cases hlt : i < p.size + 1
      · have hfi := Hfrom.out _ Hbl.out i hlt
        have hkc := Hcell.out _ Hbl.out
        obtain ⟨hti, hfz⟩ := Hbr.out.2 i hlt
        cases hfv : f i
        · rw [hfv] at hfi
          have hnx := Hbr.out.ext (fun j _ => reach_skip t' f i j hfv)
          have Hnx := hide hnx
          clear hnx hfv
          go_wp2
          go_roundw
          case rel => exact ⟨i + 1, by omega, by go_num, Hnx.out, Hbl.out⟩
          case measure => simp [intOf]; omega
        · rw [hfv] at hfi
          have hbr1 := (Hbr.out.set i hlt true).ext (fun j _ => mid_start t' f i j)
          have hbl1 : Below (w.heap.size + 1) w3 (wr.setCell ⟨w.heap.size + 1, i, none⟩ (.bool true)) := Hbl.out.setCell (by exact Nat.le_refl _) _
          have Hbr1 := hide hbr1
          have Hbl1 := hide hbl1
          have Hfv := hide hfv
          clear hbr1 hbl1 hfv
          go_wp2
          go_loopw [9] (fun kv wr => ∃ k : Nat, i ≤ k ∧ k ≤ p.size ∧ kv = .int .i64 k ∧ spanB t' i (k - i) = true ∧ BRow wr (w.heap.size + 1) (p.size + 1) (midR t' f i k) ∧ Below (w.heap.size + 1) w3 wr) (fun kv _ => p.size - (intOf kv).toNat)
          case atStart => exact ⟨i, Nat.le_refl _, by omega, rfl, by rw [Nat.sub_self]; rfl, Hbr1.out, Hbl1.out⟩
          case round =>
            obtain ⟨k, hik, hkp, rfl, hsp, hbr2, hbl2⟩ := hrel
            have Hsp := hide hsp
            have Hbr2 := hide hbr2
            have Hbl2 := hide hbl2
            have hkc2 := Hcell.out _ Hbl2.out
            clear hsp hbr2 hbl2
            by_cases hkl : k < p.size
            · have hbb : p[k].toNat < 256 := UInt8.toNat_lt _
              have hne := u8ni p[k] 47
              have htk := Htat.out k hkl
              have htt := Ht.out p[k]
              cases hv : t' k
              · first
                | (exfalso
                   rw [hv, htt] at htk
                   cases htk
                   done)
                | (have eb : ((p[k].toNat : Int) != 47) = false := by rw [← htt, ← htk, hv] at hne; exact hne
                   have hbrE := Hbr2.out.ext (fun j hj => mid_end t' f i k p.size j Hfv.out Hsp.out hik (Or.inr hv) (by omega))
                   have HbrE := hide hbrE
                   clear hne htk htt hv hbrE
                   go_wp2
                   go_roundw
                   case rel => exact ⟨i + 1, by omega, by go_num, HbrE.out, Hbl2.out⟩
                   case measure => simp [intOf]; omega)
              · have hv2 := htt.symm.trans (htk.symm.trans hv)
                first
                | (have eb : ((p[k].toNat : Int) != 47) = true := hne.trans hv2
                   obtain ⟨htk1, hfz1⟩ := Hbr2.out.2 (k + 1) (by omega)
                   have hbrN := (Hbr2.out.set (k + 1) (by omega) true).ext (fun j _ => mid_next t' f i k j hik)
                   have hblN : Below (w.heap.size + 1) w3 (wr.setCell ⟨w.heap.size + 1, k + 1, none⟩ (.bool true)) := Hbl2.out.setCell (by exact Nat.le_refl _) _
                   have hspN := span_next t' i k hik Hsp.out hv
                   have HbrN := hide hbrN
                   have HblN := hide hblN
                   have HspN := hide hspN
                   clear hne htk htt hv hv2 hbrN hblN hspN
                   go_wp2
                   go_roundw
                   case rel => exact ⟨k + 1, by omega, by omega, by go_num, HspN.out, HbrN.out, HblN.out⟩
                   case measure => simp [intOf]; omega)
                | (obtain ⟨htk1, hfz1⟩ := Hbr2.out.2 (k + 1) (by omega)
                   have hbrN := (Hbr2.out.set (k + 1) (by omega) true).ext (fun j _ => mid_next t' f i k j hik)
                   have hblN : Below (w.heap.size + 1) w3 (wr.setCell ⟨w.heap.size + 1, k + 1, none⟩ (.bool true)) := Hbl2.out.setCell (by exact Nat.le_refl _) _
                   have hspN := span_next t' i k hik Hsp.out hv
                   have HbrN := hide hbrN
                   have HblN := hide hblN
                   have HspN := hide hspN
                   clear hne htk htt hv hv2 hbrN hblN hspN
                   go_wp2
                   go_roundw
                   case rel => exact ⟨k + 1, by omega, by omega, by go_num, HspN.out, HbrN.out, HblN.out⟩
                   case measure => simp [intOf]; omega)
            · have hbrE := Hbr2.out.ext (fun j hj => mid_end t' f i k p.size j Hfv.out Hsp.out hik (Or.inl (by omega)) (by omega))
              have HbrE := hide hbrE
              clear hbrE
              go_wp2
              go_roundw
              case rel => exact ⟨i + 1, by omega, by go_num, HbrE.out, Hbl2.out⟩
              case measure => simp [intOf]; omega
      · have hgt : p.size < i := by omega
        have hbrE := Hbr.out.ext (fun j hj => reach_all t' f i j (by omega))
        have HbrE := hide hbrE
        clear hbrE
        go_wp2
        go_ret
        exact ⟨⟨_, rfl, HbrE.out⟩, Hbw.out.trans (Hbl.out.mono (by omega))⟩

end Go.Proofs.YtlabdaomgogflaaDoor
