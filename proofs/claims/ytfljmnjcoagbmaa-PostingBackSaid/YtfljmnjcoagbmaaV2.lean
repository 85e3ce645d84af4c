/- Walks of layer 3's functions: V2. -/
import Derived.Test.YtfljmnjcoagbmaaV1
namespace Go.Proofs.Ytfljmnjcoagbmaa
open Go.RowKit
open Go.Lib (byteCells strCells)

section
variable {P : Program} {ops : Array Oper} {rest : List Oper} {o : Oper} {a : Act} {Q : Exit → Act → World → Prop}
end

theorem info5 : (Try.prog.info? 5).map (fun i => (i.zero, i.size, i.bytes)) = some (some (.int .u8 0), 1, 1) := by kernel_rfl
theorem info3 : (Try.prog.info? 3).map (fun i => (i.zero, i.size, i.bytes)) = some (some (.int .i64 0), 1, 8) := by kernel_rfl

set_option maxRecDepth 20000 in
set_option maxHeartbeats 1600000 in
theorem app56 (B : Nat) (v : Value) (l : List UInt8) (n : Int) (w : World) (hB : B ≤ w.heap.size) (hsrc : Src w B 5 v (byteCells l)) (hn : n ≤ 9223372036854775807) (hl : l.length ≤ 1000000000) :
    Calls Try.prog 56 #[v, .int .i64 n] w (Grew w B (l ++ enc n.toNat)) := by
  obtain ⟨i0, hi, hz0, hz1, hz2⟩ := info_parts info5
  have H9 := enc_len9 n.toNat (by omega)
  have Hsrc := hide hsrc
  clear hsrc
  go_enter Try.func56, Try.ntmps56
  go_wp2
  go_loopw [0, 1] (fun u x wr => ∃ (done : List UInt8) (m : Nat), x = .int .i64 m ∧ (m : Int) ≤ 9223372036854775807 ∧ Src wr B 5 u (byteCells done) ∧ Below B w wr ∧ B ≤ wr.heap.size ∧ done ++ enc m = l ++ enc n.toNat) (fun _ x _ => (intOf x).toNat)
  case atStart => exact ⟨l, n.toNat, by rw [show max n 0 = ((n.toNat : Nat) : Int) by omega], by omega, Hsrc.out, Below.refl _ _, hB, rfl⟩
  case round =>
    obtain ⟨done, m, rfl, hm, hsrc, hbel, hBr, heq⟩ := hrel
    have hdl : done.length ≤ 1000000009 := by
      have := congrArg List.length heq
      rw [List.length_append, List.length_append] at this
      omega
    have hbl : (byteCells done).length ≤ 1000000009 := by rw [bytes_size]; exact hdl
    have Heq := hide heq
    have Hs := hide hsrc
    have Hb := hide hbel
    clear heq hsrc hbel
    by_cases h128 : m < 128
    · have hcell := cell_low m h128
      have Hcell := hide hcell
      have hres := enc_low m h128
      have Hres := hide hres
      clear hcell hres
      go_wp2_with (at_builtin; refine wp_push rfl (.tmp 18) (.tmp 21) 30 rfl 5 i0 (.int .u8 0) 1 Try.underlying30 hi hz0 hz1 hz2 rfl B _ (byteCells done) rfl _ _ rfl Hs.out hBr _ rfl rfl (by omega) (by unfold maxLen; omega) ?_)
      intro v' w' hown hb'
      have Hown := hide hown
      clear hown
      go_wp2
      go_ret
      refine ⟨v', rfl, ?_, Hb.out.trans hb'⟩
      rw [← Heq.out, Hres.out, Go.Lib.byteCells_append, Hcell.out]
      exact Hown.out
    · have hcell := cell_high m
      have hres := enc_high m h128
      have Hres := hide hres
      have Hcell := hide hcell
      clear hcell hres
      have hm1 : 128 ≤ m := by omega
      go_wp2_with (at_builtin; refine wp_push rfl (.tmp 9) (.tmp 14) 30 rfl 5 i0 (.int .u8 0) 1 Try.underlying30 hi hz0 hz1 hz2 rfl B _ (byteCells done) rfl _ _ rfl Hs.out hBr _ rfl rfl (by omega) (by unfold maxLen; omega) ?_)
      intro v' w' hown hb'
      have Hown := hide hown
      have hsz := hb'.size
      have Hb' := hide hb'
      clear hown hb'
      go_wp2
      go_roundw
      case rel =>
        refine ⟨done ++ [UInt8.ofNat (m % 128 + 128)], m / 128, by simp, by omega, ?_, Hb.out.trans Hb'.out, by omega, ?_⟩
        · rw [Go.Lib.byteCells_append, Hcell.out]
          exact Hown.out.src
        · rw [← Heq.out, Hres.out, List.append_assoc]; rfl
      case measure => simp [intOf]; omega

open Go.RowKit
open Go.Lib (byteCells strCells)

set_option maxRecDepth 20000 in
theorem full57 (A : Option Addr) (n c : Nat) (w : World) (hnc : n ≤ c) :
    Calls Try.prog 57 #[.slice A n c] w fun e w' => e = .returned (.slice A n n) ∧ w = w' := by
  go_enter Try.func57, Try.ntmps57
  go_wp2
  go_ret
  exact ⟨rfl, rfl⟩

set_option maxRecDepth 20000 in
theorem put39 (A : Option Addr) (n c : Nat) (l : List UInt8) (i : Int) (w : World) (h : Sl w A n c (byteCells l)) (hi : i ≤ 9223372036854775807) (hn : n ≤ 1000000000) :
    Calls Try.prog 39 #[.slice A n c, .int .i64 i] w (Grew w w.heap.size (l ++ enc i.toNat)) := by
  have hlen := h.len
  have Hlen := hide hlen
  have hnc := h.1
  have Hsrc := hide (h.src w.heap.size 5)
  clear hlen h
  go_enter Try.func39, Try.ntmps39
  go_wp2_with fail
  with_reducible refine (full57 A n c w hnc).mono ?_
  rintro e w' ⟨rfl, rfl⟩
  go_wp2_with fail
  with_reducible refine (app56 _ (.slice A n n) l i w (Nat.le_refl _) Hsrc.out hi (by rw [Hlen.out]; exact hn)).mono ?_
  rintro e w' ⟨v, rfl, hown, hb⟩
  have Hown := hide hown
  have Hb := hide hb
  clear hown hb
  go_wp2
  go_ret
  exact ⟨v, rfl, Hown.out, Hb.out⟩

set_option maxRecDepth 20000 in
set_option maxHeartbeats 1600000 in
theorem rput42 (A : Option Addr) (n c : Nat) (l : List UInt8) (i : Int) (w : World) (h : Sl w A n c (byteCells l)) (hi : i ≤ 9223372036854775807) (hn : n ≤ 1000000000) :
    Calls Try.prog 42 #[.slice A n c, .int .i64 i] w (Grew w w.heap.size (l ++ enc i.toNat)) := by
  obtain ⟨i0, hi', hz0, hz1, hz2⟩ := info_parts info5
  have H9 := enc_len9 i.toNat (by omega)
  have hlen := h.len
  have Hlen := hide hlen
  have H := hide h
  clear hlen h
  go_enter Try.func42, Try.ntmps42
  go_wp2
  go_loopw [5, 6] (fun u x wr => ∃ k : Nat, k ≤ n ∧ x = .int .i64 k ∧ Own wr w.heap.size 5 u (byteCells (l.take k)) ∧ Below w.heap.size w wr) (fun _ x _ => n - (intOf x).toNat)
  case atStart => exact ⟨0, Nat.zero_le _, rfl, World.ownsRow_nil _ _ _ _, Below.refl _ _⟩
  case round =>
    obtain ⟨k, hk, rfl, hown, hbel⟩ := hrel
    have hsz := hbel.size
    have Hown := hide hown
    have Hb := hide hbel
    clear hown hbel
    by_cases hlt : k < n
    · obtain ⟨ad, b, rfl, hb, hcell⟩ := (H.out.below Hb.out).2.2.2.byte hlt
      have htk := take_snoc' l k b hb
      have Htk := hide htk
      have hbb : b.toNat < 256 := UInt8.toNat_lt b
      have hbl : (byteCells (l.take k)).length ≤ 1000000000 := by rw [bytes_size, List.length_take]; omega
      clear htk hb
      go_wp2_with (at_builtin; refine wp_push rfl (.tmp 14) (.tmp 19) 30 rfl 5 i0 (.int .u8 0) 1 Try.underlying30 hi' hz0 hz1 hz2 rfl w.heap.size _ (byteCells (l.take k)) rfl _ _ rfl Hown.out.src hsz _ rfl rfl (by omega) (by unfold maxLen; omega) ?_)
      intro v' w' hown' hb'
      have Hown' := hide hown'
      have Hb' := hide hb'
      clear hown' hb'
      go_wp2
      go_roundw
      case rel => exact ⟨k + 1, by omega, by go_num, by rw [Htk.out]; exact Hown'.out, Hb.out.trans Hb'.out⟩
      case measure => simp [intOf]; omega
    · have hown2 := Hown.out
      rw [List.take_of_length_le (by rw [Hlen.out]; omega)] at hown2
      have Hown2 := hide hown2
      clear hown2 Hown
      go_wp2
      go_loopw [5, 7] (fun u x wr => ∃ (done : List UInt8) (m : Nat), x = .int .i64 m ∧ (m : Int) ≤ 9223372036854775807 ∧ Own wr w.heap.size 5 u (byteCells done) ∧ Below w.heap.size w wr ∧ done ++ enc m = l ++ enc i.toNat) (fun _ x _ => (intOf x).toNat)
      case atStart => exact ⟨l, i.toNat, by rw [show max i 0 = ((i.toNat : Nat) : Int) by omega], by omega, Hown2.out, Hb.out, rfl⟩
      case round =>
        clear Hb hsz
        obtain ⟨done, m, rfl, hm, hown, hbel, heq⟩ := hrel
        have hsz := hbel.size
        have hbl : (byteCells done).length ≤ 1000000009 := by
          have := congrArg List.length heq
          rw [List.length_append, List.length_append, Hlen.out] at this
          rw [bytes_size]; omega
        have Heq := hide heq
        have Hs := hide hown
        have Hb := hide hbel
        clear heq hown hbel
        by_cases h128 : m < 128
        · have hcell := cell_low m h128
          have Hcell := hide hcell
          have hres := enc_low m h128
          have Hres := hide hres
          clear hcell hres
          go_wp2_with (at_builtin; refine wp_push rfl (.tmp 34) (.tmp 37) 30 rfl 5 i0 (.int .u8 0) 1 Try.underlying30 hi' hz0 hz1 hz2 rfl w.heap.size _ (byteCells done) rfl _ _ rfl Hs.out.src hsz _ rfl rfl (by omega) (by unfold maxLen; omega) ?_)
          intro v' w' hown hb'
          have Hown := hide hown
          clear hown
          go_wp2
          go_ret
          refine ⟨v', rfl, ?_, Hb.out.trans hb'⟩
          rw [← Heq.out, Hres.out, Go.Lib.byteCells_append, Hcell.out]
          exact Hown.out
        · have hcell := cell_high m
          have hres := enc_high m h128
          have Hres := hide hres
          have Hcell := hide hcell
          clear hcell hres
          have hm1 : 128 ≤ m := by omega
          go_wp2_with (at_builtin; refine wp_push rfl (.tmp 25) (.tmp 30) 30 rfl 5 i0 (.int .u8 0) 1 Try.underlying30 hi' hz0 hz1 hz2 rfl w.heap.size _ (byteCells done) rfl _ _ rfl Hs.out.src hsz _ rfl rfl (by omega) (by unfold maxLen; omega) ?_)
          intro v' w' hown hb'
          have Hown := hide hown
          have Hb' := hide hb'
          clear hown hb'
          go_wp2
          go_roundw
          case rel =>
            refine ⟨done ++ [UInt8.ofNat (m % 128 + 128)], m / 128, by simp, by omega, ?_, Hb.out.trans Hb'.out, ?_⟩
            · rw [Go.Lib.byteCells_append, Hcell.out]
              exact Hown.out
            · rw [← Heq.out, Hres.out, List.append_assoc]; rfl
          case measure => simp [intOf]; omega

end Go.Proofs.Ytfljmnjcoagbmaa
