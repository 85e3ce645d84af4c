/- The walk of Match of the program. -/
import Derived.Test.YtlabdaomgogflaaDoorW7
import Derived.Deep.OwnRows
namespace Go.Proofs.YtlabdaomgogflaaDoor
open Go.RowKit

theorem match_no (g p : List UInt8) (h : right g ≠ 0) : false = matchL g p := by
  unfold matchL; rw [decide_eq_false h]; rfl
theorem match_yes (g p : List UInt8) (es : List (List UInt8)) (h : right g = 0) (he : parts g = es) : Dm es p p.length es.length = matchL g p := by
  unfold matchL; rw [decide_eq_true h, he, dm_all]; rfl
theorem right22' (s : ByteArray) (r : Int) (h : right s.data.toList = r) (w : World) (hs : s.size ≤ 100000) : Calls Tryd.prog 22 #[.string s] w fun e w' => e = .returned (.int .i64 r) ∧ Below w.heap.size w w' := by
  subst h; exact right22 s w hs
theorem right_range (l : List UInt8) : 0 ≤ right l ∧ right l ≤ 4 := by
  unfold right
  split
  · omega
  · split
    · omega
    · split <;> omega
theorem el36_n (s : ByteArray) (es : List (List UInt8)) (n : Nat) (hn : es.length = n) (w : World) (hs : s.size ≤ 100000) (h : elems s.data.toList = some es) : Calls Tryd.prog 36 #[.string s] w fun e w' => (∃ ao cap, e = .returned (.tuple #[.slice ao n cap, .bool true]) ∧ RdS w' ao n cap 1 (strV es)) ∧ Below w.heap.size w w' := by
  subst hn; exact el36_yes s es w hs h

theorem info4 : (Tryd.prog.info? 4).map (fun i => (i.zero, i.size, i.bytes)) = some (some (.bool false), 1, 1) := by kernel_rfl
theorem made_at (n j : Nat) (h : j < n) : (madeCells #[Value.bool false] n)[j]? = some (.bool false) := by
  unfold madeCells
  simp [h, Nat.mod_one]
theorem mk_bools (n : Nat) (hn : n ≤ 200000) (w : World) : ∃ w3, (Instr.makeSlice 41 (.int .i64 ((n : Int) + 1)) (.int .i64 ((n : Int) + 1))).run Tryd.prog w = .ok (.slice (some ⟨w.heap.size, 0, none⟩) (n + 1) (n + 1)) w3 ∧ BRow w3 w.heap.size (n + 1) (fun _ => false) ∧ Below w.heap.size w w3 := by
  have h := run_make_row' (P := Tryd.prog) 41 4 (.bool false) 1 Tryd.underlying41 info4 rfl .i64 .i64 (n + 1) (by omega) (by omega) w
  rw [show ((n + 1 : Nat) : Int) = (n : Int) + 1 by omega] at h
  refine ⟨_, h, ⟨by simp, fun j hj => ⟨?_, ?_⟩⟩, bnew (Below.refl _ _) _⟩
  · rw [World.cell?_alloc_mark]
    exact made_at (n + 1) j hj
  · rw [World.frozen?_alloc_mark]
    simp

set_option maxHeartbeats 1600000 in
theorem match26 (g p : ByteArray) (w : World) (hgs : g.size ≤ 100000) (hps : p.size ≤ 100000) : Calls Tryd.prog 26 #[.string g, .string p] w fun e w' => e = .returned (.bool (matchL g.data.toList p.data.toList)) ∧ Below w.heap.size w w' := by
  by_cases hr : right g.data.toList = 0
  · obtain ⟨es, hel, hpt⟩ := right_some _ hr
    have hgood := elems_good _ _ hel
    obtain ⟨hlen, hlens⟩ := elems_len _ _ hel
    rw [size_list] at hlen hlens
    have hres := match_yes _ p.data.toList es hr hpt
    obtain ⟨n, hn⟩ : ∃ n, es.length = n := ⟨_, rfl⟩
    rw [hn] at hlen hres
    rw [size_list] at hres
    have hgl : ∀ e ∈ es, GoodE e ∧ e.length ≤ 100000 := fun e he => ⟨hgood e he, by have := hlens e he; omega⟩
    have Hr := hide hr
    have Hel := hide hel
    have Hn := hide hn
    have Hres := hide hres
    have Hgl := hide hgl
    have Hgood := hide hgood
    clear hr hel hn hres hgl hgood hpt hlens
    go_enter Tryd.func26, Tryd.ntmps26
    go_wp2_with fail
    refine (right22' g 0 Hr.out _ hgs).mono ?_
    rintro e w1 ⟨rfl, hb1⟩
    go_wp2_with fail
    refine (el36_n g es n Hn.out _ hgs Hel.out).mono ?_
    rintro e w2 ⟨⟨ao, cap, rfl, hrd⟩, hb2⟩
    obtain ⟨w3, hmk, hbr3, hb3⟩ := mk_bools n (by omega) w2
    obtain ⟨hc0, hf0⟩ := hbr3.2 0 (by omega)
    have hpt : Parts w3 ao cap w2.heap.size es := ⟨w2, by rw [Hn.out]; exact hrd, hb3, Nat.le_refl _⟩
    have hbr4 := hbr3.set 0 (by omega) true
    have hbw4 : Below w2.heap.size w3 (w3.setCell ⟨w2.heap.size, 0, none⟩ (.bool true)) := (Below.refl w2.heap.size w3).setCell (by exact Nat.le_refl _) _
    have hpt4 := hpt.below hbw4
    have hb4 := hb3.trans hbw4
    have Hpt4 := hide hpt4
    have Hbr4 := hide hbr4
    have Hb4 := hide hb4
    clear hrd hpt hbr3 hb3 hbr4 hbw4 hpt4 hb4
    obtain ⟨bk, hbk⟩ : ∃ bk, w2.heap.size = bk := ⟨_, rfl⟩
    rw [hbk] at hmk hc0 hf0 Hpt4 Hbr4 Hb4
    go_wp2_with fail
    refine (skip39 es n Hn.out ao cap bk (n + 1) _ _ (by omega) Hgood.out Hpt4.out Hbr4.out).mono ?_
    rintro e w5 ⟨rfl, hbr5, hb5⟩
    have hpt5 := Hpt4.out.below hb5
    have hb25 := Hb4.out.trans hb5
    have hd5 : BRow w5 bk (n + 1) (Dm es p.data.toList 0) := hbr5.ext fun j _ => by
      have e : (upd (fun _ => false) 0 true) = fun j => decide (j = 0) := by
        funext j
        unfold upd
        by_cases h : j = 0
        · rw [if_pos h, decide_eq_true h]
        · rw [if_neg h, decide_eq_false h]
      rw [e]; rfl
    have Hpt5 := hide hpt5
    have Hb25 := hide hb25
    have Hd5 := hide hd5
    clear hpt5 hb25 hd5 hbr5 hb5 hmk hc0 hf0
    go_wp2_with fail
    go_loopw [28] (fun i wr => ∃ k : Nat, k ≤ p.size ∧ i = .int .i64 k ∧ BRow wr bk (n + 1) (Dm es p.data.toList k) ∧ Below bk w5 wr) (fun i _ => p.size - (intOf i).toNat)
    case atStart => exact ⟨0, Nat.zero_le _, rfl, Hd5.out, Below.refl _ _⟩
    case round =>
      obtain ⟨k, hk, rfl, hbr, hbw⟩ := hrel
      have Hbr := hide hbr
      have Hbw := hide hbw
      clear hbr hbw
      by_cases hlt : k < p.size
      · have hbb : p[k].toNat < 256 := UInt8.toNat_lt _
        have hpk : p.data.toList.getD k 0 = p[k] := getD_byte p k hlt
        have Hpk := hide hpk
        clear hpk
        go_wp2_with fail
        refine (step40 es n Hn.out ao cap bk (n + 1) _ p[k] _ (by omega) Hgl.out (Hpt5.out.below Hbw.out) Hbr.out).mono ?_
        rintro e w6 ⟨rfl, hbr6, hb6⟩
        have Hbr6 := hide hbr6
        have Hb6 := hide hb6
        clear hbr6 hb6
        go_wp2_with fail
        refine (skip39 es n Hn.out ao cap bk (n + 1) _ _ (by omega) Hgood.out (Hpt5.out.below (Hbw.out.trans Hb6.out)) Hbr6.out).mono ?_
        rintro e w7 ⟨rfl, hbr7, hb7⟩
        have hd7 : BRow w7 bk (n + 1) (Dm es p.data.toList (k + 1)) := hbr7.ext fun j _ => by
          show _ = skF es (stF es (Dm es p.data.toList k) (p.data.toList.getD k 0)) j
          rw [Hpk.out]
        have hb57 := (Hbw.out.trans Hb6.out).trans hb7
        have Hd7 := hide hd7
        have Hb57 := hide hb57
        clear hd7 hb57 hbr7 hb7
        go_wp2
        go_roundw
        case rel => exact ⟨k + 1, by omega, by go_num, Hd7.out, Hb57.out⟩
        case measure => simp [intOf]; omega
      · obtain rfl : k = p.size := by omega
        obtain ⟨hcn, _⟩ := Hbr.out.2 n (by omega)
        rw [Hres.out] at hcn
        have hbf : Below w.heap.size w wr := by
          have h1 := bgo hb1 hb2
          have h2 := Hb25.out.trans Hbw.out
          rw [← hbk] at h2
          exact bgo h1 h2
        have Hbf := hide hbf
        clear hbf
        go_wp2
        go_ret
        exact ⟨rfl, Hbf.out⟩
  · have hrr := right_range g.data.toList
    obtain ⟨r, hre⟩ : ∃ r, right g.data.toList = r := ⟨_, rfl⟩
    have hno := match_no _ p.data.toList hr
    have Hno := hide hno
    rw [hre] at hr hrr
    have hb : (r != 0) = true := by simpa using hr
    have Hre := hide hre
    clear hre hno
    go_enter Tryd.func26, Tryd.ntmps26
    go_wp2_with (go_at_call 22; refine (right22' g r Hre.out _ hgs).mono ?_; rintro e w1 ⟨rfl, hb1⟩)
    go_ret
    exact ⟨ret_bool Hno.out, hb1⟩

end Go.Proofs.YtlabdaomgogflaaDoor
