/- Walks of layer 11's program: variable, literal. -/
import Derived.Test.YteokeljmggdecaaDoorHo
namespace Go.Proofs.YteokeljmggdecaaDoor
open Go.RowKit

set_option maxRecDepth 20000 in
set_option maxHeartbeats 1600000 in
theorem pvariable (k : Int) (sg s : ByteArray) (hle : sg.size ≤ s.size) (hs : s.size ≤ 1000000) (w : World) :
    Calls Tryd.prog 46 #[.int .i64 k, .string sg, .string s] w (GotK w (k, wordS (s.data.toList.drop sg.size), sg.size + (wordS (s.data.toList.drop sg.size)).length)) := by
  have HC := fun W => pleading 40 wdB (s.extract sg.size s.size) W (by rw [bs_drop, bs_size, List.length_drop, size_list]; omega) run_word pword
  rw [bs_drop, bs_list] at HC
  have hwl : (wordS (s.data.toList.drop sg.size)).length ≤ s.size := by
    have := tw_len (p := wdB) (s.data.toList.drop sg.size)
    rw [List.length_drop, size_list] at this
    unfold wordS
    omega
  rw [← bs_drop] at HC
  obtain ⟨nm, hnm⟩ : ∃ nm, wordS (s.data.toList.drop sg.size) = nm := ⟨_, rfl⟩
  rw [show (s.data.toList.drop sg.size).takeWhile wdB = nm from hnm] at HC
  rw [hnm] at hwl ⊢
  obtain ⟨T, hT⟩ : ∃ T, bs nm = T := ⟨_, rfl⟩
  have hTs : T.size = nm.length := by rw [← hT, bs_size]
  rw [hT] at HC
  have HC := hide HC
  obtain ⟨N, hN⟩ : ∃ N : Int, (sg.size : Int) + (T.size : Int) = N := ⟨_, rfl⟩
  have HN := hide (show N = ((sg.size + nm.length : Nat) : Int) by rw [← hN, hTs]; omega)
  have hTl : T.size ≤ 1000000 := by omega
  have HF := hide (four_new w (.int .i64 k) (.string T) (.int .i64 0) (.int .i64 N) 33)
  have HB := hide (bnew (Below.refl w.heap.size w) (.cells #[.int .i64 k, .string T, .int .i64 0, .int .i64 N] 33))
  have HT := hide hT
  have hle' : (sg.size : Int) ≤ (s.size : Int) := by omega
  clear hnm hT hTs hwl
  go_enter Tryd.func46, Tryd.ntmps46
  go_wp2_with fail
  with_reducible refine (HC.out _).mono ?_
  rintro en w1 ⟨rfl, rfl⟩
  go_wp2
  exact bodyPost_ret (res_box rfl _ _ w.heap.size _ _ _ _ rfl HF.out) rfl ⟨by rw [HT.out, HN.out], HB.out⟩

def litK (r : List UInt8) : Int × List UInt8 × Nat := match litS r with | none => (0, [], 0) | some x => (4, x.1, x.2 + 1)
/-- A builder behind a box of four cells. -/
theorem lit_start (w : World) : ∃ W0, (w.alloc (.cells #[.int .i64 0, .string ⟨#[]⟩, .int .i64 0, .int .i64 0] 33)).alloc (.cells #[.pointer none, .slice none 0 0] 61) = W0 ∧ W0.heap.size = w.heap.size + 2 ∧
    Lib.IsBuilder 61 5 (w.heap.size + 1) (w.heap.size + 1) (Lib.byteCells []) W0 ∧ Four W0 w.heap.size (.int .i64 0) (.string ⟨#[]⟩) (.int .i64 0) (.int .i64 0) ∧ FreeF W0 w.heap.size ∧ Below w.heap.size w W0 := by
  have hI := Lib.fresh_isBuilder 61 5 (w.alloc (.cells #[.int .i64 0, .string ⟨#[]⟩, .int .i64 0, .int .i64 0] 33))
  have hs1 : (w.alloc (.cells #[.int .i64 0, .string ⟨#[]⟩, .int .i64 0, .int .i64 0] 33)).heap.size = w.heap.size + 1 := by simp
  rw [hs1] at hI
  have hb := bnew (Below.refl _ (w.alloc (.cells #[.int .i64 0, .string ⟨#[]⟩, .int .i64 0, .int .i64 0] 33))) (.cells #[.pointer none, .slice none 0 0] 61)
  refine ⟨_, rfl, by simp, hI, (four_new w _ _ _ _ _).keep hb, (freeF_new w _ _ _ _ _).at_ hb (by simp), bnew (bnew (Below.refl _ w) _) _⟩

set_option maxRecDepth 20000 in
set_option maxHeartbeats 6400000 in
theorem pliteral (s : ByteArray) (h0 : 0 < s.size) (hs : s.size ≤ 1000000) (w : World) :
    Calls Tryd.prog 41 #[.string s] w (GotK w (litK (s.data.toList.drop 1))) := by
  obtain ⟨W0, hW0, hsz0, hI0, hF0, hFr0, hb0⟩ := lit_start w
  obtain ⟨P, hP⟩ : ∃ P, litK (s.data.toList.drop 1) = P := ⟨_, rfl⟩
  rw [hP]
  have HP := hide hP
  have HW0 := hide hW0
  have HI0 := hide hI0
  have HF0 := hide hF0
  have HR0 := hide hFr0
  have HB0 := hide hb0
  have HS0 := hide hsz0
  clear hP hW0 hI0 hF0 hFr0 hb0 hsz0
  have h1 : (1 : Int) ≤ (s.size : Int) := by omega
  go_enter Tryd.func41, Tryd.ntmps41
  go_wp2_with fail
  rw [HW0.out]
  clear HW0
  go_loopw [4] (fun x wr => ∃ (s1 : ByteArray) (n : Nat) (acc : List UInt8), x = .string s1 ∧ s1.size + n + 1 = s.size ∧ acc.length ≤ n ∧ litS (s.data.toList.drop 1) = (litS s1.data.toList).map (fun y => (acc ++ y.1, y.2 + n)) ∧
      Lib.IsBuilder 61 5 (w.heap.size + 1) (w.heap.size + 1) (Lib.byteCells acc) wr ∧ Below (w.heap.size + 1) W0 wr) (fun x _ => lenOf x)
  case atStart =>
    refine ⟨s.extract 1 s.size, 0, [], rfl, by rw [bs_drop, bs_size, List.length_drop, size_list]; omega, Nat.le_refl _, ?_, HI0.out, Below.refl _ _⟩
    rw [bs_drop, bs_list]
    cases litS (s.data.toList.drop 1) <;> rfl
  case round =>
    clear HI0
    obtain ⟨s1, n, acc, rfl, hsz, hacc, hlit, hI, hb⟩ := hrel
    obtain ⟨w1, hw1⟩ : ∃ w1, w1 = wr := ⟨wr, rfl⟩
    subst hw1
    have hF1 := HF0.out.at_ hb (Nat.lt_succ_self _)
    have hR1 := HR0.out.at_ hb (Nat.lt_succ_self _)
    have hsz1 := hb.size
    rw [HS0.out] at hsz1
    have HI := hide hI
    have HB := hide hb
    have HF1 := hide hF1
    have HR1 := hide hR1
    have Hlit := hide hlit
    have Hsz := hide hsz
    have hs1 : s1.size ≤ 1000000 := by omega
    clear hI hb hlit
    by_cases he : s1.size = 0
    · obtain rfl := empty_of he
      have Hy := hide (show P = (0, [], 0) by rw [← HP.out]; unfold litK; rw [Hlit.out]; rfl)
      obtain ⟨⟨-, f0, f1, f2, f3⟩, g0, g1, g2, g3⟩ := And.intro hF1 hR1
      clear hF1 hR1 hsz he
      go_wp2
      refine bodyPost_ret (res_box rfl _ _ w.heap.size _ _ _ _ rfl (put4_four HF1.out _ _ _ _)) rfl ⟨by rw [Hy.out]; rfl, put4_below (HB0.out.trans (HB.out.mono (by omega))) (Nat.le_refl _)⟩
    · have hpos : 0 < s1.size := by omega
      have hne := not_empty s1 hpos
      have hh := head_of hpos
      have hp1 : (0 : Int) < (s1.size : Int) := by omega
      have h34 : (((s1[0]).toNat : Int) == 34) = decide (s1[0] = 34) := u8_eq (n := 34) (by decide)
      by_cases h3 : s1[0] = 34
      · rw [decide_eq_true h3] at h34
        have Hy := hide (show P = (4, acc, n + 2) by
          rw [← HP.out]
          unfold litK
          rw [Hlit.out, hh, h3, litS_end]
          simp only [Option.map_some, List.append_nil]
          rw [show 1 + n + 1 = n + 2 by omega])
        have hN : (s.size : Int) - (s1.size : Int) + 1 = ((n + 2 : Nat) : Int) := by omega
        obtain ⟨N, hNN⟩ : ∃ N : Int, (s.size : Int) - (s1.size : Int) + 1 = N := ⟨_, rfl⟩
        have HN := hide (show N = ((n + 2 : Nat) : Int) by rw [← hNN, hN])
        clear hh h3 hsz he hN hF1 hR1
        go_wp2_with fail
        refine (Tryd.Builder_String_any _ _ _ _ HI.out (by omega)).mono ?_
        rintro e w2 ⟨rfl, hb2⟩
        have HF2 := hide (HF1.out.at_ hb2 (Nat.lt_succ_self _))
        have HR2 := hide (HR1.out.at_ hb2 (Nat.lt_succ_self _))
        have HB2 := hide (HB0.out.trans ((HB.out.trans hb2).mono (by omega)))
        obtain ⟨⟨-, f0, f1, f2, f3⟩, g0, g1, g2, g3⟩ := And.intro HF2.out HR2.out
        obtain ⟨Z, hZ⟩ : ∃ Z, (⟨acc.toArray⟩ : ByteArray) = Z := ⟨_, rfl⟩
        rw [hZ]
        have HZ := hide (show Z = bs acc from hZ.symm)
        clear hb2 hZ
        go_wp2
        refine bodyPost_ret (res_box rfl _ _ w.heap.size _ _ _ _ rfl (put4_four HF2.out _ _ _ _)) rfl ⟨by rw [Hy.out, ← HZ.out, ← HN.out], put4_below HB2.out (Nat.le_refl _)⟩
      · rw [decide_eq_false h3] at h34
        have hh34 : ¬ s1.data.toList.head? = some 34 := by rw [hh]; intro e; injection e with e; exact h3 e
        have HC := hide (pcontentS s1 hpos _ rfl w1)
        obtain ⟨cc, hcc⟩ : ∃ cc, conS s1.data.toList = cc := ⟨_, rfl⟩
        rw [hcc] at HC
        by_cases hz : cc.2 = 0
        · have Hy := hide (show P = (0, [], 0) by
            rw [← HP.out]
            unfold litK
            rw [Hlit.out, con_bad (by rw [hcc]; exact hz) hh34]
            rfl)
          obtain ⟨⟨-, f0, f1, f2, f3⟩, g0, g1, g2, g3⟩ := And.intro hF1 hR1
          rw [hz] at HC
          clear hh h3 hsz he hh34 hcc hz hF1 hR1
          go_wp2_with fail
          with_reducible refine HC.out.mono ?_
          rintro e w2 ⟨rfl, rfl⟩
          go_wp2
          refine bodyPost_ret (res_box rfl _ _ w.heap.size _ _ _ _ rfl (put4_four HF1.out _ _ _ _)) rfl ⟨by rw [Hy.out]; rfl, put4_below (HB0.out.trans (HB.out.mono (by omega))) (Nat.le_refl _)⟩
        · obtain ⟨hg, hg1, hg2⟩ := con_good (by rw [hcc]; exact hz) hh34
          rw [hcc] at hg hg1 hg2
          obtain ⟨c, m⟩ := cc
          dsimp only at hg hg1 hg2 hz HC
          rw [size_list] at hg2
          have Hg := hide hg
          have hmz : ((m : Int) == 0) = false := beq_eq_false_iff_ne.2 (by omega)
          have hm1 : (m : Int) ≤ (s1.size : Int) := by omega
          clear hh h3 he hh34 hcc hz hg hF1 hR1
          go_wp2_with fail
          with_reducible refine HC.out.mono ?_
          rintro e w2 ⟨rfl, rfl⟩
          go_wp2_with fail
          refine (Tryd.Builder_WriteByte _ _ _ (c.toNat : Int) _ HI.out (by rw [byteC_len]; omega) (by omega)).mono ?_
          rintro e w3 ⟨rfl, hI3, hb3⟩
          have HI3 := hide (show Lib.IsBuilder 61 5 (w.heap.size + 1) (w.heap.size + 1) (Lib.byteCells (acc ++ [c])) w3 by
            rw [Go.Lib.byteCells_append]
            exact Or.inr hI3)
          have HB3 := hide (HB.out.trans hb3)
          clear hI3 hb3 hsz
          go_wp2
          go_roundw
          case rel =>
            refine ⟨s1.extract m s1.size, n + m, acc ++ [c], rfl, ?_, ?_, ?_, HI3.out, HB3.out⟩
            · rw [bs_drop, bs_size, List.length_drop, size_list]
              have := Hsz.out
              omega
            · rw [List.length_append]
              simp only [List.length_cons, List.length_nil]
              omega
            · rw [Hlit.out, Hg.out, bs_drop, bs_list, Option.map_map]
              congr 1
              funext y
              simp only [Function.comp, List.append_assoc, List.singleton_append]
              congr 1
              omega
          case measure =>
            simp only [lenOf]
            rw [bs_drop, bs_size, List.length_drop, size_list]
            omega
end Go.Proofs.YteokeljmggdecaaDoor
