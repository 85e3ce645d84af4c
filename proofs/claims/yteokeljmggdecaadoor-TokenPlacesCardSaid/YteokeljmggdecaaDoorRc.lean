/- Walks of layer 11's reference: Quote, Print. -/
import Derived.Test.YteokeljmggdecaaDoorHk
import Derived.Test.YteokeljmggdecaaDoorRa
namespace Go.Proofs.YteokeljmggdecaaDoor
open Go.RowKit
open Go.Lib (byteCells)

theorem own_lit5 (w : World) (cs : Array Value) (xs : List Value) (n : Nat) (h : cs.toList = xs) (hn : xs.length = n) (hl : n ≤ 1000) : Own (w.alloc (.cells cs 5)) w.heap.size 5 (.slice (some ⟨w.heap.size, 0, none⟩) n n) xs := by
  subst hn
  have hc : cs.size = xs.length * 1 := by rw [← Array.length_toList, h, Nat.mul_one]
  refine ⟨by rw [Nat.mul_one], Or.inr ⟨w.heap.size, xs.length, cs, rfl, Nat.le_refl _, heap_alloc_new w _, Nat.le_refl _, by unfold maxLen; omega, hc, ?_⟩⟩
  rw [h, List.take_of_length_le (by rw [Nat.mul_one]; exact Nat.le_refl _)]
theorem info5 : (Tryd.prog.info? 5).map (fun i => (i.zero, i.size, i.bytes)) = some (some (.int .u8 0), 1, 1) := by kernel_rfl
theorem body_step {s : ByteArray} {k : Nat} (h : k < s.size) : 34 :: bodyS (s.data.toList.take (k + 1)) = (34 :: bodyS (s.data.toList.take k)) ++ writeS s[k] := by
  rw [List.take_succ_eq_append_getElem (by simpa using h), body_app, ← List.cons_append]
  congr 1
  show writeS (s.data.toList[k]) ++ [] = _
  rw [List.append_nil]
  rfl

set_option maxRecDepth 20000 in
set_option maxHeartbeats 6400000 in
theorem rquote (s : ByteArray) (hs : s.size ≤ 1000000) (w : World) : Calls Tryd.prog 33 #[.string s] w fun e w' => e = .returned (.string (bs (quoteS s.data.toList))) ∧ Below w.heap.size w w' := by
  obtain ⟨i0, hi, hz0, hz1, hz2⟩ := info_parts info5
  obtain ⟨w0, hw0⟩ : ∃ w0, w.alloc (.cells #[.int .u8 34] 5) = w0 := ⟨_, rfl⟩
  have hO0 : Own w0 w.heap.size 5 (.slice (some ⟨w.heap.size, 0, none⟩) 1 1) (byteCells (34 :: bodyS (s.data.toList.take 0))) := by rw [← hw0]; exact own_lit5 w #[.int .u8 34] _ 1 rfl rfl (by decide)
  have hb0 : Below w.heap.size w w0 := by rw [← hw0]; exact bnew (Below.refl _ w) _
  have HO0 := hide hO0
  have HB0 := hide hb0
  have HW0 := hide hw0
  clear hO0 hb0 hw0
  go_enter Tryd.func33, Tryd.ntmps33
  go_wp2_with fail
  rw [HW0.out]
  clear HW0
  go_loopw [3, 4] (fun u y wr => ∃ k : Nat, k ≤ s.size ∧ y = .int .i64 (k : Int) ∧ Own wr w.heap.size 5 u (byteCells (34 :: bodyS (s.data.toList.take k))) ∧ Below w.heap.size w wr) (fun _ y _ => s.size - (intOf y).toNat)
  case atStart => exact ⟨0, Nat.zero_le _, rfl, HO0.out, HB0.out⟩
  case round =>
    clear HO0 HB0
    obtain ⟨k, hk, rfl, hown, hb⟩ := hrel
    obtain ⟨w2, hw2⟩ : ∃ w2, w2 = wr := ⟨wr, rfl⟩
    subst hw2
    have hsz := hb.size
    have HB := hide hb
    have HO := hide hown
    have hlen : (byteCells (34 :: bodyS (s.data.toList.take k))).length ≤ 2000001 := by
      have := body_len (s.data.toList.take k)
      rw [List.length_take, size_list] at this
      rw [byteC_len]
      simp only [List.length_cons]
      omega
    have Hlen := hide hlen
    clear hb hlen
    by_cases hlt : k < s.size
    · have hki : (k : Int) < (s.size : Int) := by omega
      have hst := body_step hlt
      have q34 : (((s[k]).toNat : Int) == 34) = decide (s[k] = 34) := u8_eq (n := 34) (by decide)
      have q92 : (((s[k]).toNat : Int) == 92) = decide (s[k] = 92) := u8_eq (n := 92) (by decide)
      have q10 : (((s[k]).toNat : Int) == 10) = decide (s[k] = 10) := u8_eq (n := 10) (by decide)
      obtain ⟨L, hL⟩ : ∃ L, byteCells (34 :: bodyS (s.data.toList.take k)) = L := ⟨_, rfl⟩
      rw [hL] at HO Hlen hown
      have HLL := hide hL
      clear hown hL
      by_cases h34 : s[k] = 34 ∨ s[k] = 92
      · have hw : writeS s[k] = [92, s[k]] := by
          unfold writeS
          rcases h34 with h | h <;> rw [h] <;> rfl
        rw [hw] at hst
        have Hst := hide (show byteCells (34 :: bodyS (s.data.toList.take (k + 1))) = L ++ [.int .u8 92, .int .u8 ((s[k]).toNat : Int)] by rw [hst, Go.Lib.byteCells_append, HLL.out]; rfl)
        have HS := hide (lit_sl w2 #[.int .u8 92, .int .u8 ((s[k]).toNat : Int)] 5 [.int .u8 92, .int .u8 ((s[k]).toNat : Int)] 2 rfl rfl (by decide))
        have HO2 := hide (HO.out.below (bnew (Below.refl w2.heap.size w2) (.cells #[.int .u8 92, .int .u8 ((s[k]).toNat : Int)] 5)))
        have HB2 := hide (bnew (Below.refl w2.heap.size w2) (.cells #[.int .u8 92, .int .u8 ((s[k]).toNat : Int)] 5))
        have hone : ∀ u ∈ [Value.int .u8 92, .int .u8 ((s[k]).toNat : Int)], u.oneCell' = true := by
          intro u hu
          simp at hu
          rcases hu with rfl | rfl <;> rfl
        have Hone := hide hone
        have hsz2 : w.heap.size ≤ (w2.alloc (.cells #[.int .u8 92, .int .u8 ((s[k]).toNat : Int)] 5)).heap.size := by simp; omega
        have Hsz2 := hide hsz2
        clear hst hw hone hsz2
        by_cases h3 : s[k] = 34
        · rw [decide_eq_true h3] at q34
          clear h34 h3 q92 q10
          go_wp2_with (at_builtin; refine wp_join (by rfl) (.tmp 22) (.tmp 26) 59 (by rfl) 5 i0 _ 1 Tryd.underlying59 hi hz0 hz1 hz2 rfl w.heap.size u3 _ (by rfl) _ HO2.out Hsz2.out (some ⟨w2.heap.size, 0, none⟩) 2 2 _ (by rfl) HS.out Hone.out (by have := Hlen.out; omega) (by have := Hlen.out; unfold maxLen; omega) ?_)
          intro v' w3 hown3 hb3
          rw [← Hst.out] at hown3
          obtain ⟨A3, m3, c3, rfl, -, -⟩ := hown3.sl5
          have HO3 := hide hown3
          have HB3 := hide (HB.out.trans ((HB2.out.mono hsz).trans hb3))
          clear hown3 hb3
          go_wp2
          go_roundw
          case rel => exact ⟨k + 1, by omega, by go_num, HO3.out, HB3.out⟩
          case measure => simp [intOf]; omega
        · have h9 : s[k] = 92 := by rcases h34 with h | h; exact absurd h h3; exact h
          rw [decide_eq_false h3] at q34
          rw [decide_eq_true h9] at q92
          clear h34 h3 h9 q10
          go_wp2_with (at_builtin; refine wp_join (by rfl) (.tmp 22) (.tmp 26) 59 (by rfl) 5 i0 _ 1 Tryd.underlying59 hi hz0 hz1 hz2 rfl w.heap.size u3 _ (by rfl) _ HO2.out Hsz2.out (some ⟨w2.heap.size, 0, none⟩) 2 2 _ (by rfl) HS.out Hone.out (by have := Hlen.out; omega) (by have := Hlen.out; unfold maxLen; omega) ?_)
          intro v' w3 hown3 hb3
          rw [← Hst.out] at hown3
          obtain ⟨A3, m3, c3, rfl, -, -⟩ := hown3.sl5
          have HO3 := hide hown3
          have HB3 := hide (HB.out.trans ((HB2.out.mono hsz).trans hb3))
          clear hown3 hb3
          go_wp2
          go_roundw
          case rel => exact ⟨k + 1, by omega, by go_num, HO3.out, HB3.out⟩
          case measure => simp [intOf]; omega
      · rw [decide_eq_false (fun h => h34 (Or.inl h))] at q34
        rw [decide_eq_false (fun h => h34 (Or.inr h))] at q92
        by_cases h10 : s[k] = 10
        · have hw : writeS s[k] = [92, 110] := by rw [h10]; rfl
          rw [hw] at hst
          rw [decide_eq_true h10] at q10
          have Hst := hide (show byteCells (34 :: bodyS (s.data.toList.take (k + 1))) = L ++ [.int .u8 92, .int .u8 110] by rw [hst, Go.Lib.byteCells_append, HLL.out]; rfl)
          have HS := hide (lit_sl w2 #[.int .u8 92, .int .u8 110] 5 [.int .u8 92, .int .u8 110] 2 rfl rfl (by decide))
          have HO2 := hide (HO.out.below (bnew (Below.refl w2.heap.size w2) (.cells #[.int .u8 92, .int .u8 110] 5)))
          have HB2 := hide (bnew (Below.refl w2.heap.size w2) (.cells #[.int .u8 92, .int .u8 110] 5))
          have hone : ∀ u ∈ [Value.int .u8 92, .int .u8 110], u.oneCell' = true := by
            intro u hu
            simp at hu
            rcases hu with rfl | rfl <;> rfl
          have Hone := hide hone
          have hsz2 : w.heap.size ≤ (w2.alloc (.cells #[.int .u8 92, .int .u8 110] 5)).heap.size := by simp; omega
          have Hsz2 := hide hsz2
          clear hst hw hone hsz2 h34 h10
          go_wp2_with (at_builtin; refine wp_join (by rfl) (.tmp 32) (.tmp 33) 59 (by rfl) 5 i0 _ 1 Tryd.underlying59 hi hz0 hz1 hz2 rfl w.heap.size u3 _ (by rfl) _ HO2.out Hsz2.out (some ⟨w2.heap.size, 0, none⟩) 2 2 _ (by rfl) HS.out Hone.out (by have := Hlen.out; omega) (by have := Hlen.out; unfold maxLen; omega) ?_)
          intro v' w3 hown3 hb3
          rw [← Hst.out] at hown3
          obtain ⟨A3, m3, c3, rfl, -, -⟩ := hown3.sl5
          have HO3 := hide hown3
          have HB3 := hide (HB.out.trans ((HB2.out.mono hsz).trans hb3))
          clear hown3 hb3
          go_wp2
          go_roundw
          case rel => exact ⟨k + 1, by omega, by go_num, HO3.out, HB3.out⟩
          case measure => simp [intOf]; omega
        · have hw : writeS s[k] = [s[k]] := by unfold writeS; rw [if_neg (fun h => h34 (Or.inl h)), if_neg (fun h => h34 (Or.inr h)), if_neg h10]
          rw [hw] at hst
          rw [decide_eq_false h10] at q10
          have Hst := hide (show byteCells (34 :: bodyS (s.data.toList.take (k + 1))) = L ++ [.int .u8 ((s[k]).toNat : Int)] by rw [hst, Go.Lib.byteCells_append, HLL.out]; rfl)
          clear hst hw h34 h10
          go_wp2_with (at_builtin; refine wp_push_far (by rfl) (.tmp 35) (.tmp 39) 59 (by rfl) 5 i0 _ 1 Tryd.underlying59 hi hz0 hz1 hz2 rfl w.heap.size u3 _ (by rfl) w2 (.int .u8 ((s[k]).toNat : Int)) rfl HO.out hsz _ rfl (by rfl) (by have := Hlen.out; omega) (by have := Hlen.out; unfold maxLen; omega) _ ?_)
          intro v' w3 hown3 hb3 _
          rw [← Hst.out] at hown3
          obtain ⟨A3, m3, c3, rfl, -, -⟩ := hown3.sl5
          have HO3 := hide hown3
          have HB3 := hide (HB.out.trans hb3)
          clear hown3 hb3
          go_wp2
          go_roundw
          case rel => exact ⟨k + 1, by omega, by go_num, HO3.out, HB3.out⟩
          case measure => simp [intOf]; omega
    · have hki : ¬ (k : Int) < (s.size : Int) := by omega
      have hk' : s.data.toList.take k = s.data.toList := List.take_of_length_le (by rw [size_list]; omega)
      rw [hk'] at HO Hlen hown
      clear hk' hown
      go_wp2_with (at_builtin; refine wp_push_far (by rfl) (.tmp 41) (.tmp 42) 59 (by rfl) 5 i0 _ 1 Tryd.underlying59 hi hz0 hz1 hz2 rfl w.heap.size u3 _ (by rfl) w2 (.int .u8 34) rfl HO.out hsz _ rfl (by rfl) (by have := Hlen.out; omega) (by have := Hlen.out; unfold maxLen; omega) _ ?_)
      intro v' w3 hown3 hb3 _
      have hown4 : Own w3 w.heap.size 5 v' (byteCells (quoteS s.data.toList)) := by
        unfold quoteS
        rw [← List.cons_append, Go.Lib.byteCells_append]
        exact hown3
      obtain ⟨A3, m3, c3, rfl, hm3, hs3⟩ := hown4.sl5
      have hcv := conv_run hs3.reads (c := c3) 59 9 5 Tryd.underlying59 Tryd.underlying5 Tryd.underlying9 (fun e => by have := hs3.2.2.1 e; have := hs3.1; omega)
      obtain ⟨Z, hZ⟩ : ∃ Z, (⟨(quoteS s.data.toList).toArray⟩ : ByteArray) = Z := ⟨_, rfl⟩
      rw [hZ] at hcv
      have HZ := hide (show Z = bs (quoteS s.data.toList) from hZ.symm)
      have HB3 := hide (HB.out.trans hb3)
      clear hown3 hown4 hb3 hs3 hm3 hZ
      go_wp2
      go_ret
      exact ⟨ret_str HZ.out, HB3.out⟩

theorem print_snoc (l : List Tk) (t : Tk) (h : l ≠ []) : printS (l ++ [t]) = printS l ++ 32 :: tokP t.kind t.text := by
  induction l with
  | nil => exact absurd rfl h
  | cons x l ih =>
    cases l with
    | nil => rfl
    | cons y l =>
      rw [List.cons_append, List.cons_append, text_more, text_more, ← List.cons_append, ih (by simp), List.append_assoc]
      rfl
theorem app_list (a b : ByteArray) : (a ++ b).data.toList = a.data.toList ++ b.data.toList := ByteArray.toList_data_append
theorem short_take {l : List Tk} (h : Short l) (k : Nat) : Short (l.take k) := fun t ht => h t (List.mem_of_mem_take ht)

set_option maxRecDepth 20000 in
set_option maxHeartbeats 12800000 in
theorem rprint (A : Option Addr) (n c : Nat) (l : List Tk) (w : World) (h : TkS w A n c l) (hn : n ≤ 700) (hsh : Short l) :
    Calls Tryd.prog 17 #[.slice A n c] w fun e w' => e = .returned (.tuple #[.string (bs (if allRight l = true then printS l else [])), .int .i64 (if allRight l = true then 0 else 1)]) ∧ Below w.heap.size w w' := by
  have H1 := hide h
  have Hn := hide h.2.2.1
  have hnc := h.1
  have hcc := h.2.1
  have Hsh := hide hsh
  obtain ⟨P, hP⟩ : ∃ P, bs (if allRight l = true then printS l else []) = P := ⟨_, rfl⟩
  obtain ⟨E, hE⟩ : ∃ E : Int, (if allRight l = true then 0 else 1) = E := ⟨_, rfl⟩
  rw [hP, hE]
  have HP := hide hP
  have HE := hide hE
  clear h hsh hP hE
  go_enter Tryd.func17, Tryd.ntmps17
  go_wp2_with fail
  go_loopw [4, 5] (fun u y wr => ∃ (k : Nat) (S : ByteArray), k ≤ n ∧ u = .string S ∧ y = .int .i64 (k : Int) ∧ S.data.toList = printS (l.take k) ∧ Below w.heap.size w wr ∧ allRight (l.take k) = true) (fun _ y _ => n - (intOf y).toNat)
  case atStart => exact ⟨0, ⟨#[]⟩, Nat.zero_le _, rfl, rfl, rfl, Below.refl _ _, rfl⟩
  case round =>
    obtain ⟨k, S, hk, rfl, rfl, hS, hb, hr⟩ := hrel
    obtain ⟨w2, hw2⟩ : ∃ w2, w2 = wr := ⟨wr, rfl⟩
    subst hw2
    have hsz := hb.size
    have HB := hide hb
    have HR := hide hr
    have HS := hide hS
    have hSs : S.size ≤ 150000 := by
      have h1 := print_len (short_take Hsh.out k)
      rw [← hS, size_list, List.length_take] at h1
      omega
    by_cases hlt : k < n
    · obtain ⟨g, o, t, rfl, ht, c0, c1, c2, c3⟩ := (H1.out.below hb).at_ hlt
      have htl : t.text.length ≤ 100 := Hsh.out t (List.mem_of_getElem? ht)
      have hki : (k : Int) < (n : Int) := by omega
      obtain ⟨q, hq⟩ : ∃ q, rightS t.kind t.text = q := ⟨_, rfl⟩
      have HC := hide (fun W => rright t.kind t.at_ t.en (bs t.text) (by rw [bs_size]; omega) q (by rw [bs_list]; exact hq) W)
      have Hst := hide (take_snocT ht)
      have HT := hide ht
      obtain ⟨tk, htk⟩ : ∃ tk, t.kind = tk := ⟨_, rfl⟩
      obtain ⟨tt, htt⟩ : ∃ tt, bs t.text = tt := ⟨_, rfl⟩
      obtain ⟨ta, hta⟩ : ∃ ta, t.at_ = ta := ⟨_, rfl⟩
      obtain ⟨te, hte⟩ : ∃ te, t.en = te := ⟨_, rfl⟩
      have htts : tt.size ≤ 100 := by rw [← htt, bs_size]; exact htl
      have Htd := hide (show tt.data.toList = t.text by rw [← htt, bs_list])
      rw [htk, htt, hta, hte] at HC
      rw [htk] at c0
      rw [htt] at c1
      rw [hta] at c2
      rw [hte] at c3
      have Htk := hide htk
      have Hq := hide hq
      clear hb hr hS hq ht htk htt hta hte htl
      cases q with
      | false =>
        have HA := hide (show allRight l = false from not_right HT.out (fun e => by rw [right_of e] at Hq; have := Hq.out; cases this))
        go_wp2_with fail
        with_reducible refine (HC.out _).mono ?_
        rintro e w3 ⟨rfl, hb3⟩
        have HB3 := hide (bgo HB.out hb3)
        clear hb3
        go_wp2
        go_ret2
        exact ⟨ret_si (by rw [← HP.out, HA.out]; rfl) (by rw [← HE.out, HA.out]; rfl), HB3.out⟩
      | true =>
        have HR2 := hide (show allRight (l.take (k + 1)) = true by rw [Hst.out]; exact right_snoc HR.out Hq.out)
        have HQ := hide (fun W => rquote tt (by omega) W)
        have hql : (quoteS tt.data.toList).length ≤ 202 := by
          have := tokP_len 4 tt.data.toList
          rw [size_list] at this
          have h2 : tokP 4 tt.data.toList = quoteS tt.data.toList := rfl
          rw [h2] at this
          omega
        obtain ⟨QQ, hQQ⟩ : ∃ QQ, bs (quoteS tt.data.toList) = QQ := ⟨_, rfl⟩
        have hqs : QQ.size ≤ 202 := by rw [← hQQ, bs_size]; exact hql
        have Hqd := hide (show QQ.data.toList = quoteS tt.data.toList by rw [← hQQ, bs_list])
        rw [hQQ] at HQ
        clear hql hQQ
        by_cases hk0 : k = 0
        · have HS0 := hide (show printS (l.take (k + 1)) = tokP tk tt.data.toList by
            rw [Hst.out, show l.take k = [] by rw [hk0]; rfl, List.nil_append, text_one, Htk.out, Htd.out])
          have HSn := hide (show S.data.toList = [] by rw [HS.out, hk0]; rfl)
          have hkd : decide ((k : Int) > 0) = false := decide_eq_false (by omega)
          have hkd' : decide ((0 : Int) < (k : Int)) = false := decide_eq_false (by omega)
          have hkn : decide (0 < k) = false := decide_eq_false (by omega)
          have hkm : ¬ 0 < k := by omega
          clear hk0
          by_cases h4 : tk = 4
          · subst h4
            have HN := hide (show (S ++ QQ).data.toList = printS (l.take (k + 1)) by
              rw [HS0.out]
              simp only [app_list, HSn.out, Hqd.out]
              simp [tokP])
            go_wp2_with fail
            with_reducible refine (HC.out _).mono ?_
            rintro e w3 ⟨rfl, hb3⟩
            obtain ⟨d0, d1⟩ := And.intro ((hb3.cell (p := ⟨g, o + k * 4, none⟩) (World.block_lt_of_cell? _ _ c0)).trans c0) ((hb3.cell (p := ⟨g, o + k * 4 + 1, none⟩) (World.block_lt_of_cell? _ _ c1)).trans c1)
            have HB3 := hide (bgo HB.out hb3)
            clear hb3 c0 c1 c2 c3
            go_wp2_with fail
            with_reducible refine (HQ.out _).mono ?_
            rintro e w4 ⟨rfl, hb4⟩
            have HB4 := hide (bgo HB3.out hb4)
            clear hb4 d0 d1
            go_wp2
            go_roundw
            case rel => exact ⟨k + 1, _, by omega, rfl, by go_num, HN.out, HB4.out, HR2.out⟩
            case measure => simp [intOf]; omega
          · have e4 : (tk == 4) = false := beq_eq_false_iff_ne.2 h4
            by_cases h6 : tk = 6
            · subst h6
              have HN := hide (show ((S ++ ⟨#[36]⟩) ++ tt).data.toList = printS (l.take (k + 1)) by
                rw [HS0.out]
                simp only [app_list, HSn.out]
                simp [tokP])
              clear h4
              go_wp2_with fail
              with_reducible refine (HC.out _).mono ?_
              rintro e w3 ⟨rfl, hb3⟩
              obtain ⟨d0, d1⟩ := And.intro ((hb3.cell (p := ⟨g, o + k * 4, none⟩) (World.block_lt_of_cell? _ _ c0)).trans c0) ((hb3.cell (p := ⟨g, o + k * 4 + 1, none⟩) (World.block_lt_of_cell? _ _ c1)).trans c1)
              have HB3 := hide (bgo HB.out hb3)
              clear hb3 c0 c1 c2 c3
              go_wp2
              go_roundw
              case rel => exact ⟨k + 1, _, by omega, rfl, by go_num, HN.out, HB3.out, HR2.out⟩
              case measure => simp [intOf]; omega
            · have e6 : (tk == 6) = false := beq_eq_false_iff_ne.2 h6
              by_cases h7 : tk = 7
              · subst h7
                have HN := hide (show ((S ++ ⟨#[36, 36]⟩) ++ tt).data.toList = printS (l.take (k + 1)) by
                  rw [HS0.out]
                  simp only [app_list, HSn.out]
                  simp [tokP])
                clear h4 h6
                go_wp2_with fail
                with_reducible refine (HC.out _).mono ?_
                rintro e w3 ⟨rfl, hb3⟩
                obtain ⟨d0, d1⟩ := And.intro ((hb3.cell (p := ⟨g, o + k * 4, none⟩) (World.block_lt_of_cell? _ _ c0)).trans c0) ((hb3.cell (p := ⟨g, o + k * 4 + 1, none⟩) (World.block_lt_of_cell? _ _ c1)).trans c1)
                have HB3 := hide (bgo HB.out hb3)
                clear hb3 c0 c1 c2 c3
                go_wp2
                go_roundw
                case rel => exact ⟨k + 1, _, by omega, rfl, by go_num, HN.out, HB3.out, HR2.out⟩
                case measure => simp [intOf]; omega
              · have e7 : (tk == 7) = false := beq_eq_false_iff_ne.2 h7
                have HN := hide (show (S ++ tt).data.toList = printS (l.take (k + 1)) by
                  rw [HS0.out]
                  simp only [app_list, HSn.out]
                  simp [tokP, h4, h6, h7])
                clear h4 h6 h7
                go_wp2_with fail
                with_reducible refine (HC.out _).mono ?_
                rintro e w3 ⟨rfl, hb3⟩
                obtain ⟨d0, d1⟩ := And.intro ((hb3.cell (p := ⟨g, o + k * 4, none⟩) (World.block_lt_of_cell? _ _ c0)).trans c0) ((hb3.cell (p := ⟨g, o + k * 4 + 1, none⟩) (World.block_lt_of_cell? _ _ c1)).trans c1)
                have HB3 := hide (bgo HB.out hb3)
                clear hb3 c0 c1 c2 c3
                go_wp2
                go_roundw
                case rel => exact ⟨k + 1, _, by omega, rfl, by go_num, HN.out, HB3.out, HR2.out⟩
                case measure => simp [intOf]; omega
        · have HS0 := hide (show printS (l.take (k + 1)) = S.data.toList ++ 32 :: tokP tk tt.data.toList by
            rw [Hst.out, print_snoc _ _ (fun e => by have := congrArg List.length e; rw [List.length_take, Hn.out] at this; simp at this; omega), HS.out, Htk.out, Htd.out])
          have hkd : decide ((k : Int) > 0) = true := decide_eq_true (by omega)
          have hkd' : decide ((0 : Int) < (k : Int)) = true := decide_eq_true (by omega)
          have hkn : decide (0 < k) = true := decide_eq_true (by omega)
          have hkm : 0 < k := by omega
          clear hk0
          by_cases h4 : tk = 4
          · subst h4
            have HN := hide (show ((S ++ ⟨#[32]⟩) ++ QQ).data.toList = printS (l.take (k + 1)) by
              rw [HS0.out]
              simp only [app_list, Hqd.out]
              simp [tokP])
            go_wp2_with fail
            with_reducible refine (HC.out _).mono ?_
            rintro e w3 ⟨rfl, hb3⟩
            obtain ⟨d0, d1⟩ := And.intro ((hb3.cell (p := ⟨g, o + k * 4, none⟩) (World.block_lt_of_cell? _ _ c0)).trans c0) ((hb3.cell (p := ⟨g, o + k * 4 + 1, none⟩) (World.block_lt_of_cell? _ _ c1)).trans c1)
            have HB3 := hide (bgo HB.out hb3)
            clear hb3 c0 c1 c2 c3
            go_wp2_with fail
            with_reducible refine (HQ.out _).mono ?_
            rintro e w4 ⟨rfl, hb4⟩
            have HB4 := hide (bgo HB3.out hb4)
            clear hb4 d0 d1
            go_wp2
            go_roundw
            case rel => exact ⟨k + 1, _, by omega, rfl, by go_num, HN.out, HB4.out, HR2.out⟩
            case measure => simp [intOf]; omega
          · have e4 : (tk == 4) = false := beq_eq_false_iff_ne.2 h4
            by_cases h6 : tk = 6
            · subst h6
              have HN := hide (show (((S ++ ⟨#[32]⟩) ++ ⟨#[36]⟩) ++ tt).data.toList = printS (l.take (k + 1)) by
                rw [HS0.out]
                simp only [app_list]
                simp [tokP])
              clear h4
              go_wp2_with fail
              with_reducible refine (HC.out _).mono ?_
              rintro e w3 ⟨rfl, hb3⟩
              obtain ⟨d0, d1⟩ := And.intro ((hb3.cell (p := ⟨g, o + k * 4, none⟩) (World.block_lt_of_cell? _ _ c0)).trans c0) ((hb3.cell (p := ⟨g, o + k * 4 + 1, none⟩) (World.block_lt_of_cell? _ _ c1)).trans c1)
              have HB3 := hide (bgo HB.out hb3)
              clear hb3 c0 c1 c2 c3
              go_wp2
              go_roundw
              case rel => exact ⟨k + 1, _, by omega, rfl, by go_num, HN.out, HB3.out, HR2.out⟩
              case measure => simp [intOf]; omega
            · have e6 : (tk == 6) = false := beq_eq_false_iff_ne.2 h6
              by_cases h7 : tk = 7
              · subst h7
                have HN := hide (show (((S ++ ⟨#[32]⟩) ++ ⟨#[36, 36]⟩) ++ tt).data.toList = printS (l.take (k + 1)) by
                  rw [HS0.out]
                  simp only [app_list]
                  simp [tokP])
                clear h4 h6
                go_wp2_with fail
                with_reducible refine (HC.out _).mono ?_
                rintro e w3 ⟨rfl, hb3⟩
                obtain ⟨d0, d1⟩ := And.intro ((hb3.cell (p := ⟨g, o + k * 4, none⟩) (World.block_lt_of_cell? _ _ c0)).trans c0) ((hb3.cell (p := ⟨g, o + k * 4 + 1, none⟩) (World.block_lt_of_cell? _ _ c1)).trans c1)
                have HB3 := hide (bgo HB.out hb3)
                clear hb3 c0 c1 c2 c3
                go_wp2
                go_roundw
                case rel => exact ⟨k + 1, _, by omega, rfl, by go_num, HN.out, HB3.out, HR2.out⟩
                case measure => simp [intOf]; omega
              · have e7 : (tk == 7) = false := beq_eq_false_iff_ne.2 h7
                have HN := hide (show ((S ++ ⟨#[32]⟩) ++ tt).data.toList = printS (l.take (k + 1)) by
                  rw [HS0.out]
                  simp only [app_list]
                  simp [tokP, h4, h6, h7])
                clear h4 h6 h7
                go_wp2_with fail
                with_reducible refine (HC.out _).mono ?_
                rintro e w3 ⟨rfl, hb3⟩
                obtain ⟨d0, d1⟩ := And.intro ((hb3.cell (p := ⟨g, o + k * 4, none⟩) (World.block_lt_of_cell? _ _ c0)).trans c0) ((hb3.cell (p := ⟨g, o + k * 4 + 1, none⟩) (World.block_lt_of_cell? _ _ c1)).trans c1)
                have HB3 := hide (bgo HB.out hb3)
                clear hb3 c0 c1 c2 c3
                go_wp2
                go_roundw
                case rel => exact ⟨k + 1, _, by omega, rfl, by go_num, HN.out, HB3.out, HR2.out⟩
                case measure => simp [intOf]; omega
    · have hki : ¬ (k : Int) < (n : Int) := by omega
      have hall : l.take k = l := List.take_of_length_le (by rw [Hn.out]; omega)
      rw [hall] at HS HR
      have HSb := hide (show S = bs (printS l) by rw [← HS.out, bs_self])
      clear hall hb hr hS
      go_wp2
      go_ret2
      exact ⟨ret_si (by rw [← HP.out, HR.out, HSb.out]; rfl) (by rw [← HE.out, HR.out]; rfl), HB.out⟩
end Go.Proofs.YteokeljmggdecaaDoor
