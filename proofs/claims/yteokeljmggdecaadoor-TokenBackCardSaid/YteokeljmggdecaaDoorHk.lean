/- Walks of layer 11's program: Print. -/
import Derived.Test.YteokeljmggdecaaDoorHj
namespace Go.Proofs.YteokeljmggdecaaDoor
open Go.RowKit

theorem join_is : ∀ ts : List (List UInt8), Lib.join ts [32] = joinS ts
  | [] => rfl
  | [x] => Lib.join_one x [32]
  | x :: y :: l => by
    have ih := join_is (y :: l)
    unfold Lib.join at ih ⊢
    show _ = x ++ 32 :: joinS (y :: l)
    rw [← ih]
    simp [List.intercalate, List.intersperse]
theorem join_len (m : Nat) : ∀ ts : List (List UInt8), (∀ t ∈ ts, t.length ≤ m) → (joinS ts).length ≤ (m + 1) * ts.length
  | [], _ => Nat.le_refl _
  | [x], h => by
    have := h x (List.mem_cons_self ..)
    show x.length ≤ _
    simp only [List.length_cons, List.length_nil]
    omega
  | x :: y :: l, h => by
    have ih := join_len m (y :: l) (fun t ht => h t (List.mem_cons_of_mem _ ht))
    have := h x (List.mem_cons_self ..)
    show (x ++ 32 :: joinS (y :: l)).length ≤ _
    rw [List.length_append, List.length_cons, List.length_cons (a := x), Nat.mul_add]
    omega
theorem tokP_len (k : Int) (t : List UInt8) : (tokP k t).length ≤ 2 * t.length + 2 := by
  unfold tokP
  have := body_len t
  split
  · unfold quoteS
    simp only [List.length_cons, List.length_append, List.length_nil]
    omega
  · split
    · simp only [List.length_cons]; omega
    · split
      · simp only [List.length_cons]; omega
      · omega
def Short (l : List Tk) : Prop := ∀ t ∈ l, t.text.length ≤ 100
theorem print_len {l : List Tk} (h : Short l) : (printS l).length ≤ 203 * l.length := by
  have := join_len 202 (l.map fun t => tokP t.kind t.text) (fun t ht => by
    obtain ⟨x, hx, rfl⟩ := List.mem_map.1 ht
    have h1 := h x hx
    have h2 := tokP_len x.kind x.text
    omega)
  rw [List.length_map] at this
  exact this
theorem take_snocT {l : List Tk} {k : Nat} {t : Tk} (h : l[k]? = some t) : l.take (k + 1) = l.take k ++ [t] := by
  obtain ⟨hlt, e⟩ := List.getElem?_eq_some_iff.1 h
  rw [List.take_succ_eq_append_getElem hlt, e]
def partsS (l : List Tk) : List (List UInt8) := l.map fun t => tokP t.kind t.text
theorem right_snoc {l : List Tk} {t : Tk} (h : allRight l = true) (ht : rightS t.kind t.text = true) : allRight (l ++ [t]) = true := by
  unfold allRight at h ⊢
  rw [List.all_append, h]
  simp [ht]
theorem not_right {l : List Tk} {k : Nat} {t : Tk} (h : l[k]? = some t) (ht : ¬ faultS t.kind t.text = 0) : allRight l = false := by
  cases hc : allRight l with
  | false => rfl
  | true =>
    exact absurd (fault_right (List.all_eq_true.1 hc t (List.mem_of_getElem? h))) ht
theorem map_bs : ∀ ts : List (List UInt8), (ts.map bs).map (·.data.toList) = ts := by
  intro ts
  rw [List.map_map]
  conv => rhs; rw [← List.map_id ts]
  exact List.map_congr_left fun x _ => bs_list x
theorem infoS9 : (Tryd.prog.info? 9).map (fun i => (i.zero, i.size, i.bytes)) = some (some (.string ⟨#[]⟩), 1, 16) := by kernel_rfl
/-- A row of strings of the call's own, joined. -/
theorem join_own {w : World} {B : Nat} {u : Value} {ts : List (List UInt8)} (ho : Own w B 9 u (strsC ts)) (hn : ts.length ≤ 1000000) (hl : (joinS ts).length ≤ 1000000) :
    ∃ A n c, u = .slice A n c ∧ Calls Tryd.prog 31 #[.slice A n c, .string ⟨#[32]⟩] w fun e w' => e = .returned (.string (bs (joinS ts))) ∧ Below w.heap.size w w' := by
  have hS : (⟨#[32]⟩ : ByteArray).data.toList = [32] := rfl
  rcases ho.2 with ⟨rfl, h0⟩ | ⟨g, cap, cur, rfl, hb, hg, hc, hmx, r⟩
  · rw [strs_len] at h0
    obtain rfl : ts = [] := List.eq_nil_of_length_eq_zero h0
    refine ⟨none, 0, 0, rfl, (Tryd.strings_Join_none none 0 ⟨#[32]⟩ w).mono ?_⟩
    rintro e w' ⟨rfl, rfl⟩
    exact ⟨rfl, Below.refl _ _⟩
  · refine ⟨_, _, cap, rfl, ?_⟩
    have hmap := map_bs ts
    have hj := Tryd.strings_Join g 0 cap (ts.map bs) ⟨#[32]⟩ w (fun j x hx => by
      have hjl' := (List.getElem?_eq_some_iff.1 hx).1
      rw [List.length_map] at hjl'
      rw [Nat.zero_add, ho.cellAt j (by rw [strs_len]; omega)]
      unfold strsC
      rw [List.getElem?_map] at hx ⊢
      cases ht : ts[j]? with
      | none => rw [ht] at hx; simp at hx
      | some t => rw [ht] at hx; simp at hx; simp [hx]) (lt_of_block hg) (by rw [List.length_map]; omega) (by rw [List.length_map]; rw [strs_len] at hc; exact hc) (by rw [hmap, hS, join_is]; omega)
    rw [hmap, hS, List.length_map, join_is] at hj
    rw [strs_len]
    exact hj

theorem ret_si {a b : ByteArray} {x y : Int} (h : a = b) (h' : x = y) : Ending.returned (.tuple #[.string a, .int .i64 x]) = .returned (.tuple #[.string b, .int .i64 y]) := by rw [h, h']

set_option maxRecDepth 20000 in
set_option maxHeartbeats 6400000 in
theorem pprint (A : Option Addr) (n c : Nat) (l : List Tk) (w : World) (h : TkS w A n c l) (hn : n ≤ 700) (hsh : Short l) :
    Calls Tryd.prog 16 #[.slice A n c] w fun e w' => e = .returned (.tuple #[.string (bs (if allRight l = true then printS l else [])), .int .i64 (if allRight l = true then 0 else 1)]) ∧ Below w.heap.size w w' := by
  obtain ⟨i0, hi, hz0, hz1, hz2⟩ := info_parts infoS9
  have HKW := hide (pkeywords w)
  have H := hide h
  have Hn := hide h.2.2.1
  have hnc := h.1
  have hcc := h.2.1
  have Hsh := hide hsh
  obtain ⟨P, hP⟩ : ∃ P, bs (if allRight l = true then printS l else []) = P := ⟨_, rfl⟩
  obtain ⟨E, hE⟩ : ∃ E : Int, (if allRight l = true then 0 else 1) = E := ⟨_, rfl⟩
  rw [hP, hE]
  have HP := hide hP
  have HE := hide hE
  clear h hsh hP hE
  go_enter Tryd.func16, Tryd.ntmps16
  go_wp2_with fail
  with_reducible refine HKW.out.mono ?_
  rintro e w1 ⟨rfl, hkw, hb1⟩
  have H1 := hide (H.out.below hb1)
  have hmb := hkw.lt
  have HK := hide hkw
  have HB1 := hide hb1
  clear hkw hb1 H HKW
  obtain ⟨mb, hmbe⟩ : ∃ mb, w.heap.size = mb := ⟨_, rfl⟩
  rw [hmbe] at HK hmb ⊢
  have Hmb := hide hmbe
  clear hmbe
  go_wp2_with fail
  go_loopw [5, 11] (fun u y wr => ∃ k : Nat, k ≤ n ∧ y = .int .i64 (k : Int) ∧ Own wr w1.heap.size 9 u (strsC (partsS (l.take k))) ∧ Below w1.heap.size w1 wr ∧ allRight (l.take k) = true) (fun _ y _ => n - (intOf y).toNat)
  case atStart => exact ⟨0, Nat.zero_le _, rfl, World.ownsRow_nil _ _ _ _, Below.refl _ _, rfl⟩
  case round =>
    obtain ⟨k, hk, rfl, hown, hb, hr⟩ := hrel
    obtain ⟨w2, hw2⟩ : ∃ w2, w2 = wr := ⟨wr, rfl⟩
    subst hw2
    have hsz := hb.size
    have HO := hide hown
    have HB := hide hb
    have HR := hide hr
    by_cases hlt : k < n
    · obtain ⟨g, o, t, rfl, ht, c0, c1, c2, c3⟩ := (H1.out.below hb).at_ hlt
      have htl : t.text.length ≤ 100 := Hsh.out t (List.mem_of_getElem? ht)
      have hF := four_new w2 (.int .i64 t.kind) (.string (bs t.text)) (.int .i64 t.at_) (.int .i64 t.en) 33
      have hbx := bnew (Below.refl w2.heap.size w2) (.cells #[.int .i64 t.kind, .string (bs t.text), .int .i64 t.at_, .int .i64 t.en] 33)
      have hkx := (HK.out.below hb).below hbx
      have HC := hide (pfault t.kind t.at_ t.en (bs t.text) (by rw [bs_size]; omega) mb _ hkx _ rfl)
      rw [bs_list] at HC
      have HF := hide hF
      have HBX := hide hbx
      have Hst := hide (take_snocT ht)
      have Htl := hide htl
      obtain ⟨q, hq⟩ : ∃ q, faultS t.kind t.text = q := ⟨_, rfl⟩
      have hqc := fault_le t.kind t.text
      rw [hq] at HC hqc
      have Hq := hide hq
      have HT := hide ht
      obtain ⟨tk, htk⟩ : ∃ tk, t.kind = tk := ⟨_, rfl⟩
      obtain ⟨tt, htt⟩ : ∃ tt, bs t.text = tt := ⟨_, rfl⟩
      obtain ⟨ta, hta⟩ : ∃ ta, t.at_ = ta := ⟨_, rfl⟩
      obtain ⟨te, hte⟩ : ∃ te, t.en = te := ⟨_, rfl⟩
      rw [htk, htt, hta, hte] at HC HF HBX
      rw [htk] at c0
      rw [htt] at c1
      rw [hta] at c2
      rw [hte] at c3
      have Htk := hide htk
      have Htt := hide htt
      clear hown hb hr hF hbx hkx htl hq ht htk htt hta hte
      by_cases hq0 : q = 0
      · subst hq0
        have hrt : rightS t.kind t.text = true := right_of Hq.out
        have HR2 := hide (show allRight (l.take (k + 1)) = true by rw [Hst.out]; exact right_snoc HR.out hrt)
        have HCon := hide (show tk = 4 → tt.data.toList.all conB = true by
          intro h4
          have := (right_form hrt).1
          rw [Htk.out, h4, form4] at this
          rw [← Htt.out, bs_list]
          exact this)
        have Htts := hide (show tt.size ≤ 1000000 by rw [← Htt.out, bs_size]; have := Htl.out; omega)
        have Htt2 := hide (show tokP tk tt.data.toList = tokP t.kind t.text by rw [← Htt.out, bs_list, Htk.out])
        clear hrt hqc
        go_wp2_with fail
        with_reducible refine HC.out.mono ?_
        rintro e w3 ⟨rfl, hb3⟩
        obtain ⟨h0, d0, d1, d2, d3⟩ := HF.out.keep hb3
        have HB3 := hide (bgo HBX.out hb3)
        have hsz3 : w2.heap.size ≤ w3.heap.size := HB3.out.size
        have HO3 := hide (HO.out.below HB3.out)
        clear hb3 h0 c0 c1 c2 c3
        go_wp2_with fail
        with_reducible refine (pprinted tk ta te tt Htts.out HCon.out w3).mono ?_
        rintro e w4 ⟨rfl, hb4⟩
        rw [Htt2.out]
        obtain ⟨pt, hpt⟩ : ∃ pt, tokP t.kind t.text = pt := ⟨_, rfl⟩
        rw [hpt]
        have Hpt := hide hpt
        have HB4 := hide (bgo HB3.out hb4)
        have HO4 := hide (HO3.out.below hb4)
        have hsz4 : w1.heap.size ≤ w4.heap.size := by have := hb4.size; omega
        have Hlen := hide (show (strsC (partsS (l.take k))).length ≤ 700 by rw [strs_len]; unfold partsS; rw [List.length_map, List.length_take]; omega)
        clear hb4 hpt d0 d1 d2 d3
        go_wp2_with (at_builtin; refine wp_push_far rfl (.tmp 19) (.tmp 22) 41 rfl 9 i0 _ 16 Tryd.underlying41 hi hz0 hz1 hz2 rfl w1.heap.size _ _ rfl _ _ rfl HO4.out hsz4 _ rfl rfl (by have := Hlen.out; omega) (by have := Hlen.out; unfold maxLen; omega) _ ?_)
        intro v' w5 hown5 hb5 _
        have hown6 : Own w5 w1.heap.size 9 v' (strsC (partsS (l.take (k + 1)))) := by
          rw [Hst.out]
          unfold partsS
          rw [List.map_append, strs_app]
          show Own w5 w1.heap.size 9 v' (strsC (partsS (l.take k)) ++ [.string (bs (tokP t.kind t.text))])
          rw [Hpt.out]
          exact hown5
        obtain ⟨A2, c2, rfl, -⟩ := hown6.sl
        have HO6 := hide hown6
        have HB6 := hide ((HB.out.trans (HB4.out.mono hsz)).trans hb5)
        clear hown5 hown6 hb5
        go_wp2
        go_roundw
        case rel => exact ⟨k + 1, by omega, by go_num, HO6.out, HB6.out, HR2.out⟩
        case measure => simp [intOf]; omega
      · have HA := hide (show allRight l = false from not_right HT.out (by rw [Hq.out]; exact hq0))
        have hne : (q != 0) = true := by
          unfold bne
          rw [beq_eq_false_iff_ne.2 hq0]
          rfl
        clear hqc hq0
        go_wp2_with fail
        with_reducible refine HC.out.mono ?_
        rintro e w3 ⟨rfl, hb3⟩
        have HB3 := hide (HB1.out.trans ((HB.out.trans ((bgo HBX.out hb3).mono hsz)).mono HB1.out.size))
        clear hb3
        go_wp2
        go_ret2
        refine ⟨ret_si (by rw [← HP.out, HA.out]; rfl) (by rw [← HE.out, HA.out]; rfl), HB3.out⟩
    · have hall : l.take k = l := List.take_of_length_le (by rw [Hn.out]; omega)
      rw [hall] at HO HR
      have hpl := print_len Hsh.out
      have hln := Hn.out
      obtain ⟨A2, n2, c2, rfl, hJ⟩ := join_own HO.out (by unfold partsS; rw [List.length_map]; omega) (by show (printS l).length ≤ _; omega)
      have HJ := hide hJ
      clear hall hown hb hr hpl hln hJ
      go_wp2_with fail
      with_reducible refine HJ.out.mono ?_
      rintro e w3 ⟨rfl, hb3⟩
      have HB3 := hide (HB1.out.trans ((HB.out.trans (hb3.mono hsz)).mono HB1.out.size))
      clear hb3
      go_wp2
      go_ret2
      refine ⟨ret_si (by rw [← HP.out, HR.out]; rfl) (by rw [← HE.out, HR.out]; rfl), HB3.out⟩
end Go.Proofs.YteokeljmggdecaaDoor
