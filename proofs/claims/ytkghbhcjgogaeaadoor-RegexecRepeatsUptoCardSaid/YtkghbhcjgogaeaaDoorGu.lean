/- Layer 9: R4, R5, R6. -/
import Derived.Test.YtkghbhcjgogaeaaDoorGr
import Derived.BigQuiet
import Derived.Deep.Cut
/-! ### R4 -/
namespace Go.Proofs.YtkghbhcjgogaeaaDoor
open Go.RowKit
open Go.ChangeShapes (block_add)

theorem int_eq2 {x y : Int} (h : x = y) : (x != y) = false := by subst h; simp
theorem int_ne2 {x y : Int} (h : ¬ x = y) : (x != y) = true := by simpa using h
theorem list_take {α : Type} {l m : List α} {n : Nat} (hl : l.length = n) (hm : m.length = n) (h : ∀ i : Nat, i < n → l[i]? = m[i]?) : l = m :=
  List.ext_getElem? fun i => by
    rcases Nat.lt_or_ge i n with hi | hi
    · exact h i hi
    · rw [List.getElem?_eq_none (by omega), List.getElem?_eq_none (by omega)]
set_option maxRecDepth 100000 in
set_option maxHeartbeats 4000000 in
theorem sameints11 (a b : List Int) (A B : Option Addr) (n m c d : Nat) (hn : n ≤ 1000000) (W : World) (ha : Sl W A n c (numCells a)) (hb : Sl W B m d (numCells b)) (q : Bool) (hq : decide (a = b) = q) :
    Calls Tryd.prog 11 #[.slice A n c, .slice B m d] W fun e w' => e = .returned (.bool q) ∧ Below W.heap.size W w' := by
  have hla := ha.nlen
  have hlb := hb.nlen
  by_cases hnm : n = m
  · subst hnm
    have hne0 : ((n : Int) != (n : Int)) = false := by simp
    have SA := hide ha
    have SB := hide hb
    have Hq := hide hq
    clear ha hb hq
    go_enter Tryd.func11, Tryd.ntmps11
    go_wp2
    go_loopw [5] (fun y wr => ∃ k : Nat, k ≤ n ∧ y = .int .i64 (k : Int) ∧ (∀ i, i < k → a[i]? = b[i]?) ∧ Below W.heap.size W wr) (fun y _ => n - (intOf y).toNat)
    case atStart => exact ⟨0, Nat.zero_le _, rfl, fun i hi => (by omega), Below.refl _ _⟩
    case round =>
      obtain ⟨k, hk, rfl, hs, hb⟩ := hrel
      obtain ⟨w1, hw1⟩ : ∃ w1, w1 = wr := ⟨wr, rfl⟩
      subst hw1
      have Hs := hide hs
      have Bw := hide hb
      by_cases hlt : k < n
      · obtain ⟨p1, x, rfl, hx, hcx⟩ := num_cell SA.out.reads hlt
        obtain ⟨p2, y, rfl, hy, hcy⟩ := num_cell SB.out.reads hlt
        have c1 := (hb.cell (p := p1.add k) (World.block_lt_of_cell? _ _ hcx)).trans hcx
        have c2 := (hb.cell (p := p2.add k) (World.block_lt_of_cell? _ _ hcy)).trans hcy
        have hd : decide ((k : Int) < (n : Int)) = true := decide_eq_true (by omega)
        have hd2 : decide (k < n) = true := decide_eq_true hlt
        have Hx := hide hx
        have Hy := hide hy
        clear hs hb hx hy hcx hcy
        by_cases hxy : x = y
        · have hne : (x != y) = false := int_eq2 hxy
          go_wp2_with fail
          go_quiet (fail)
          go_wp2
          go_roundw
          case rel =>
            refine ⟨k + 1, by omega, by go_num, fun i hi => ?_, Bw.out.trans (Drawn.below ⟨_, rfl⟩ _)⟩
            rcases Nat.lt_or_ge i k with h | h
            · exact Hs.out i h
            · obtain rfl : i = k := by omega
              rw [Hx.out, Hy.out, hxy]
          case measure => simp [intOf]; omega
        · have hne : (x != y) = true := int_ne2 hxy
          have hqf : q = false := by
            rw [← Hq.out]
            refine decide_eq_false fun e => hxy ?_
            have h := Hx.out
            rw [e, Hy.out] at h
            exact (Option.some.inj h).symm
          subst hqf
          go_wp2_with fail
          go_quiet (fail)
          go_wp2
          go_ret
          exact ⟨rfl, Bw.out.trans (Drawn.below ⟨_, rfl⟩ _)⟩
      · obtain rfl : k = n := by omega
        have hqt : q = true := by
          rw [← Hq.out]
          exact decide_eq_true (list_take hla hlb hs)
        subst hqt
        clear hs hb
        go_wp2
        go_ret
        exact ⟨rfl, Bw.out⟩
  · have hne0 : ((n : Int) != (m : Int)) = true := by rw [bne_iff_ne]; omega
    have hqf : q = false := by
      rw [← hq]
      exact decide_eq_false fun e => hnm (by rw [← hla, ← hlb, e])
    subst hqf
    clear ha hb hq
    go_enter Tryd.func11, Tryd.ntmps11
    go_wp2
    go_ret
    exact ⟨rfl, Below.refl _ _⟩
end Go.Proofs.YtkghbhcjgogaeaaDoor
/-! ### R5 -/
namespace Go.Proofs.YtkghbhcjgogaeaaDoor
open Go.RowKit
open Go.ChangeShapes (block_add)

theorem find_bounds (r : Rx) (s : List UInt8) (i a b : Nat) (h : findP r s (i : Int) = some (a, b)) : i ≤ a ∧ a ≤ b ∧ b ≤ s.length := by
  unfold findP at h
  split at h
  · rename_i hc
    obtain ⟨h1, h2, h3, _⟩ := findN_some r s _ _ a b h
    have ha : a ≤ s.length := by omega
    have hn := (right_node hc.1).1
    have hm := (endsC_mem r s hn a ha b).1 (List.mem_of_getLast? h3)
    have := mt_le r s a b ha hm
    omega
  · cases h
theorem allN_some (r : Rx) (s : List UInt8) (n i a b : Nat) (h : findP r s (i : Int) = some (a, b)) : allN r s (n + 1) i = (a, b) :: allN r s n (if a = b then b + 1 else b) := by
  rw [allN, h]
theorem allN_none (r : Rx) (s : List UInt8) (n i : Nat) (h : findP r s (i : Int) = none) : allN r s (n + 1) i = [] := by
  rw [allN, h]
set_option maxRecDepth 100000 in
set_option maxHeartbeats 4000000 in
theorem rall22 (s : ByteArray) (hs : s.size ≤ 60) (r : Rx) (h1 : sizeR r ≤ 1000000) (h2 : depthR r ≤ 1000000) (W : World) (ok : Nat → Prop) (v : Value) (hv : RxV W ok v r) :
    Calls Tryd.prog 22 #[v, .string s] W fun e w' => ∃ u, e = .returned u ∧ OwnS w' W.heap.size u (allP r s.data.toList) ∧ Below W.heap.size W w' := by
  obtain ⟨i0, hi, hz0, hz1, hz2⟩ := info_parts info32
  have hlen := strlen s
  have hv0 := hv
  cases hv with
  | mk k a b A B n c m d set vs l hset hvs hl hk ha hb hr =>
  have hB := bnew (Below.refl _ W) (.cells #[.int .i64 k, .slice A n c, .int .i64 a, .int .i64 b, .slice B m d] 25)
  have F := five_new W (.int .i64 k) (.slice A n c) (.int .i64 a) (.int .i64 b) (.slice B m d) 25
  obtain ⟨W1, hW1⟩ : ∃ W1, W.alloc (.cells #[.int .i64 k, .slice A n c, .int .i64 a, .int .i64 b, .slice B m d] 25) = W1 := ⟨_, rfl⟩
  rw [hW1] at hB F
  obtain ⟨r, hr'⟩ : ∃ r, Rx.mk k set a b l = r := ⟨_, rfl⟩
  rw [hr'] at hv0 h1 h2 ⊢
  have F1 := hide F
  have B1 := hide hB
  have HF := hide (fun (i : Nat) (hi : i ≤ 1000000) (w : World) (hb : Below W1.heap.size W1 w) => rfind15 s hs r h1 h2 (i : Int) (by omega) w ok _ ((hv0.kept hB).kept hb))
  have HW1 := hide hW1
  have hW1s := hB.size
  clear hset hvs hl hk ha hb hr hB hv0 hr' hW1 F
  go_enter Tryd.func22, Tryd.ntmps22
  go_wp2
  rw [HW1.out]
  go_loopw [5, 6] (fun u y wr => ∃ (i nf : Nat) (acc : List (Nat × Nat)), y = .int .i64 (i : Int) ∧ i ≤ s.size + 1 ∧ s.size + 2 ≤ nf + i ∧ acc ++ allN r s.data.toList nf i = allP r s.data.toList ∧ acc.length ≤ i ∧ OwnS wr W1.heap.size u acc ∧ Below W1.heap.size W1 wr) (fun _ y _ => s.size + 2 - (intOf y).toNat)
  case atStart => exact ⟨0, s.size + 2, [], rfl, Nat.zero_le _, by omega, by rw [← hlen]; rfl, Nat.le_refl _, World.ownsRow_nil _ _ _ _, Below.refl _ _⟩
  case round =>
    obtain ⟨i, nf, acc, rfl, hib, hfuel, hall, hacc, hown, hbel⟩ := hrel
    obtain ⟨w, hw⟩ : ∃ w, w = wr := ⟨wr, rfl⟩
    subst hw
    have Bw := hide hbel
    have O := hide hown
    have HC := hide (HF.out i (by omega) w hbel)
    obtain ⟨_, t0, t1, t2, t3, t4⟩ := F1.out.keep hbel
    obtain ⟨nf, rfl⟩ : ∃ m, nf = m + 1 := ⟨nf - 1, by omega⟩
    cases hf : findP r s.data.toList (i : Int) with
    | none =>
      rw [allN_none r s.data.toList nf i hf, List.append_nil] at hall
      rw [hf] at HC
      have Hall := hide hall
      clear hall hf hown hbel
      unfold findV at HC
      simp only [] at HC
      go_wp2_with fail
      with_reducible refine HC.out.mono ?_
      rintro e w3 ⟨rfl, hb3⟩
      have O3 := hide (owns_below' O.out hb3)
      have B3 := hide (bgo Bw.out hb3)
      clear hb3 t0 t1 t2 t3 t4
      go_wp2
      go_ret
      have hba := bnew (Below.refl _ w3) (.cells #[.int .i64 0, .int .i64 0] 32)
      refine ⟨_, rfl, ?_, bgo (bgo B1.out B3.out) hba⟩
      rw [← Hall.out]
      exact owns_mono (owns_below' O3.out hba) hW1s
    | some p =>
      obtain ⟨x, y⟩ := p
      obtain ⟨hx1, hx2, hx3⟩ := find_bounds r s.data.toList i x y hf
      rw [hlen] at hx3
      rw [allN_some r s.data.toList nf i x y hf] at hall
      rw [hf] at HC
      have Hall := hide hall
      clear hall hf hown hbel
      unfold findV at HC
      simp only [] at HC
      go_wp2_with fail
      with_reducible refine HC.out.mono ?_
      rintro e w3 ⟨rfl, hb3⟩
      obtain ⟨w7, hw7⟩ : ∃ w7, w3.alloc (.cells #[.int .i64 (x : Int), .int .i64 (y : Int)] 32) = w7 := ⟨_, rfl⟩
      have b37 : Below w3.heap.size w3 w7 := by rw [← hw7]; exact bnew (Below.refl _ _) _
      have q7 : w7.heap[w3.heap.size]? = some (.cells #[.int .i64 (x : Int), .int .i64 (y : Int)] 32 (0, 0)) := by rw [← hw7]; exact heap_alloc_new _ _
      have bw7 := bgo hb3 b37
      have hown7 := owns_below' O.out bw7
      have hlow : ∀ q, u5.ownBlock = some q → W1.heap.size ≤ q ∧ q < w.heap.size := fun q hq => World.ownsRow.lt O.out q hq
      have HW7 := hide hw7
      have Q7 := hide q7
      have Bw7 := hide (bgo Bw.out bw7)
      have hs37 := hb3.size
      have hsz7 : W1.heap.size ≤ w7.heap.size := Nat.le_trans Bw.out.size bw7.size
      have hal : acc.length ≤ 61 := by omega
      clear hw7 b37 q7 bw7 hb3 t0 t1 t2 t3 t4
      go_upto_region 6 with fail
      rw [HW7.out]
      obtain ⟨z0, z1, -, -⟩ := two_cell Q7.out
      have hown8 := hown7.alloc (.cells #[.int .i64 (x : Int), .int .i64 (y : Int)] 32)
      go_wp2_with (at_builtin; refine wpList_append_own _ rfl (.tmp 19) (.tmp 21) 37 rfl W1.heap.size 32 i0 _ 2 16 Tryd.underlying37 hi hz0 hz1 hz2 rfl (by decide) _ _ _ rfl hown8 ⟨w7.heap.size, 0, none⟩ 1 1 [.int .i64 (x : Int), .int .i64 (y : Int)] rfl rfl (pair_at _ _ _ _) (c2_two _ _ _) (by unfold maxLen; omega) (by omega) (by simp; omega) ?_)
      intro v' w8 hown' hg _
      have hd : Turns (fun q => u5.ownBlock = some q) w7 w8 := (Turns.of_below (bnew (Below.refl _ w7) (.cells #[.int .i64 (x : Int), .int .i64 (y : Int)] 32))).grown hg fun q hq => hq
      have q8 := (hd.block w3.heap.size (lt_of_block Q7.out) (fun h => by have := (hlow _ h).2; omega)).trans Q7.out
      obtain ⟨y0, y1, -, -⟩ := two_cell q8
      have O8 := hide hown'
      have B8 := hide (Bw7.out.trans (hd.below hsz7 fun q h => (hlow q h).1))
      clear hown7 hown8 hown' hg hd q8 z0 z1
      have hsnoc : (acc ++ [(x, y)]).length = acc.length + 1 := by simp
      by_cases hxy : x = y
      · subst hxy
        have hbq : ((x : Int) == (x : Int)) = true := by simp
        have hall2 := Hall.out
        rw [if_pos rfl] at hall2
        have Hall2 := hide hall2
        clear hall2
        go_wp2
        go_roundw
        case rel =>
          refine ⟨x + 1, nf, acc ++ [(x, x)], by go_num, by omega, by omega, by rw [← Hall2.out]; simp, by omega, ?_, B8.out⟩
          unfold OwnS
          rw [← spanC_snoc, List.length_append]
          exact O8.out
        case measure => simp [intOf]; omega
      · have hbq : ((x : Int) == (y : Int)) = false := by rw [beq_eq_false_iff_ne]; omega
        have hall2 := Hall.out
        rw [if_neg hxy] at hall2
        have Hall2 := hide hall2
        clear hall2
        go_wp2
        go_roundw
        case rel =>
          refine ⟨y, nf, acc ++ [(x, y)], rfl, by omega, by omega, by rw [← Hall2.out]; simp, by omega, ?_, B8.out⟩
          unfold OwnS
          rw [← spanC_snoc, List.length_append]
          exact O8.out
        case measure => simp [intOf]; omega
end Go.Proofs.YtkghbhcjgogaeaaDoor
/-! ### R6 -/
namespace Go.Proofs.YtkghbhcjgogaeaaDoor
open Go.RowKit
open Go.ChangeShapes (block_add)

theorem fields32 : (Tryd.prog.fieldsOf 32).toList.map (fun f => (f.name, f.type, f.offset)) = [("At", 3, 0), ("End", 3, 1)] := by kernel_rfl
theorem eq32 (a b c d : Int) (q : Bool) (h : ((a == c) && (b == d)) = q) (w : World) :
    (Op.equalIn 10000 32 (.agg #[.int .i64 a, .int .i64 b]) (.agg #[.int .i64 c, .int .i64 d])).run Tryd.prog w = .ok q w := by
  rw [run_equalIn_agg w 9999 32 _ _ (by kernel_rfl) (by kernel_rfl)]
  simp [go_sem]
  rw [← h]
  by_cases h1 : a = c
  · by_cases h2 : b = d
    · rw [if_pos h1, if_pos h2]; simp [h1, h2]
    · rw [if_pos h1, if_neg h2]; simp [h2]
  · rw [if_neg h1]; simp [h1]
/-- The slice reads as the spans. -/
def SlS (w : World) (A : Option Addr) (n c : Nat) (l : List (Nat × Nat)) : Prop :=
  l.length = n ∧ n ≤ c ∧ ∀ (i : Nat) (p : Nat × Nat), l[i]? = some p → ∃ g o, A = some ⟨g, o, none⟩ ∧ w.cell? ⟨g, o + i * 2, none⟩ = some (.int .i64 (p.1 : Int)) ∧ w.cell? ⟨g, o + i * 2 + 1, none⟩ = some (.int .i64 (p.2 : Int))
theorem spanC_at : ∀ (l : List (Nat × Nat)) (i : Nat) (p : Nat × Nat), l[i]? = some p → (spanC l)[i * 2]? = some (.int .i64 (p.1 : Int)) ∧ (spanC l)[i * 2 + 1]? = some (.int .i64 (p.2 : Int))
  | x :: l, 0, p, h => by
    simp at h
    subst h
    exact ⟨rfl, rfl⟩
  | x :: l, i + 1, p, h => by
    have := spanC_at l i p (by simpa using h)
    have e : spanC (x :: l) = .int .i64 (x.1 : Int) :: .int .i64 (x.2 : Int) :: spanC l := rfl
    rw [e, show (i + 1) * 2 = i * 2 + 1 + 1 by omega]
    exact this
theorem OwnS.sl {w : World} {B : Nat} {v : Value} {l : List (Nat × Nat)} (h : OwnS w B v l) : ∃ A c, v = .slice A l.length c ∧ SlS w A l.length c l := by
  rcases h.2 with ⟨rfl, h0⟩ | ⟨g, cap, cur, rfl, hb, hg, hc, hm, r⟩
  · have : l = [] := List.eq_nil_of_length_eq_zero h0
    subst this
    exact ⟨none, 0, rfl, rfl, Nat.le_refl _, fun i p hp => by simp at hp⟩
  · refine ⟨_, cap, rfl, rfl, hc, fun i p hp => ?_⟩
    have hi := (List.getElem?_eq_some_iff.1 hp).1
    obtain ⟨s1, s2⟩ := spanC_at l i p hp
    refine ⟨g, 0, rfl, ?_, ?_⟩
    · rw [Nat.zero_add, World.ownsRow.cellAt h (i * 2) (by omega)]; exact s1
    · rw [Nat.zero_add, World.ownsRow.cellAt h (i * 2 + 1) (by omega)]; exact s2
theorem SlS.below {w w' : World} {A : Option Addr} {n c : Nat} {l : List (Nat × Nat)} (h : SlS w A n c l) (hb : Below w.heap.size w w') : SlS w' A n c l :=
  ⟨h.1, h.2.1, fun i p hp => by
    obtain ⟨g, o, hA, h1, h2⟩ := h.2.2 i p hp
    have hlt : g < w.heap.size := World.block_lt_of_cell? _ _ h1
    exact ⟨g, o, hA, (hb.cell (p := ⟨g, o + i * 2, none⟩) hlt).trans h1, (hb.cell (p := ⟨g, o + i * 2 + 1, none⟩) hlt).trans h2⟩⟩
set_option maxRecDepth 100000 in
set_option maxHeartbeats 4000000 in
theorem samespans20 (a b : List (Nat × Nat)) (A B : Option Addr) (n m c d : Nat) (hn : n ≤ 1000000) (W : World) (ha : SlS W A n c a) (hb : SlS W B m d b) (q : Bool) (hq : decide (a = b) = q) :
    Calls Tryd.prog 20 #[.slice A n c, .slice B m d] W fun e w' => e = .returned (.bool q) ∧ Below W.heap.size W w' := by
  have hla := ha.1
  have hlb := hb.1
  by_cases hnm : n = m
  · subst hnm
    have hne0 : ((n : Int) != (n : Int)) = false := by simp
    have SA := hide ha
    have SB := hide hb
    have Hq := hide hq
    clear ha hb hq
    go_enter Tryd.func20, Tryd.ntmps20
    go_wp2
    go_loopw [5] (fun y wr => ∃ k : Nat, k ≤ n ∧ y = .int .i64 (k : Int) ∧ (∀ i, i < k → a[i]? = b[i]?) ∧ Below W.heap.size W wr) (fun y _ => n - (intOf y).toNat)
    case atStart => exact ⟨0, Nat.zero_le _, rfl, fun i hi => (by omega), Below.refl _ _⟩
    case round =>
      obtain ⟨k, hk, rfl, hs, hb⟩ := hrel
      obtain ⟨w1, hw1⟩ : ∃ w1, w1 = wr := ⟨wr, rfl⟩
      subst hw1
      have Hs := hide hs
      have Bw := hide hb
      by_cases hlt : k < n
      · obtain ⟨p, hp⟩ : ∃ p, a[k]? = some p := ⟨_, List.getElem?_eq_getElem (by omega)⟩
        obtain ⟨r, hr⟩ : ∃ r, b[k]? = some r := ⟨_, List.getElem?_eq_getElem (by omega)⟩
        obtain ⟨g1, o1, rfl, x1, x2⟩ := (SA.out.below hb).2.2 k p hp
        obtain ⟨g2, o2, rfl, y1, y2⟩ := (SB.out.below hb).2.2 k r hr
        have hd : decide ((k : Int) < (n : Int)) = true := decide_eq_true (by omega)
        have hd2 : decide (k < n) = true := decide_eq_true hlt
        obtain ⟨e, he⟩ : ∃ e, (((p.1 : Int) == (r.1 : Int)) && ((p.2 : Int) == (r.2 : Int))) = e := ⟨_, rfl⟩
        have heq := fun w => eq32 (p.1 : Int) (p.2 : Int) (r.1 : Int) (r.2 : Int) e he w
        have hpr : (p = r) ↔ e = true := by
          rw [← he, Bool.and_eq_true, beq_iff_eq, beq_iff_eq]
          constructor
          · rintro rfl; exact ⟨rfl, rfl⟩
          · rintro ⟨h1, h2⟩; exact Prod.ext (by omega) (by omega)
        have Hp := hide hp
        have Hr := hide hr
        have Hpr := hide hpr
        clear hs hb hp hr hpr he
        cases e with
        | true =>
          go_wp2_with fail
          go_quiet (fail)
          go_wp2
          go_roundw
          case rel =>
            refine ⟨k + 1, by omega, by go_num, fun i hi => ?_, Bw.out.trans (Drawn.below ⟨_, rfl⟩ _)⟩
            rcases Nat.lt_or_ge i k with h | h
            · exact Hs.out i h
            · obtain rfl : i = k := by omega
              rw [Hp.out, Hr.out, Hpr.out.2 (by simp)]
          case measure => simp [intOf]; omega
        | false =>
          have hqf : q = false := by
            rw [← Hq.out]
            refine decide_eq_false fun e => ?_
            have h := Hp.out
            rw [e, Hr.out] at h
            have := Hpr.out.1 (Option.some.inj h).symm
            cases this
          subst hqf
          go_wp2_with fail
          go_quiet (fail)
          go_wp2
          go_ret
          exact ⟨rfl, Bw.out.trans (Drawn.below ⟨_, rfl⟩ _)⟩
      · obtain rfl : k = n := by omega
        have hqt : q = true := by
          rw [← Hq.out]
          exact decide_eq_true (list_take hla hlb hs)
        subst hqt
        clear hs hb
        go_wp2
        go_ret
        exact ⟨rfl, Bw.out⟩
  · have hne0 : ((n : Int) != (m : Int)) = true := by rw [bne_iff_ne]; omega
    have hqf : q = false := by
      rw [← hq]
      exact decide_eq_false fun e => hnm (by rw [← hla, ← hlb, e])
    subst hqf
    clear ha hb hq
    go_enter Tryd.func20, Tryd.ntmps20
    go_wp2
    go_ret
    exact ⟨rfl, Below.refl _ _⟩
end Go.Proofs.YtkghbhcjgogaeaaDoor
