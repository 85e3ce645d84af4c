/- Rows of slices of ints; walk of layer 5's reference: AtLeast. -/
import Derived.Test.YtfljmnjcoagbmaaR3
namespace Go.Proofs.Ytfljmnjcoagbmaa
open Go.RowKit

/-- The slice at A of n slices of ints, read. -/
def RowsI (w : World) (A : Option Addr) (n c : Nat) (ls : List (List Int)) : Prop :=
  n ≤ c ∧ c ≤ 9223372036854775807 ∧ ls.length = n ∧ ∀ (i : Nat) (l : List Int), ls[i]? = some l → ∃ ad B p q, A = some ad ∧ w.cell? (ad.add i) = some (.slice B p q) ∧ Sl w B p q (numCells l)
theorem RowsI.below {w w' : World} {A : Option Addr} {n c : Nat} {ls : List (List Int)} (h : RowsI w A n c ls) (hb : Below w.heap.size w w') : RowsI w' A n c ls := by
  refine ⟨h.1, h.2.1, h.2.2.1, fun i l hl => ?_⟩
  obtain ⟨ad, B, p, q, hA, hc, hs⟩ := h.2.2.2 i l hl
  exact ⟨ad, B, p, q, hA, (hb.cell (World.block_lt_of_cell? _ _ hc)).trans hc, hs.below hb⟩
theorem RowsI.at_ {w : World} {A : Option Addr} {n c : Nat} {ls : List (List Int)} (h : RowsI w A n c ls) {k : Nat} (hk : k < n) : ∃ ad B p q l, A = some ad ∧ ls[k]? = some l ∧ w.cell? (ad.add k) = some (.slice B p q) ∧ Sl w B p q (numCells l) := by
  have hkl : k < ls.length := by rw [h.2.2.1]; exact hk
  obtain ⟨ad, B, p, q, hA, hc, hs⟩ := h.2.2.2 k _ (List.getElem?_eq_getElem hkl)
  exact ⟨ad, B, p, q, _, hA, List.getElem?_eq_getElem hkl, hc, hs⟩

theorem takeL_at (ls : List (List Int)) (i : Nat) (l : List Int) (h : ls[i]? = some l) : ls.take (i + 1) = ls.take i ++ [l] := by
  rw [List.take_succ_eq_append_getElem (List.getElem?_eq_some_iff.1 h).1, (List.getElem?_eq_some_iff.1 h).2]
theorem any_at (ls : List (List Int)) (i : Nat) (l : List Int) (h : ls[i]? = some l) : anyS (ls.take (i + 1)) = orS (anyS (ls.take i)) l := by
  unfold anyS
  rw [takeL_at ls i l h, List.foldl_append]
  rfl
theorem or_len (a b : List Int) : (orS a b).length ≤ a.length + b.length := by
  have h1 := fold_len b (a.foldl putS [])
  have h2 := fold_len a []
  unfold orS
  simp at h2
  omega
theorem any_len : ∀ (ls : List (List Int)) (acc : List Int) (m : Nat), (∀ l ∈ ls, l.length ≤ m) → (ls.foldl orS acc).length ≤ acc.length + ls.length * m
  | [], acc, m, _ => by simp
  | l :: ls, acc, m, h => by
    have h1 := any_len ls (orS acc l) m fun x hx => h x (by simp [hx])
    have h2 := or_len acc l
    have h3 := h l (by simp)
    rw [List.foldl_cons, List.length_cons, Nat.add_mul]
    omega
theorem inP_at (ls : List (List Int)) (j : Nat) (l : List Int) (m : Int) (h : ls[j]? = some l) : inP (ls.take (j + 1)) m = inP (ls.take j) m + (if m ∈ l then 1 else 0) := by
  unfold inP
  rw [takeL_at ls j l h, List.filter_append, List.length_append]
  by_cases hm : m ∈ l <;> simp [hm]
theorem inP_le (ls : List (List Int)) (m : Int) : inP ls m ≤ ls.length := List.length_filter_le _ _
theorem filt_at (L : List Int) (p : Int → Bool) (i : Nat) (x : Int) (h : L[i]? = some x) : (L.take (i + 1)).filter p = (L.take i).filter p ++ (if p x = true then [x] else []) := by
  rw [take_at L i x h, List.filter_append]
  by_cases hp : p x = true <;> simp [hp]

theorem rin31' (B : Nat) (A : Option Addr) (n c : Nat) (l : List Int) (m : Int) (r : Bool) (hr : decide (m ∈ l) = r) (w : World) (h : Reads w B A n (numCells l)) (hn : n ≤ 9223372036854775807) :
    Calls Try.prog 31 #[.slice A n c, .int .i64 m] w fun e w' => e = .returned (.bool r) ∧ w = w' := by
  subst hr
  exact rin31 B A n c l m w h hn

set_option maxRecDepth 20000 in
set_option maxHeartbeats 3200000 in
theorem rleast21 (A : Option Addr) (n c : Nat) (ls : List (List Int)) (k : Int) (w : World) (h : RowsI w A n c ls) (hn : n ≤ 1000) (hls : ∀ l ∈ ls, l.length ≤ 1000) :
    Calls Try.prog 21 #[.int .i64 k, .slice A n c] w (GrewI w (leastS k ls)) := by
  obtain ⟨i0, hi, hz0, hz1, hz2⟩ := info_parts infoI
  have Hlen := hide h.2.2.1
  have hnc := h.1
  have hcc := h.2.1
  have H := hide h
  have Hls := hide hls
  clear h hls
  go_enter Try.func21, Try.ntmps21
  go_wp2
  go_loopw [5, 6] (fun u x wr => ∃ i : Nat, i ≤ n ∧ x = .int .i64 i ∧ Own wr w.heap.size 3 u (numCells (anyS (ls.take i))) ∧ Below w.heap.size w wr) (fun _ x _ => n - (intOf x).toNat)
  case atStart => exact ⟨0, Nat.zero_le _, rfl, own_none w, bnew (Below.refl _ w) _⟩
  case round =>
    obtain ⟨i, hin, rfl, hown, hbel⟩ := hrel
    have hsz := hbel.size
    have Hb := hide hbel
    obtain ⟨A1, m1, c1, rfl, hm1, hs1⟩ := hown.slI
    have hm1b : m1 ≤ 1000000 := by
      have := any_len (ls.take i) [] 1000 fun l hl => Hls.out l (List.mem_of_mem_take hl)
      rw [List.length_take, Hlen.out, Nat.min_eq_left hin] at this
      have e : (anyS (ls.take i)).length = m1 := hm1.symm
      unfold anyS at e
      rw [e] at this
      simp at this
      have := Nat.mul_le_mul_right 1000 (Nat.le_trans hin hn)
      omega
    have Hown := hide hown
    have S1 := hide hs1
    clear hm1 hown
    by_cases hlt : i < n
    · obtain ⟨ad, B, p, q, l, rfl, hl, hcell, hsl⟩ := (H.out.below hbel).at_ hlt
      have hpl : p ≤ 1000 := by
        have h1 := hsl.nlen
        have h2 := Hls.out l (List.mem_of_getElem? hl)
        omega
      have Hst := hide (any_at ls i l hl)
      have Hsl := hide hsl
      clear hbel hl hs1 hsl
      go_wp2_with fail
      refine (ror17 A1 B m1 c1 p q _ l _ S1.out Hsl.out (by omega) (by omega)).mono ?_
      rintro e w2 ⟨v2, rfl, hown2, hb2⟩
      rw [← Hst.out] at hown2
      have Hown2 := hide (Own.mono hown2 hsz)
      have B2 := hide (Hb.out.trans (hb2.mono hsz))
      clear hown2 hb2 Hown S1
      go_wp2
      go_roundw
      case rel => exact ⟨i + 1, by omega, by go_num, Hown2.out, B2.out⟩
      case measure => simp [intOf]; omega
    · obtain ⟨L, hL⟩ : ∃ L, anyS ls = L := ⟨_, rfl⟩
      have hs2 := S1.out
      rw [List.take_of_length_le (by rw [Hlen.out]; omega), hL] at hs2
      have hLl := hide hs2.nlen
      have HL := hide hL
      have hc1 := hs2.2.1
      have hmc1 := hs2.1
      have Lstart := hide (show Lies (wr.alloc (.cells #[] 3)) (.slice (some ⟨wr.heap.size, 0, none⟩) 0 0) A1 m1 c1 (numCells L) from
        ⟨hs2.below (bnew (Below.refl _ wr) _), fun hpos ad e he => by
          obtain ⟨ad', u, e', hb', _⟩ := hs2.reads.at_ hpos
          rw [e] at e'
          cases e'
          simp only [Value.ownBlock, Option.some.injEq] at he
          omega⟩)
      have Ostart := hide (Own.mono (own_none wr) hsz)
      have Bstart := hide (Hb.out.trans ((bnew (Below.refl _ wr) (.cells #[] 3)).mono hsz))
      clear hs1 hs2 hL hbel Hown S1 Hb
      go_wp2
      go_loopw [7, 8] (fun u x w2 => ∃ i : Nat, i ≤ m1 ∧ x = .int .i64 i ∧ Own w2 w.heap.size 3 u (numCells ((L.take i).filter fun m => decide (k ≤ (inP ls m : Int)))) ∧ Below w.heap.size w w2 ∧ Lies w2 u A1 m1 c1 (numCells L)) (fun _ x _ => m1 - (intOf x).toNat)
      case atStart => exact ⟨0, Nat.zero_le _, rfl, Ostart.out, Bstart.out, Lstart.out⟩
      case round =>
        clear Ostart Bstart Lstart hsz
        obtain ⟨w2, hw2⟩ : ∃ w2, w2 = wr := ⟨wr, rfl⟩
        subst hw2
        obtain ⟨j, hjm, rfl, hown, hbel, hlies⟩ := hrel
        have hsz := hbel.size
        have Hown := hide hown
        have Hb := hide hbel
        have HLies := hide hlies
        clear hown
        by_cases hlt2 : j < m1
        · obtain ⟨ad, z, rfl, hz, hcell⟩ := num_cell hlies.1.reads hlt2
          have hft := filt_at L (fun m => decide (k ≤ (inP ls m : Int))) j z hz
          have Hft := hide hft
          have hfl : ((L.take j).filter fun m => decide (k ≤ (inP ls m : Int))).length ≤ 1000000 := by
            have h1 := List.length_filter_le (fun m => decide (k ≤ (inP ls m : Int))) (L.take j)
            rw [List.length_take] at h1
            omega
          have hnl : (numCells ((L.take j).filter fun m => decide (k ≤ (inP ls m : Int)))).length ≤ 1000000 := by rw [num_len]; exact hfl
          have hin0 : inP (ls.take 0) z = 0 := by simp [inP]
          have Hin0 := hide hin0
          clear hz hft hbel hlies hin0
          have hcell0 := hcell
          have HB0 := Hb
          go_wp2
          go_loopw [9, 10] (fun u x w3 => ∃ t : Nat, t ≤ n ∧ x = .int .i64 t ∧ u = .int .i64 (inP (ls.take t) z : Int) ∧ Drawn w2 w3) (fun _ x _ => n - (intOf x).toNat)
          case atStart => exact ⟨0, Nat.zero_le _, rfl, by rw [Hin0.out]; rfl, Drawn.refl _⟩
          case round =>
            obtain ⟨t, htn, rfl, rfl, hd⟩ := hrel
            have Hd := hide hd
            have hbd := hd.below w2.heap.size
            have hcd : wr.cell? (ad.add j) = some (.int .i64 z) := (hd.cell _).trans hcell0
            have hle := inP_le (ls.take t) z
            rw [List.length_take] at hle
            by_cases hlt3 : t < n
            · obtain ⟨ad2, B, p, q, l, rfl, hl, hcell2, hsl⟩ := (H.out.below (HB0.out.trans (hd.below _))).at_ hlt3
              have hst := inP_at ls t l z hl
              have Hsl := hide hsl
              have htn' : (t : Int) < (n : Int) := by omega
              have hjm' : (j : Int) < (m1 : Int) := by omega
              have hqb := hsl.2.1
              have hpq := hsl.1
              by_cases hzl : z ∈ l
              · rw [if_pos hzl] at hst
                have Hst := hide hst
                have hdc : decide (z ∈ l) = true := decide_eq_true hzl
                clear hst hl hzl hsl hbd hd
                go_wp2
                go_quiet ((go_at_call 31; exact quiet_left (rin31' _ B p q l z true hdc _ (Hsl.out.drewN _).reads (by omega))))
                go_wp2
                go_roundw
                case rel => exact ⟨t + 1, by omega, by go_num, by rw [Hst.out]; exact congrArg (Value.int .i64) (by omega), Hd.out.more _⟩
                case measure => simp [intOf]; omega
              · rw [if_neg hzl, Nat.add_zero] at hst
                have Hst := hide hst
                have hdc : decide (z ∈ l) = false := decide_eq_false hzl
                clear hst hl hzl hsl hbd hd
                go_wp2
                go_quiet ((go_at_call 31; exact quiet_left (rin31' _ B p q l z false hdc _ (Hsl.out.drewN _).reads (by omega))))
                go_wp2
                go_roundw
                case rel => exact ⟨t + 1, by omega, by go_num, by rw [Hst.out]; rfl, Hd.out.more _⟩
                case measure => simp [intOf]; omega
            · obtain rfl : t = n := by omega
              have hin2 : inP (ls.take t) z = inP ls z := by rw [List.take_of_length_le (by rw [Hlen.out]; exact Nat.le_refl _)]
              obtain ⟨N, hN⟩ : ∃ N, inP ls z = N := ⟨_, rfl⟩
              rw [hin2, hN]
              rw [hN] at Hft
              have HN := hide hN
              have Hown3 := hide (Hown.out.below (hd.below _))
              have HL3 := hide (HLies.out.below (hd.below _))
              have B3 := hide (HB0.out.trans (hd.below _))
              have hsz3 := B3.out.size
              clear hin2 hN hbd hd
              by_cases hkN : k ≤ (N : Int)
              · have hf := Hft.out
                rw [decide_eq_true hkN, if_pos rfl] at hf
                have Hf := hide hf
                clear hf
                go_wp2_with (at_builtin; refine wp_push_far rfl (.tmp 51) (.tmp 56) 22 rfl 3 i0 (.int .i64 0) 8 Try.underlying22 hi hz0 hz1 hz2 rfl w.heap.size _ (numCells ((L.take j).filter fun m => decide (k ≤ (inP ls m : Int)))) rfl _ _ rfl Hown3.out hsz3 _ rfl rfl (by omega) (by unfold maxLen; omega) _ ?_)
                intro v' w' hown' hb' hf'
                have e : numCells ((L.take j).filter fun m => decide (k ≤ (inP ls m : Int))) ++ [.int .i64 z] = numCells ((L.take (j + 1)).filter fun m => decide (k ≤ (inP ls m : Int))) := by rw [Hf.out, num_app]; rfl
                rw [e] at hown'
                have Hown' := hide hown'
                have HL' := hide (HL3.out.far hf')
                have B' := hide (B3.out.trans hb')
                clear hown' hb' hf' e
                go_wp2
                go_roundw
                case rel => exact ⟨j + 1, by omega, by go_num, Hown'.out, B'.out, HL'.out⟩
                case measure => simp [intOf]; omega
              · have hf := Hft.out
                rw [decide_eq_false hkN, if_neg (by simp), List.append_nil] at hf
                have Hf := hide hf
                clear hf
                go_wp2
                go_roundw
                case rel => exact ⟨j + 1, by omega, by go_num, by rw [Hf.out]; exact Hown3.out, B3.out, HL3.out⟩
                case measure => simp [intOf]; omega
        · have ho := Hown.out
          rw [List.take_of_length_le (by rw [hLl.out]; omega)] at ho
          have e : leastS k ls = L.filter fun m => decide (k ≤ (inP ls m : Int)) := by unfold leastS; rw [HL.out]
          rw [← e] at ho
          have Ho := hide ho
          clear ho e Hown hbel hlies
          go_wp2
          go_ret
          exact ⟨_, rfl, Ho.out, Hb.out⟩

end Go.Proofs.Ytfljmnjcoagbmaa
