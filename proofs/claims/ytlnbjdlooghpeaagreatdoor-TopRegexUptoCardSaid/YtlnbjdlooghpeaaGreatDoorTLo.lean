/- TopRegex: Lo. -/
import Derived.Test.YtlnbjdlooghpeaaGreatDoorTShelf
import Derived.Test.YtlnbjdlooghpeaaGreatDoorTNp
import Derived.Test.YtlnbjdlooghpeaaGreatDoorTQg
import Derived.Sort.OwnSorted
import Derived.Lib.OwnBridge
import Derived.Laws.Concat
import Derived.Lib.AppendZerosOnto
import Derived.Test.YtlnbjdlooghpeaaGreatDoorTQf
import Derived.Test.YtlnbjdlooghpeaaGreatDoorTN3
import Derived.Deep.RegionHeld3
import Derived.Test.YtlnbjdlooghpeaaGreatDoorTQk
namespace Go.Proofs.YtlnbjdlooghpeaaGreatDoor
open Go.RowKit Go.Sort
def OwnS (w : World) (B : Nat) (v : Value) (l : LS) : Prop := Own w B 9 v (strCells l)
theorem OwnS.nil (w : World) (B : Nat) : OwnS w B (.slice none 0 0) [] := World.ownsRow_nil _ _ _ _
theorem OwnS.below {w w' : World} {B : Nat} {v : Value} {l : LS} (h : OwnS w B v l) (hb : Below w.heap.size w w') : OwnS w' B v l := Own.below h hb
theorem OwnS.sl {w : World} {B : Nat} {v : Value} {l : LS} (h : OwnS w B v l) : ∃ A m c, v = .slice A m c ∧ m = l.length ∧ Sl w A m c (strCells l) := by
  obtain ⟨A, c, rfl, hs⟩ := Own.sl h
  exact ⟨A, _, c, rfl, str_len l, hs⟩
def GotLs (W : World) (l : LS) (e : Ending) (w' : World) : Prop := ∃ A n c, e = .returned (.slice A n c) ∧ n = l.length ∧ Sl w' A n c (strCells l) ∧ (∀ ad : Addr, A = some ad → W.heap.size ≤ ad.block) ∧ Below W.heap.size W w'
theorem OwnS.fresh {w : World} {B : Nat} {A : Option Addr} {m c : Nat} {l : LS} (h : OwnS w B (.slice A m c) l) : ∀ ad : Addr, A = some ad → B ≤ ad.block := by
  intro ad e
  rcases h.2 with ⟨h0, _⟩ | ⟨g, cap, cur, hv, hbase, -⟩
  · simp only [Value.slice.injEq] at h0
    rw [h0.1] at e
    cases e
  · simp only [Value.slice.injEq] at hv
    rw [hv.1] at e
    cases e
    exact hbase
theorem GotLs.of_own {W w' : World} {B : Nat} {v : Value} {l : LS} (h : OwnS w' B v l) (hB : W.heap.size ≤ B) (hb : Below W.heap.size W w') : GotLs W l (.returned v) w' := by
  have h' := h
  obtain ⟨A, m, c, rfl, hm, hs⟩ := h.sl
  exact ⟨A, m, c, rfl, hm, hs, fun ad e => Nat.le_trans hB (h'.fresh ad e), hb⟩
theorem GotLs.nil (W : World) {w' : World} (hb : Below W.heap.size W w') : GotLs W [] (.returned (.slice none 0 0)) w' := ⟨none, 0, 0, rfl, rfl, Sl.nil w', (fun ad e => by cases e), hb⟩
theorem sort85 (v : Value) (l : LS) (B : Nat) (w : World) (h : OwnS w B v l) (hn : l.length ≤ 1000000) :
    Calls Tryz.prog 142 #[v] w fun e w' => e = .returned (.tuple #[]) ∧ OwnS w' B v (srtS l) ∧ Below B w w' := by
  rcases h.2 with ⟨rfl, h0⟩ | ⟨g, cap, cur, rfl, hbase, hb, h1, h2, h3, h4⟩
  · rw [str_len] at h0
    obtain rfl : l = [] := List.eq_nil_of_length_eq_zero h0
    refine (Tryz.slices_Sort_string_none none 0 w).mono ?_
    rintro e w' ⟨rfl, rfl⟩
    have e : srtS [] = [] := List.eq_nil_of_length_eq_zero (srtS_len [])
    exact ⟨rfl, by rw [e]; exact OwnS.nil _ _, Below.refl _ _⟩
  · have hlt : g < w.heap.size := (Array.getElem?_eq_some_iff.1 hb).1
    have hl : (strCells l).length = l.length := str_len l
    rw [hl] at h1 h4
    have hH : Holds encStr w g 0 l.toArray := holds_of_block hb (by rw [Nat.mul_one] at h4; exact h4)
    rw [hl]
    refine (Tryz.slices_Sort_string g 0 cap l w hH hlt (by omega)).mono ?_
    rintro e w' ⟨rfl, k, os, rfl⟩
    refine ⟨rfl, ?_, (Below.refl B w).grown (grownBy_sorted _) (by omega) (fun j hj => by cases hj; exact hbase)⟩
    have := ownsRow_sorted (n := k) (os := os) (ts := srtS l) (srtS_len l) hbase hb h1 h2 h3
    unfold OwnS Own
    rw [str_len, srtS_len]
    exact this
theorem compact86 (v : Value) (l : LS) (B : Nat) (w : World) (h : OwnS w B v l) (hn : l.length ≤ 1000000) :
    Calls Tryz.prog 143 #[v] w fun e w' => ∃ v', e = .returned v' ∧ OwnS w' B v' (Lib.compact l) ∧ Below B w w' := by
  have hrow : w.ownsRow B 9 1 v l.length (l.map encStr) := by
    have h' := h
    unfold OwnS Own at h'
    rw [str_len] at h'
    exact h'
  rcases hrow.2 with ⟨rfl, h0⟩ | ⟨g, cap, cur, rfl, hbase, hb, h1, h2, h3, h4⟩
  · obtain rfl : l = [] := List.eq_nil_of_length_eq_zero h0
    refine (Tryz.slices_Compact_string_empty none 0 w).mono ?_
    rintro e w' ⟨rfl, rfl⟩
    exact ⟨_, rfl, OwnS.nil _ _, Below.refl _ _⟩
  · have hH : Holds encStr w g 0 l.toArray := holds_of_block hb (by rw [Nat.mul_one] at h4; exact h4)
    have hle := Lib.compact_length_le l
    refine (Tryz.slices_Compact_string g 0 cap l w hH (by omega) h1).mono ?_
    rintro e w' ⟨rfl, q, rfl⟩
    have hc := Lib.ownsRow_putRow (q := q) (k := (Lib.compact l).length) (ys := Lib.compact l ++ List.replicate (l.length - (Lib.compact l).length) []) hrow (by simp; omega) (by omega)
    rw [List.take_left] at hc
    refine ⟨_, rfl, ?_, Lib.below_putRow (Below.refl B w) hbase⟩
    unfold OwnS Own
    rw [str_len]
    exact hc
set_option maxRecDepth 20000 in
set_option maxHeartbeats 1600000 in
theorem different70 (v : Value) (l : LS) (B : Nat) (w : World) (h : OwnS w B v l) (hn : l.length ≤ 1000000) :
    Calls Tryz.prog 114 #[v] w fun e w' => ∃ v', e = .returned v' ∧ OwnS w' B v' (diffS l) ∧ Below B w w' := by
  have H1 := hide (sort85 v l B w h hn)
  have hlen : (srtS l).length ≤ 1000000 := by rw [srtS_len]; exact hn
  have hle : (Lib.compact (srtS l)).length ≤ 1000000 := Nat.le_trans (Lib.compact_length_le _) hlen
  obtain ⟨sl, hsl⟩ : ∃ sl, srtS l = sl := ⟨_, rfl⟩
  have HD := hide (show diffS l = if 8 < (Lib.compact sl).length then [] else Lib.compact sl by unfold diffS sortS; rw [hsl])
  rw [hsl] at H1 hlen hle
  clear h hn hsl
  go_enter Tryz.func114, Tryz.ntmps114
  go_wp2_with fail
  with_reducible refine H1.out.mono ?_
  rintro e w1 ⟨rfl, ho1, hb1⟩
  have HC := hide (compact86 v sl B w1 ho1 hlen)
  have B1 := hide hb1
  clear ho1 hb1 H1
  go_wp2_with fail
  with_reducible refine HC.out.mono ?_
  rintro e w2 ⟨v2, rfl, ho2, hb2⟩
  obtain ⟨A2, n2, c2, rfl, hn2, -⟩ := ho2.sl
  have O2 := hide ho2
  have B2 := hide (B1.out.trans hb2)
  have Hn2 := hide hn2
  clear ho2 hb2 HC
  by_cases h8 : 8 < n2
  · have h8' : (8 : Int) < (n2 : Int) := by omega
    have HE := hide (show diffS l = [] by rw [HD.out, if_pos (by rw [← Hn2.out]; exact h8)])
    clear hn2 h8 hle
    go_wp2
    go_ret
    exact ⟨_, rfl, by rw [HE.out]; exact OwnS.nil _ _, B2.out⟩
  · have h8' : ¬ (8 : Int) < (n2 : Int) := by omega
    have HE := hide (show diffS l = Lib.compact sl by rw [HD.out, if_neg (by rw [← Hn2.out]; exact h8)])
    clear hn2 h8 hle
    go_wp2
    go_ret
    exact ⟨_, rfl, by rw [HE.out]; exact O2.out, B2.out⟩
set_option maxRecDepth 20000 in
theorem empty71 (W : World) : Calls Tryz.prog 115 #[] W (GotLs W [[]]) := by
  have hs := lit_sl W #[.string (bsx [])] 9 (strCells [[]]) 1 rfl rfl (by omega)
  have hb := bel_alloc W (.cells #[.string (bsx [])] 9)
  go_enter Tryz.func115, Tryz.ntmps115
  go_wp2
  go_ret
  exact ⟨_, _, _, rfl, rfl, hs, (fun ad e => by cases e; exact Nat.le_refl _), hb⟩
end Go.Proofs.YtlnbjdlooghpeaaGreatDoor
namespace Go.Proofs.YtlnbjdlooghpeaaGreatDoor
open Go.RowKit
theorem pair_app (a b c : LS) : pairS (a ++ b) c = pairS a c ++ pairS b c := by unfold pairS; rw [List.flatMap_append]
theorem pair_next {a : LS} {i : Nat} {x : List UInt8} (h : a[i]? = some x) (b : LS) : pairS (a.take (i + 1)) b = pairS (a.take i) b ++ b.map fun y => x ++ y := by
  rw [takeN h, pair_app]
  congr 1
  unfold pairS
  simp
theorem pair_len (a b : LS) : (pairS a b).length = a.length * b.length := by
  induction a with
  | nil => simp [pairS]
  | cons x a ih => rw [pair_cons, List.length_append, List.length_map, ih, List.length_cons, Nat.succ_mul]; omega
theorem pair_at_len {a b : LS} (la : a.length ≤ 8) (lb : b.length ≤ 8) (i k : Nat) (x : List UInt8) : (pairS (a.take i) b ++ (b.take k).map fun y => x ++ y).length ≤ 100 := by
  rw [List.length_append, pair_len, List.length_map, List.length_take, List.length_take]
  have : min i a.length * b.length ≤ 8 * 8 := Nat.mul_le_mul (by omega) lb
  omega
theorem infoSt : (Tryz.prog.info? 9).map (fun i => (i.zero, i.size, i.bytes)) = some (some (.string ⟨#[]⟩), 1, 16) := by kernel_rfl
theorem str_push (l : LS) (s : List UInt8) : strCells l ++ [.string (bsx s)] = strCells (l ++ [s]) := by rw [str_app]; rfl
theorem map_take_next {b : LS} {k : Nat} {y : List UInt8} (h : b[k]? = some y) (f : List UInt8 → List UInt8) : (b.take (k + 1)).map f = (b.take k).map f ++ [f y] := by rw [takeN h]; simp
set_option maxRecDepth 100000 in
set_option maxHeartbeats 6400000 in
theorem product72 {W : World} {Aa Ab : Option Addr} {na ca nb cb : Nat} {a b : LS} (ha : Sl W Aa na ca (strCells a)) (hb : Sl W Ab nb cb (strCells b)) (la : a.length ≤ 8) (lb : b.length ≤ 8) (sa : ∀ x ∈ a, x.length ≤ 16) (sb : ∀ x ∈ b, x.length ≤ 16) :
    Calls Tryz.prog 111 #[.slice Aa na ca, .slice Ab nb cb] W (GotLs W (gd (prodS a b))) := by
  obtain ⟨i0, hi0, hz0, hz1, hz2⟩ := info_parts infoSt
  have hnca := ha.1
  have hcca := ha.2.1
  have hncb := hb.1
  have hccb := hb.2.1
  have hnla := ha.nstr
  have hnlb := hb.nstr
  have Hna := hide hnla
  have Hnb := hide hnlb
  have hna5 : na ≤ 8 := by omega
  have hnb5 : nb ≤ 8 := by omega
  have SA := hide ha
  have SB := hide hb
  have HsA := hide sa
  have HsB := hide sb
  clear ha hb hnla hnlb sa sb
  go_enter Tryz.func111, Tryz.ntmps111
  go_wp2
  go_loopw [5, 12] (fun v x wr => ∃ (i : Nat) (vl : Value), i ≤ na ∧ x = .int .i64 (i : Int) ∧ vl = v ∧ shortAt a b i ∧ OwnS wr W.heap.size vl (pairS (a.take i) b) ∧ Below W.heap.size W wr) (fun _ x _ => na - (intOf x).toNat)
  case atStart => exact ⟨0, _, Nat.zero_le _, rfl, rfl, fun x hx => by simp at hx, by rw [List.take_zero]; exact OwnS.nil _ _, Below.refl _ _⟩
  case round =>
    obtain ⟨i, vl, hi, rfl, rfl, hsh, ho, hbel⟩ := hrel
    obtain ⟨w2, hw2⟩ : ∃ w2, w2 = wr := ⟨wr, rfl⟩
    subst hw2
    have B2 := hide hbel
    have O2 := hide ho
    have Hsh := hide hsh
    have hib : (i : Int) ≤ 100 := by omega
    clear hbel ho hsh
    by_cases hlt : i < na
    · have hlt' : (i : Int) < (na : Int) := by omega
      obtain ⟨ad, x, rfl, hx, hcx⟩ := str_cell (SA.out.below B2.out).reads hlt
      have hxs := HsA.out x (List.mem_of_getElem? hx)
      have Hpn := hide (pair_next hx b)
      have Hx := hide hx
      clear hx
      go_wp2_with fail
      go_loopw [5, 18] (fun v y wr => ∃ (k : Nat) (vk : Value), k ≤ nb ∧ y = .int .i64 (k : Int) ∧ vk = v ∧ (∀ z ∈ b.take k, x.length + z.length ≤ 16) ∧ OwnS wr W.heap.size vk (pairS (a.take i) b ++ (b.take k).map fun y => x ++ y) ∧ Below W.heap.size W wr) (fun _ y _ => nb - (intOf y).toNat)
      case atStart => exact ⟨0, _, Nat.zero_le _, rfl, rfl, fun z hz => by simp at hz, by rw [List.take_zero, List.map_nil, List.append_nil]; exact O2.out, B2.out⟩
      case round =>
        obtain ⟨k, vk, hk, rfl, rfl, hsh, ho, hbel⟩ := hrel
        obtain ⟨w3, hw3⟩ : ∃ w3, w3 = wr := ⟨wr, rfl⟩
        subst hw3
        have B3 := hide hbel
        have O3 := hide ho
        have Hsh3 := hide hsh
        have hBs := hbel.size
        have hln := pair_at_len la lb i k x
        clear hbel ho hsh
        by_cases hkt : k < nb
        · have hkt' : (k : Int) < (nb : Int) := by omega
          obtain ⟨ae, y, rfl, hy, hcy⟩ := str_cell (SB.out.below B3.out).reads hkt
          have hys := HsB.out y (List.mem_of_getElem? hy)
          have hsz1 : (bsx x).size = x.length := bsx_size x
          have hsz2 : (bsx y).size = y.length := bsx_size y
          by_cases h16 : 16 < x.length + y.length
          · have h16' : (16 : Int) < (x.length : Int) + (y.length : Int) := by omega
            have Ho := hide (show gd (prodS a b) = [] by rw [prod_none Hx.out hy h16]; rfl)
            clear hy h16
            go_wp2
            go_ret
            rw [Ho.out]
            exact GotLs.nil W B3.out
          · have h16' : ¬ (16 : Int) < (x.length : Int) + (y.length : Int) := by omega
            have Hmt := hide (map_take_next hy fun y => x ++ y)
            have Hsn := hide (short_row hy Hsh3.out (by omega))
            clear hy h16
            have hss1 : (bsx x).size ≤ 1000 := by omega
            have hss2 : (bsx y).size ≤ 1000 := by omega
            have hcl : (strCells (pairS (a.take i) b ++ (b.take k).map fun y => x ++ y)).length ≤ 100 := by rw [str_len]; exact hln
            have Hap := hide (bsx_app x y)
            clear hln
            go_wp2_with (first
              | (at_builtin; refine wp_push (by rfl) (.tmp 28) (.tmp 32) 36 (by rfl) 9 i0 _ 16 Tryz.underlying36 hi0 hz0 hz1 hz2 rfl W.heap.size vk _ (by rfl) w3 (.string (bsx x ++ bsx y)) rfl (Or.inl O3.out) hBs _ rfl (by rfl) (by omega) (by unfold maxLen; omega) ?_; intro v4 w4 ho4 hb4)
              | fail)
            have O4 := hide (show OwnS w4 W.heap.size v4 (pairS (a.take i) b ++ (b.take (k + 1)).map fun y => x ++ y) by
              rw [Hmt.out, ← List.append_assoc]
              unfold OwnS
              rw [← str_push, ← Hap.out]
              exact ho4)
            have B4 := hide (B3.out.trans hb4)
            clear ho4 hb4
            go_wp2
            go_roundw
            case rel => exact ⟨k + 1, v4, by omega, by go_num, rfl, Hsn.out, O4.out, B4.out⟩
            case measure => simp [intOf]; omega
        · have hkt' : ¬ (k : Int) < (nb : Int) := by omega
          have hkn : b.take k = b := List.take_of_length_le (by rw [Hnb.out]; omega)
          have O4 := hide (show OwnS w3 W.heap.size vk (pairS (a.take (i + 1)) b) by rw [Hpn.out]; have := O3.out; rw [hkn] at this; exact this)
          have Hs4 := hide (short_next Hx.out Hsh.out (by have := Hsh3.out; rw [hkn] at this; exact this))
          clear hkn
          go_wp2
          go_roundw
          case rel => exact ⟨i + 1, vk, by omega, by go_num, rfl, Hs4.out, O4.out, B3.out⟩
          case measure => simp [intOf]; omega
    · have hlt' : ¬ (i : Int) < (na : Int) := by omega
      have hin : a.take i = a := List.take_of_length_le (by rw [Hna.out]; omega)
      have ho := O2.out
      rw [hin] at ho
      have HC := hide (different70 vl (pairS a b) W.heap.size w2 ho (by rw [pair_len]; have : a.length * b.length ≤ 8 * 8 := Nat.mul_le_mul la lb; omega))
      have HE := hide (show diffS (pairS a b) = gd (prodS a b) by
        rw [← prodP_eq]
        unfold prodP
        rw [if_neg]
        intro hl
        unfold longS at hl
        obtain ⟨x, hx, hl⟩ := List.any_eq_true.1 hl
        obtain ⟨y, hy, hl⟩ := List.any_eq_true.1 hl
        have hs := Hsh.out x (by rw [hin]; exact hx) y hy
        have := of_decide_eq_true hl
        omega)
      clear ho hin
      go_wp2_with fail
      with_reducible refine HC.out.mono ?_
      rintro e w3 ⟨v3, rfl, ho3, hb3⟩
      have G3 := hide (GotLs.of_own (W := W) ho3 (Nat.le_refl _) (B2.out.trans hb3))
      rw [HE.out] at G3
      clear ho3 hb3
      go_wp2
      go_ret
      exact G3.out
end Go.Proofs.YtlnbjdlooghpeaaGreatDoor
namespace Go.Proofs.YtlnbjdlooghpeaaGreatDoor
open Go.RowKit
open Go.ChangeShapes (block_add)
def slv (p : Option Addr × Nat × Nat) : Value := .slice p.1 p.2.1 p.2.2
def SlS (w : World) (A : Option Addr) (m c : Nat) (ls : List LS) : Prop :=
  ls.length = m ∧ m ≤ c ∧ c ≤ 9223372036854775807 ∧ (A = none → c = 0) ∧ ∀ (k : Nat) (l : LS), ls[k]? = some l → ∃ g o A' n' c', A = some ⟨g, o, none⟩ ∧ w.cell? ⟨g, o + k, none⟩ = some (.slice A' n' c') ∧ n' = l.length ∧ Sl w A' n' c' (strCells l)
theorem SlS.below {w w' : World} {A : Option Addr} {m c : Nat} {ls : List LS} (h : SlS w A m c ls) (hb : Below w.heap.size w w') : SlS w' A m c ls := by
  refine ⟨h.1, h.2.1, h.2.2.1, h.2.2.2.1, fun k l hl => ?_⟩
  obtain ⟨g, o, A', n', c', e, hc, hn, hs⟩ := h.2.2.2.2 k l hl
  exact ⟨g, o, A', n', c', e, (hb.cell (World.block_lt_of_cell? _ _ hc)).trans hc, hn, hs.below hb⟩
theorem SlS.at_ {w : World} {A : Option Addr} {m c : Nat} {ls : List LS} (h : SlS w A m c ls) {k : Nat} (hk : k < m) : ∃ l g o A' n' c', ls[k]? = some l ∧ A = some ⟨g, o, none⟩ ∧ w.cell? ⟨g, o + k, none⟩ = some (.slice A' n' c') ∧ n' = l.length ∧ Sl w A' n' c' (strCells l) := by
  have hl : k < ls.length := by rw [h.1]; exact hk
  obtain ⟨g, o, A', n', c', e, hc, hn, hs⟩ := h.2.2.2.2 k ls[k] (List.getElem?_eq_getElem hl)
  exact ⟨ls[k], g, o, A', n', c', List.getElem?_eq_getElem hl, e, hc, hn, hs⟩
theorem SlS.two {w : World} {T : TypeId} {A B : Option Addr} {n c m d : Nat} {a b : LS} (ha : Sl w A n c (strCells a)) (hb : Sl w B m d (strCells b)) : SlS (w.alloc (.cells #[.slice A n c, .slice B m d] T)) (some ⟨w.heap.size, 0, none⟩) 2 2 [a, b] := by
  have hbel := bel_alloc w (.cells #[.slice A n c, .slice B m d] T)
  refine ⟨rfl, Nat.le_refl _, by omega, (fun e => by cases e), fun k l hl => ?_⟩
  match k, hl with
  | 0, hl =>
    simp at hl
    subst hl
    exact ⟨w.heap.size, 0, A, n, c, rfl, by rw [World.cell?_alloc_mark]; rfl, ha.nstr.symm, ha.below hbel⟩
  | 1, hl =>
    simp at hl
    subst hl
    exact ⟨w.heap.size, 0, B, m, d, rfl, by rw [World.cell?_alloc_mark]; rfl, hb.nstr.symm, hb.below hbel⟩
def RowsS (w : World) (B : Nat) (v : Value) (ls : List LS) : Prop :=
  ∃ hs : List (Option Addr × Nat × Nat), Own w B 36 v (hs.map slv) ∧ hs.length = ls.length ∧ ∀ (k : Nat) (p : Option Addr × Nat × Nat) (l : LS), hs[k]? = some p → ls[k]? = some l → p.2.1 = l.length ∧ Lies w v p.1 p.2.1 p.2.2 (strCells l)
theorem RowsS.nil (w : World) (B : Nat) : RowsS w B (.slice none 0 0) [] := ⟨[], World.ownsRow_nil _ _ _ _, rfl, fun k p l h => by simp at h⟩
theorem RowsS.sl {w : World} {B : Nat} {v : Value} {ls : List LS} (h : RowsS w B v ls) : ∃ A m c, v = .slice A m c ∧ m = ls.length ∧ SlS w A m c ls := by
  obtain ⟨hs, h1, h2, h3⟩ := h
  have h1' := h1
  obtain ⟨A, c, rfl, hsl⟩ := h1.sl
  have hm : (hs.map slv).length = ls.length := by rw [List.length_map, h2]
  rw [hm] at h1' hsl ⊢
  refine ⟨A, ls.length, c, rfl, rfl, rfl, hsl.1, hsl.2.1, hsl.2.2.1, fun k l hl => ?_⟩
  have hk : k < hs.length := by rw [h2]; exact (List.getElem?_eq_some_iff.1 hl).1
  have hp := List.getElem?_eq_getElem hk
  obtain ⟨hn, hL⟩ := h3 k _ l hp hl
  rcases h1'.2 with ⟨h0, e⟩ | ⟨g, cap, cur, hv, -⟩
  · omega
  · simp only [Value.slice.injEq] at hv
    obtain ⟨rfl, -, rfl⟩ := hv
    refine ⟨g, 0, hs[k].1, hs[k].2.1, hs[k].2.2, rfl, ?_, hn, hL.1⟩
    rw [Nat.zero_add]
    have := h1.cellAt (g := g) k (by rw [List.length_map, Nat.mul_one]; exact hk)
    rw [this, List.getElem?_map, hp]
    rfl
theorem RowsS.push {w w' : World} {B : Nat} {v v' : Value} {ls : List LS} {l : LS} {A : Option Addr} {n c : Nat} (h : ∃ hs : List (Option Addr × Nat × Nat), Own w' B 36 v' (hs.map slv ++ [.slice A n c]) ∧ hs.length = ls.length ∧ ∀ (k : Nat) (p : Option Addr × Nat × Nat) (l : LS), hs[k]? = some p → ls[k]? = some l → p.2.1 = l.length ∧ Lies w v p.1 p.2.1 p.2.2 (strCells l))
    (hf : Far w w' v v') (hn : n = l.length) (hl : Lies w v A n c (strCells l)) : RowsS w' B v' (ls ++ [l]) := by
  obtain ⟨hs, h1, h2, h3⟩ := h
  refine ⟨hs ++ [(A, n, c)], by rw [List.map_append]; exact h1, by simp [h2], fun k p l' hp hl' => ?_⟩
  by_cases hk : k < hs.length
  · rw [List.getElem?_append_left hk] at hp
    rw [List.getElem?_append_left (by rw [← h2]; exact hk)] at hl'
    exact ⟨(h3 k p l' hp hl').1, (h3 k p l' hp hl').2.far hf⟩
  · rw [List.getElem?_append_right (by omega)] at hp
    rw [List.getElem?_append_right (by rw [← h2]; omega)] at hl'
    have hk0 : k - hs.length = 0 := by
      have := (List.getElem?_eq_some_iff.1 hp).1
      simp at this
      omega
    rw [hk0] at hp
    rw [← h2, hk0] at hl'
    simp at hp hl'
    subst hp hl'
    exact ⟨hn, hl.far hf⟩
theorem zcells (k : Nat) : (Builtin.zeroCells (Value.string ⟨#[]⟩).cells k).size = k := by simp [Builtin.zeroCells, Value.cells]
set_option maxRecDepth 20000 in
set_option maxHeartbeats 1600000 in
theorem grow92 (n : Nat) (h0 : 0 < n) (hn : n ≤ 10000) (w : World) : Calls Tryz.prog 159 #[.slice none 0 0, .int .i64 (n : Int)] w fun e w' => ∃ v, e = .returned v ∧ OwnS w' w.heap.size v [] ∧ Below w.heap.size w w' := by
  obtain ⟨i0, hi0, hz0, hz1, hz2⟩ := info_parts infoSt
  have h63 : (n : Int) ≤ 10000 := by omega
  have hold : (Builtin.firstCells i0.size 0 (.slice none 0 0)).run Tryz.prog w.drew = .ok ([] : List Value).toArray w.drew := by
    rw [hz1]
    exact run_firstCells_none w.drew 1 0 0 0
  have hfit := growslice_fits (need := n) (old := 0) (bytes := i0.bytes) (by omega) (by rw [hz2]; omega)
  have hrz : ∀ ty, (Builtin.append_ #[36, 3] ty #[.slice none 0 0, .int .i64 (n : Int)]).run Tryz.prog w = .ok (.slice (some ⟨w.heap.size, 0, none⟩) n (grownCap w n 0 9)) (w.drew.alloc (.cells (([] : List Value).toArray ++ Builtin.zeroCells (Value.string ⟨#[]⟩).cells n ++ Builtin.zeroCells (Value.string ⟨#[]⟩).cells (grownCap w n 0 9 - n)) 9)) := fun ty => by
    have h := Lib.run_append_grow_zeros w 36 3 ty 9 i0 _ .i64 .i64 Tryz.underlying36 Tryz.underlying3 hi0 hz0 none 0 0 [] hold n h0 (by rw [hz1]; omega) (by omega) (by omega) (by rw [hz2]; omega) (by rw [Nat.zero_add]; exact hfit)
    rw [Nat.zero_add] at h
    exact h
  have hGn : n ≤ grownCap w n 0 9 := grownCap_ge w _ _ _
  have hGm := grownCap_le_maxLen w n 0 9 (by unfold maxLen; omega)
  obtain ⟨G, hG⟩ : ∃ G, grownCap w n 0 9 = G := ⟨_, rfl⟩
  rw [hG] at hrz hGn hGm
  obtain ⟨cs, hcs⟩ : ∃ cs : Array Value, ([] : List Value).toArray ++ Builtin.zeroCells (Value.string ⟨#[]⟩).cells n ++ Builtin.zeroCells (Value.string ⟨#[]⟩).cells (G - n) = cs := ⟨_, rfl⟩
  have hsz : cs.size = G := by
    rw [← hcs]
    simp only [Array.size_append, zcells, List.size_toArray, List.length_nil]
    omega
  rw [hcs] at hrz
  have hG63 : G ≤ 9223372036854775807 := by unfold maxLen at hGm; omega
  have hnG : (n : Int) ≤ (G : Int) := by omega
  have HO := hide (show OwnS (w.drew.alloc (.cells cs 9)) w.heap.size (.slice (some ⟨w.heap.size, 0, none⟩) 0 G) [] from ⟨rfl, Or.inr ⟨w.heap.size, G, cs, rfl, Nat.le_refl _, heap_alloc_new w.drew _, Nat.zero_le _, hGm, by omega, by simp [strCells]⟩⟩)
  have HB := hide (show Below w.heap.size w (w.drew.alloc (.cells cs 9)) from bgo (bel_drew w) (bel_alloc w.drew _))
  have h1 : ¬ ((n : Int) < 0) := by omega
  have h4 : (0 : Int) < (n : Int) := by omega
  clear hold hfit hcs hsz hG hGm
  go_enter Tryz.func159, Tryz.ntmps159
  go_wp2_with (at_builtin; refine Lib.wpList_append_run _ rfl _ _ _ _ rfl _ _ rfl rfl _ _ (hrz _) ?_)
  all_goals (go_ret; exact ⟨_, rfl, HO.out, HB.out⟩)
def lenS (ls : List LS) : Nat := (ls.map List.length).sum
theorem lenS_next {ls : List LS} {k : Nat} {l : LS} (h : ls[k]? = some l) : lenS (ls.take (k + 1)) = lenS (ls.take k) + l.length := by unfold lenS; rw [takeN h]; simp
theorem flat_next {ls : List LS} {k : Nat} {l : LS} (h : ls[k]? = some l) : (ls.take (k + 1)).flatten = (ls.take k).flatten ++ l := by rw [takeN h]; simp
theorem lenS_flat (ls : List LS) : ls.flatten.length = lenS ls := by unfold lenS; rw [List.length_flatten]
theorem lenS_le (ls : List LS) (k : Nat) : lenS (ls.take k) ≤ lenS ls := by
  have : lenS ls = lenS (ls.take k) + lenS (ls.drop k) := by unfold lenS; rw [← List.sum_append, ← List.map_append, List.take_append_drop]
  omega
theorem strs_one (l : LS) : ∀ u ∈ strCells l, u.oneCell' = true := str_one l
set_option maxRecDepth 100000 in
set_option maxHeartbeats 3200000 in
theorem concat87 {W : World} {A : Option Addr} {m c : Nat} {ls : List LS} (h : SlS W A m c ls) (h0 : 0 < lenS ls) (hl : lenS ls ≤ 1000) (hm : m ≤ 1000) :
    Calls Tryz.prog 144 #[.slice A m c] W fun e w' => ∃ v, e = .returned v ∧ OwnS w' W.heap.size v ls.flatten ∧ Below W.heap.size W w' := by
  obtain ⟨i0, hi0, hz0, hz1, hz2⟩ := info_parts infoSt
  have hlen := h.1
  have hmc := h.2.1
  have hcc := h.2.2.1
  have HS := hide h
  have HG := hide (grow92 (lenS ls) h0 (by omega))
  obtain ⟨Lt, hLt⟩ : ∃ Lt, lenS ls = Lt := ⟨_, rfl⟩
  have Hlen := hide hlen
  have HLt := hide hLt
  rw [hLt] at h0 hl HG
  clear h hlen hLt
  go_enter Tryz.func144, Tryz.ntmps144
  go_wp2
  go_loopw [3, 11] (fun s x wr => ∃ (k z : Nat), k ≤ m ∧ x = .int .i64 (k : Int) ∧ s = .int .i64 (z : Int) ∧ z = lenS (ls.take k) ∧ wr = W) (fun _ x _ => m - (intOf x).toNat)
  case atStart => exact ⟨0, 0, Nat.zero_le _, rfl, rfl, rfl, rfl⟩
  case round =>
    obtain ⟨k, z, hk, rfl, rfl, hz, rfl⟩ := hrel
    obtain ⟨w1, hw1⟩ : ∃ w1, w1 = wr := ⟨wr, rfl⟩
    subst hw1
    have hzl : z ≤ Lt := by have := lenS_le ls k; have := HLt.out; omega
    have Hz := hide hz
    clear hz
    by_cases hlt : k < m
    · have hlt' : (k : Int) < (m : Int) := by omega
      obtain ⟨l, g, o, A', n', c', hl', rfl, hc, hn, hs⟩ := HS.out.at_ hlt
      have Hnx := hide (lenS_next hl')
      have Hn := hide hn
      have hz2' : z + n' ≤ Lt := by have h1 := lenS_le ls (k + 1); have h2 := Hnx.out; have h3 := Hz.out; have h4 := HLt.out; omega
      have hw1 : IntKind.i64.wrap ((z : Int) + (n' : Int)) = (z : Int) + (n' : Int) := IntWalk.i64_in _ (by omega)
      have hneg : ¬ ((z : Int) + (n' : Int) < 0) := by omega
      have hnc' := hs.1
      have hcc' := hs.2.1
      clear hl' hs hn
      go_wp2
      go_roundw
      case rel => exact ⟨k + 1, z + n', by omega, by go_num, by go_num, by have h1 := Hnx.out; have h2 := Hz.out; have h3 := Hn.out; omega, trivial⟩
      case measure => simp [intOf]; omega
    · have hlt' : ¬ (k : Int) < (m : Int) := by omega
      obtain rfl : z = Lt := by have h1 := Hz.out; rw [List.take_of_length_le (by rw [Hlen.out]; omega)] at h1; rw [h1]; exact HLt.out
      clear hzl
      go_wp2_with fail
      with_reducible refine (HG.out _).mono ?_
      rintro e w2 ⟨v2, rfl, ho2, hb2⟩
      have O2 := hide ho2
      have B2 := hide hb2
      clear ho2 hb2
      go_wp2
      go_loopw [6, 27] (fun v x wr => ∃ (j : Nat) (vj : Value), j ≤ m ∧ x = .int .i64 (j : Int) ∧ vj = v ∧ OwnS wr w1.heap.size vj (ls.take j).flatten ∧ Below w1.heap.size w1 wr) (fun _ x _ => m - (intOf x).toNat)
      case atStart => exact ⟨0, v2, Nat.zero_le _, rfl, rfl, O2.out, B2.out⟩
      case round =>
        obtain ⟨j, vj, hj, rfl, rfl, ho, hbel⟩ := hrel
        obtain ⟨w3, hw3⟩ : ∃ w3, w3 = wr := ⟨wr, rfl⟩
        subst hw3
        have O3 := hide ho
        have B3 := hide hbel
        have hBs := hbel.size
        by_cases hlt2 : j < m
        · have hlt2' : (j : Int) < (m : Int) := by omega
          obtain ⟨l, g, o, A', n', c', hl', rfl, hc, hn, hs⟩ := (HS.out.below hbel).at_ hlt2
          have Hfx := hide (flat_next hl')
          have hxl : (strCells (ls.take j).flatten).length ≤ 1000 := by rw [str_len, lenS_flat]; have h1 := lenS_le ls j; have := HLt.out; omega
          have hn1 : n' ≤ 1000 := by have h1 := lenS_le ls (j + 1); have h2 := lenS_next hl'; have := HLt.out; omega
          have S3 := hide hs
          clear hl' hs ho hbel hn
          go_wp2_with (first
            | (at_builtin; refine wp_join (by rfl) (.tmp 31) (.tmp 32) 36 (by rfl) 9 i0 _ 16 Tryz.underlying36 hi0 hz0 hz1 hz2 rfl w1.heap.size vj _ (by rfl) w3 O3.out hBs A' n' c' (strCells l) (by rfl) S3.out (strs_one l) (by omega) (by unfold maxLen; omega) ?_; intro v4 w4 ho4 hb4)
            | fail)
          have O4 := hide (show OwnS w4 w1.heap.size v4 (ls.take (j + 1)).flatten by rw [Hfx.out]; unfold OwnS; rw [str_app]; exact ho4)
          have B4 := hide (B3.out.trans hb4)
          clear ho4 hb4
          go_wp2
          go_roundw
          case rel => exact ⟨j + 1, v4, by omega, by go_num, rfl, O4.out, B4.out⟩
          case measure => simp [intOf]; omega
        · have hlt2' : ¬ (j : Int) < (m : Int) := by omega
          rw [List.take_of_length_le (by rw [Hlen.out]; omega)] at ho
          have O4 := hide ho
          clear ho hbel
          go_wp2
          go_ret
          exact ⟨_, rfl, O4.out, B3.out⟩
set_option maxRecDepth 100000 in
set_option maxHeartbeats 3200000 in
theorem union73 {W : World} {Aa Ab : Option Addr} {na ca nb cb : Nat} {a b : LS} (ha : Sl W Aa na ca (strCells a)) (hb : Sl W Ab nb cb (strCells b)) (la : a.length ≤ 8) (lb : b.length ≤ 8) :
    Calls Tryz.prog 116 #[.slice Aa na ca, .slice Ab nb cb] W (GotLs W (unionP a b)) := by
  have hnca := ha.1
  have hcca := ha.2.1
  have hncb := hb.1
  have hccb := hb.2.1
  have hna := ha.nstr
  have hnb := hb.nstr
  by_cases h1 : na = 0
  · have q1 : ((na : Int) == 0) = true := beq_iff_eq.2 (by omega)
    have Hn := hide (show unionP a b = [] by unfold unionP; rw [if_pos (Or.inl (by omega))])
    clear ha hb hna hnb h1
    go_enter Tryz.func116, Tryz.ntmps116
    go_wp2
    go_ret
    rw [Hn.out]
    exact GotLs.nil W (Below.refl _ _)
  have q1 : ((na : Int) == 0) = false := beq_eq_false_iff_ne.2 (by omega)
  by_cases h2 : nb = 0
  · have q2 : ((nb : Int) == 0) = true := beq_iff_eq.2 (by omega)
    have Hn := hide (show unionP a b = [] by unfold unionP; rw [if_pos (Or.inr (by omega))])
    clear ha hb hna hnb h1 h2
    go_enter Tryz.func116, Tryz.ntmps116
    go_wp2
    go_ret
    rw [Hn.out]
    exact GotLs.nil W (Below.refl _ _)
  have q2 : ((nb : Int) == 0) = false := beq_eq_false_iff_ne.2 (by omega)
  have Hn := hide (show unionP a b = diffS (a ++ b) by unfold unionP; rw [if_neg (by omega)])
  have hT := SlS.two (T := 36) ha hb
  have hbl := bel_alloc W (.cells #[.slice Aa na ca, .slice Ab nb cb] 36)
  have HC := hide (concat87 hT (by simp [lenS]; omega) (by simp [lenS]; omega) (by omega))
  have HF := hide (show [a, b].flatten = a ++ b by simp)
  have Bl := hide hbl
  have Hln := hide (show (a ++ b).length ≤ 1000000 by rw [List.length_append]; omega)
  clear ha hb hna hnb h1 h2 hT hbl
  go_enter Tryz.func116, Tryz.ntmps116
  go_wp2_with fail
  with_reducible refine HC.out.mono ?_
  rintro e w2 ⟨v2, rfl, ho2, hb2⟩
  rw [HF.out] at ho2
  have HD := hide (different70 v2 (a ++ b) _ w2 ho2 Hln.out)
  have B2 := hide (bgo Bl.out hb2)
  have hs2 := hb2.size
  have hs3 : W.heap.size ≤ (W.alloc (.cells #[.slice Aa na ca, .slice Ab nb cb] 36)).heap.size := Bl.out.size
  clear ho2 hb2 HC
  go_wp2_with fail
  with_reducible refine HD.out.mono ?_
  rintro e w3 ⟨v3, rfl, ho3, hb3⟩
  have G3 := hide (GotLs.of_own (W := W) ho3 hs3 (B2.out.trans (hb3.mono hs3)))
  rw [← Hn.out] at G3
  clear ho3 hb3
  go_wp2
  go_ret
  exact G3.out
end Go.Proofs.YtlnbjdlooghpeaaGreatDoor
namespace Go.Proofs.YtlnbjdlooghpeaaGreatDoor
open Go.RowKit
def litLs (fold : Bool) (l : List Rx) : List LS := l.map fun x => gd (litR fold x)
theorem litLs_at {fold : Bool} {l : List Rx} {k : Nat} {y : LS} (h : (litLs fold l)[k]? = some y) : ∃ x, l[k]? = some x ∧ y = gd (litR fold x) := by
  unfold litLs at h
  rw [List.getElem?_map] at h
  cases hx : l[k]? with
  | none => rw [hx] at h; cases h
  | some x => rw [hx] at h; simp at h; exact ⟨x, rfl, h.symm⟩
theorem cat_lit (fold : Bool) (l : List Rx) (i : Nat) : LitL (gd (catAt fold l i)) := gd_lit fun _ h => catAt_good h
theorem alt_lit (fold : Bool) (l : List Rx) (i : Nat) : LitL (gd (altAt fold l i)) := gd_lit fun _ h => altAt_good h
theorem one_lit (fold : Bool) (x : Rx) : LitL (gd (litR fold x)) := gd_lit fun p h => litR_good x p h
set_option maxRecDepth 100000 in
set_option maxHeartbeats 3200000 in
theorem inorder48 {W : World} {A : Option Addr} {m c : Nat} {fold : Bool} {l : List Rx} (h : SlS W A m c (litLs fold l)) :
    Calls Tryz.prog 82 #[.slice A m c] W (GotLs W (gd (litCat fold [[]] l))) := by
  have hlen : l.length = m := by have := h.1; unfold litLs at this; rw [List.length_map] at this; exact this
  have hmc := h.2.1
  have hcc := h.2.2.1
  have HS := hide h
  have Hlen := hide hlen
  have HE := hide (fun X => empty71 X)
  clear h hlen
  go_enter Tryz.func82, Tryz.ntmps82
  go_wp2_with fail
  with_reducible refine (HE.out _).mono ?_
  rintro e w1 ⟨A1, n1, c1, rfl, hn1, hs1, hf1, hb1⟩
  have Fr1 := hide hf1
  have S1 := hide hs1
  have B1 := hide hb1
  have Hn1 := hide hn1
  clear hn1 hs1 hf1 hb1 HE
  go_wp2_with fail
  go_loopw [3, 9] (fun v x wr => ∃ (i : Nat) (Ai : Option Addr) (ni ci : Nat), i ≤ m ∧ x = .int .i64 (i : Int) ∧ v = .slice Ai ni ci ∧ Sl wr Ai ni ci (strCells (gd (catAt fold l i))) ∧ (∀ ad : Addr, Ai = some ad → W.heap.size ≤ ad.block) ∧ Below W.heap.size W wr) (fun _ x _ => m - (intOf x).toNat)
  case atStart => exact ⟨0, A1, n1, c1, Nat.zero_le _, rfl, rfl, by rw [catAt_zero]; exact S1.out, Fr1.out, B1.out⟩
  case round =>
    obtain ⟨i, Ai, ni, ci, hi, rfl, rfl, hs, hfr, hbel⟩ := hrel
    obtain ⟨w2, hw2⟩ : ∃ w2, w2 = wr := ⟨wr, rfl⟩
    subst hw2
    have S2 := hide hs
    have hbz := hbel.size
    have B2 := hide hbel
    by_cases hlt : i < m
    · have hlt' : (i : Int) < (m : Int) := by omega
      obtain ⟨y, g, o, A', n', c', hy, rfl, hc, hn, hs'⟩ := (HS.out.below hbel).at_ hlt
      obtain ⟨x, hx, rfl⟩ := litLs_at hy
      have hl1 := cat_lit fold l i
      have hl2 := one_lit fold x
      have HC := hide (product72 hs hs' hl1.2.1 hl2.2.1 hl1.2.2 hl2.2.2)
      have HX := hide (cat_step (fold := fold) hx)
      clear hs hfr hbel hy hx hn hs' hl1 hl2
      go_wp2_with fail
      with_reducible refine HC.out.mono ?_
      rintro e w3 ⟨A3, n3, c3, rfl, -, hs3, hf3, hb3⟩
      rw [HX.out] at hs3
      have S3 := hide hs3
      have B3 := hide (bgo B2.out hb3)
      have Fr3 := hide (show (∀ ad : Addr, A3 = some ad → W.heap.size ≤ ad.block) from fun ad e => Nat.le_trans hbz (hf3 ad e))
      clear hs3 hb3 hf3
      go_wp2
      go_roundw
      case rel => exact ⟨i + 1, A3, n3, c3, by omega, by go_num, rfl, S3.out, Fr3.out, B3.out⟩
      case measure => simp [intOf]; omega
    · have hlt' : ¬ (i : Int) < (m : Int) := by omega
      have hall : gd (catAt fold l i) = gd (litCat fold [[]] l) := by rw [show i = l.length by have := Hlen.out; omega, catAt_all]
      rw [hall] at hs
      have G := hide (show GotLs W (gd (litCat fold [[]] l)) (.returned (.slice Ai ni ci)) w2 from ⟨_, _, _, rfl, hs.nstr.symm, hs, hfr, hbel⟩)
      clear hs hfr hbel hall
      go_wp2
      go_ret
      exact G.out
set_option maxRecDepth 100000 in
set_option maxHeartbeats 3200000 in
theorem oneof49 {W : World} {A : Option Addr} {m c : Nat} {fold : Bool} {l : List Rx} (h : SlS W A m c (litLs fold l)) (hm : m ≤ 1000000) (h1 : 2 ≤ m) (hf : ∀ x ∈ l, Full (litR fold x)) :
    Calls Tryz.prog 83 #[.slice A m c] W (GotLs W (gd (litAlt fold [] l))) := by
  have hlen : l.length = m := by have := h.1; unfold litLs at this; rw [List.length_map] at this; exact this
  have hmc := h.2.1
  have hcc := h.2.2.1
  have HS := hide h
  have Hlen := hide hlen
  have Hf := hide hf
  obtain ⟨y, g, o, A0, n0, c0, hy, rfl, hc0, hn0, hs0⟩ := h.at_ (k := 0) (by omega)
  obtain ⟨x0, hx0, rfl⟩ := litLs_at hy
  have S0 := hide (show Sl W A0 n0 c0 (strCells (gd (altAt fold l 1))) by rw [alt_first hx0]; exact hs0)
  simp only [Nat.add_zero] at hc0
  have h1' : (1 : Int) ≤ (m : Int) := by omega
  have h0' : (0 : Int) < (m : Int) := by omega
  have hmc' : (m : Int) ≤ (c : Int) := by omega
  have hc1 : (1 : Int) < (c : Int) := by omega
  have hc2 : ¬ c = 1 := by omega
  have hsub : (m : Int) - 1 = ((m - 1 : Nat) : Int) := by omega
  clear h hlen hf hy hx0 hn0 hs0
  go_enter Tryz.func83, Tryz.ntmps83
  go_wp2_with fail
  go_loopw [3, 12] (fun v x wr => ∃ (i : Nat) (Ai : Option Addr) (ni ci : Nat), i + 1 ≤ m ∧ x = .int .i64 (i : Int) ∧ v = .slice Ai ni ci ∧ Sl wr Ai ni ci (strCells (gd (altAt fold l (i + 1)))) ∧ (0 < i → (∀ ad : Addr, Ai = some ad → W.heap.size ≤ ad.block)) ∧ Below W.heap.size W wr) (fun _ x _ => m - (intOf x).toNat)
  case atStart => exact ⟨0, A0, n0, c0, by omega, rfl, rfl, S0.out, (fun h => absurd h (by omega)), Below.refl _ _⟩
  case round =>
    obtain ⟨i, Ai, ni, ci, hi, rfl, rfl, hs, hfr, hbel⟩ := hrel
    obtain ⟨w2, hw2⟩ : ∃ w2, w2 = wr := ⟨wr, rfl⟩
    subst hw2
    have S2 := hide hs
    have hbz := hbel.size
    have B2 := hide hbel
    by_cases hlt : i + 1 < m
    · have hlt' : (i : Int) < ((m - 1 : Nat) : Int) := by omega
      obtain ⟨y, g', o', A', n', c', hy, e, hc, hn, hs'⟩ := (HS.out.below hbel).at_ hlt
      cases e
      obtain ⟨x, hx, rfl⟩ := litLs_at hy
      rw [show o + (i + 1) = o + 1 + i by omega] at hc
      have hl1 := alt_lit fold l (i + 1)
      have hl2 := one_lit fold x
      have HC := hide (union73 hs hs' hl1.2.1 hl2.2.1)
      have HX := hide (alt_step (fold := fold) Hf.out (i := i + 1) (by omega) hx)
      clear hs hfr hbel hy hx hn hs' hl1 hl2
      go_wp2_with fail
      with_reducible refine HC.out.mono ?_
      rintro e w3 ⟨A3, n3, c3, rfl, -, hs3, hf3, hb3⟩
      rw [HX.out] at hs3
      have S3 := hide hs3
      have B3 := hide (bgo B2.out hb3)
      have Fr3 := hide (show (∀ ad : Addr, A3 = some ad → W.heap.size ≤ ad.block) from fun ad e => Nat.le_trans hbz (hf3 ad e))
      clear hs3 hb3 hf3
      go_wp2
      go_roundw
      case rel => exact ⟨i + 1, A3, n3, c3, by omega, by go_num, rfl, S3.out, (fun _ => Fr3.out), B3.out⟩
      case measure => simp [intOf]; omega
    · have hlt' : ¬ (i : Int) < ((m - 1 : Nat) : Int) := by omega
      have hall : gd (altAt fold l (i + 1)) = gd (litAlt fold [] l) := by rw [show i + 1 = l.length by have := Hlen.out; omega, altAt_all]
      rw [hall] at hs
      have G := hide (show GotLs W (gd (litAlt fold [] l)) (.returned (.slice Ai ni ci)) w2 from ⟨_, _, _, rfl, hs.nstr.symm, hs, hfr (by omega), hbel⟩)
      clear hs hfr hbel hall
      go_wp2
      go_ret
      exact G.out
set_option maxRecDepth 100000 in
set_option maxHeartbeats 3200000 in
theorem repeated50 {W : World} {A : Option Addr} {n c : Nat} {x : LS} (h : Sl W A n c (strCells x)) (hx : LitL x) (a b : Nat) (hab : a ≤ b) (hb : b ≤ 8) :
    Calls Tryz.prog 84 #[.slice A n c, .int .i64 (a : Int), .int .i64 (b : Int)] W (GotLs W (repP x a (b - a))) := by
  have hnc := h.1
  have hcc := h.2.1
  have HS := hide h
  have HX := hide hx
  have HE := hide (fun X => empty71 X)
  have q1 : ((b : Int) == -1) = false := beq_eq_false_iff_ne.2 (by omega)
  have hb8 : (b : Int) ≤ 8 := by omega
  have ha8 : (a : Int) ≤ (b : Int) := by omega
  have hsub : (b : Int) - (a : Int) = ((b - a : Nat) : Int) := by omega
  obtain ⟨d, hd⟩ : ∃ d, b - a = d := ⟨_, rfl⟩
  rw [hd] at hsub ⊢
  have hd8 : (d : Int) ≤ 8 := by omega
  have hwd : IntKind.i64.wrap (d : Int) = (d : Int) := IntWalk.i64_in _ (by omega)
  clear h hx hd
  go_enter Tryz.func84, Tryz.ntmps84
  go_wp2_with fail
  with_reducible refine (HE.out _).mono ?_
  rintro e w1 ⟨A1, n1, c1, rfl, hn1, hs1, hf1, hb1⟩
  have Fr1 := hide hf1
  have S1 := hide hs1
  have B1 := hide hb1
  clear hn1 hs1 hf1 hb1 HE
  go_wp2_with fail
  go_loopw [7, 13] (fun v y wr => ∃ (i : Nat) (Ai : Option Addr) (ni ci : Nat), i ≤ a ∧ y = .int .i64 (i : Int) ∧ v = .slice Ai ni ci ∧ Sl wr Ai ni ci (strCells (gd (powS x i))) ∧ (∀ ad : Addr, Ai = some ad → W.heap.size ≤ ad.block) ∧ Below W.heap.size W wr) (fun _ y _ => a - (intOf y).toNat)
  case atStart => exact ⟨0, A1, n1, c1, Nat.zero_le _, rfl, rfl, S1.out, Fr1.out, B1.out⟩
  case round =>
    obtain ⟨i, Ai, ni, ci, hi, rfl, rfl, hs, hfr, hbel⟩ := hrel
    obtain ⟨w2, hw2⟩ : ∃ w2, w2 = wr := ⟨wr, rfl⟩
    subst hw2
    have S2 := hide hs
    have hbz := hbel.size
    have Fr2 := hide hfr
    have B2 := hide hbel
    by_cases hlt : i < a
    · have hlt' : (i : Int) < (a : Int) := by omega
      have hl1 := powS_lit x i
      have HC := hide (product72 hs (HS.out.below hbel) hl1.2.1 HX.out.2.1 hl1.2.2 HX.out.2.2)
      have HP := hide (pow_step x i)
      clear hs hfr hbel hl1
      go_wp2_with fail
      with_reducible refine HC.out.mono ?_
      rintro e w3 ⟨A3, n3, c3, rfl, -, hs3, hf3, hb3⟩
      rw [HP.out] at hs3
      have S3 := hide hs3
      have B3 := hide (bgo B2.out hb3)
      have Fr3 := hide (show (∀ ad : Addr, A3 = some ad → W.heap.size ≤ ad.block) from fun ad e => Nat.le_trans hbz (hf3 ad e))
      clear hs3 hb3 hf3
      go_wp2
      go_roundw
      case rel => exact ⟨i + 1, A3, n3, c3, by omega, by go_num, rfl, S3.out, Fr3.out, B3.out⟩
      case measure => simp [intOf]; omega
    · have hlt' : ¬ (i : Int) < (a : Int) := by omega
      obtain rfl : i = a := by omega
      clear hs hfr hbel
      go_wp2_with fail
      go_loopw [7, 8, 23] (fun v u y wr => ∃ (j : Nat) (Aj : Option Addr) (nj cj : Nat) (Bj : Option Addr) (mj dj : Nat), j ≤ d ∧ y = .int .i64 (j : Int) ∧ v = .slice Aj nj cj ∧ u = .slice Bj mj dj ∧ Sl wr Aj nj cj (strCells (gd (powS x (i + j)))) ∧ Sl wr Bj mj dj (strCells (repP x i j)) ∧ (∀ ad : Addr, Bj = some ad → W.heap.size ≤ ad.block) ∧ Below W.heap.size W wr) (fun _ _ y _ => d - (intOf y).toNat)
      case atStart => exact ⟨0, Ai, ni, ci, Ai, ni, ci, Nat.zero_le _, rfl, rfl, rfl, S2.out, S2.out, Fr2.out, B2.out⟩
      case round =>
        obtain ⟨j, Aj, nj, cj, Bj, mj, dj, hj, rfl, rfl, rfl, hs, hu, hfr, hbel⟩ := hrel
        obtain ⟨w3, hw3⟩ : ∃ w3, w3 = wr := ⟨wr, rfl⟩
        subst hw3
        have S3 := hide hs
        have hbz3 := hbel.size
        have U3 := hide hu
        have B3 := hide hbel
        by_cases hlt2 : j < d
        · have hlt2' : (j : Int) < (d : Int) := by omega
          have hl1 := powS_lit x (i + j)
          have HC := hide (product72 hs (HS.out.below hbel) hl1.2.1 HX.out.2.1 hl1.2.2 HX.out.2.2)
          have HP := hide (pow_step x (i + j))
          have HU := hide (show unionP (repP x i j) (gd (powS x (i + j + 1))) = repP x i (j + 1) by rw [repP])
          have HL1 := hide (repP_lit (x := x) i j).2.1
          have HL2 := hide (powS_lit x (i + j + 1)).2.1
          clear hs hu hfr hbel hl1
          go_wp2_with fail
          with_reducible refine HC.out.mono ?_
          rintro e w4 ⟨A4, n4, c4, rfl, -, hs4, -, hb4⟩
          rw [HP.out] at hs4
          have HC2 := hide (union73 (U3.out.below hb4) hs4 HL1.out HL2.out)
          have S4 := hide hs4
          have hbz4 := hb4.size
          have B4 := hide (bgo B3.out hb4)
          clear hs4 hb4 HC
          go_wp2_with fail
          with_reducible refine HC2.out.mono ?_
          rintro e w5 ⟨A5, n5, c5, rfl, -, hs5, hf5, hb5⟩
          rw [HU.out] at hs5
          have U5 := hide hs5
          have S5 := hide (S4.out.below hb5)
          have B5 := hide (bgo B4.out hb5)
          have Fr5 := hide (show (∀ ad : Addr, A5 = some ad → W.heap.size ≤ ad.block) from fun ad e => Nat.le_trans (by omega) (hf5 ad e))
          clear hs5 hb5 hf5 HC2
          go_wp2
          go_roundw
          case rel => exact ⟨j + 1, A4, n4, c4, A5, n5, c5, by omega, by go_num, rfl, rfl, S5.out, U5.out, Fr5.out, B5.out⟩
          case measure => simp [intOf]; omega
        · have hlt2' : ¬ (j : Int) < (d : Int) := by omega
          obtain rfl : j = d := by omega
          have G := hide (show GotLs W (repP x i j) (.returned (.slice Bj mj dj)) w3 from ⟨_, _, _, rfl, hu.nstr.symm, hu, hfr, hbel⟩)
          clear hs hu hfr hbel
          go_wp2
          go_ret
          exact G.out
theorem repeated50' {W : World} {A : Option Addr} {n c : Nat} (a : Int) :
    Calls Tryz.prog 84 #[.slice A n c, .int .i64 a, .int .i64 (-1)] W (GotLs W []) := by
  go_enter Tryz.func84, Tryz.ntmps84
  go_wp2
  go_ret
  exact GotLs.nil W (Below.refl _ _)
end Go.Proofs.YtlnbjdlooghpeaaGreatDoor
namespace Go.Proofs.YtlnbjdlooghpeaaGreatDoor
open Go.RowKit
structure Chg (fold : Bool) (N : Nat) : Prop where
  run : ∀ (xs : Array Value) (W : World), (callFunc N xs).run Tryz.prog W = .ok (.enter N xs) W
  says : ∀ (c : UInt8) (W : World), Calls Tryz.prog N #[.int .u8 (c.toNat : Int)] W fun e w' => e = .returned (.int .u8 ((fb fold c).toNat : Int)) ∧ W = w'
set_option maxRecDepth 100000 in
set_option maxHeartbeats 3200000 in
theorem bytesof47 {fold : Bool} {N : Nat} (C : Chg fold N) {W : World} {ok : Nat → Prop} {A : Option Addr} {n c : Nat} {set : List (UInt8 × UInt8)} (h : RgS W ok A n c set) :
    Calls Tryz.prog 81 #[.slice A n c, .func (.func N) #[] #[]] W (GotLs W (gd (bytesS set fold))) := by
  obtain ⟨i0, hi0, hz0, hz1, hz2⟩ := info_parts infoSt
  have hnc := h.1
  have hcc := h.2.1
  have H := hide h
  have HC := hide C.says
  have hcf := C.run
  clear h C
  go_enter Tryz.func81, Tryz.ntmps81
  go_wp2
  go_loopw [5, 8] (fun v x wr => ∃ (i : Nat) (vl : Value), i ≤ 256 ∧ x = .int .i64 (i : Int) ∧ vl = v ∧ OwnS wr W.heap.size vl (byteP set (fb fold) i) ∧ Below W.heap.size W wr) (fun _ x _ => 256 - (intOf x).toNat)
  case atStart => exact ⟨0, _, Nat.zero_le _, rfl, rfl, OwnS.nil _ _, Below.refl _ _⟩
  case round =>
    obtain ⟨i, vl, hi, rfl, rfl, ho, hbel⟩ := hrel
    obtain ⟨w3, hw3⟩ : ∃ w3, w3 = wr := ⟨wr, rfl⟩
    subst hw3
    have B3 := hide hbel
    have O3 := hide ho
    have H3 := hide (H.out.below hbel)
    have hib : (i : Int) ≤ 256 := by omega
    have hrl := byteP_len set (fb fold) i
    have hln : (byteP set (fb fold) i).length ≤ 1000 := by omega
    clear hrl
    by_cases hlt : i < 256
    · have hlt' : (i : Int) < 256 := by omega
      have hx : ((UInt8.ofNat i).toNat : Int) = (i : Int) := by simp; omega
      cases hq : hasS set (UInt8.ofNat i) with
      | false =>
        have hC := phas72 H3.out (UInt8.ofNat i) false hq
        rw [hx] at hC
        have HH := hide hC
        have Hn := hide (show byteP set (fb fold) (i + 1) = byteP set (fb fold) i by rw [byteP, hq]; simp)
        clear hC hx hq ho hbel
        go_wp2_with fail
        with_reducible refine HH.out.mono ?_
        rintro e w4 ⟨rfl, hb4⟩
        have O4 := hide (O3.out.below hb4)
        have B4 := hide (bgo B3.out hb4)
        clear hb4
        go_wp2
        go_roundw
        case rel => exact ⟨i + 1, vl, by omega, by go_num, rfl, by rw [Hn.out]; exact O4.out, B4.out⟩
        case measure => simp [intOf]; omega
      | true =>
        have hC := phas72 H3.out (UInt8.ofNat i) true hq
        have hS := fun X => HC.out (UInt8.ofNat i) X
        rw [hx] at hC hS
        have HH := hide hC
        have HS := hide hS
        obtain ⟨u, hu⟩ : ∃ u, fb fold (UInt8.ofNat i) = u := ⟨_, rfl⟩
        obtain ⟨z, hz⟩ : ∃ z : Int, (u.toNat : Int) = z := ⟨_, rfl⟩
        have Hn := hide (show byteP set (fb fold) (i + 1) = byteP set (fb fold) i ++ [[u]] by rw [byteP, hq, ← hu]; simp)
        rw [hu, hz] at HS
        have Hz := hide hz
        clear hC hS hx hq ho hbel hu hz
        go_wp2_with fail
        with_reducible refine HH.out.mono ?_
        rintro e w4 ⟨rfl, hb4⟩
        have O4 := hide (O3.out.below hb4)
        have B4 := hide (bgo B3.out hb4)
        clear hb4
        go_wp2_with fail
        with_reducible refine (HS.out _).mono ?_
        rintro e w5 ⟨rfl, rfl⟩
        have kc := conv1 z u Hz.out w4
        have hb6 := bel_alloc w4 (.cells #[.int .u8 z] 5)
        obtain ⟨w6, hw6⟩ : ∃ w6, w4.alloc (.cells #[.int .u8 z] 5) = w6 := ⟨_, rfl⟩
        rw [hw6] at kc hb6
        have O6 := hide (O4.out.below hb6)
        have B6 := hide (bgo B4.out hb6)
        have hBs := (bgo B4.out hb6).size
        have hcl : (strCells (byteP set (fb fold) i)).length ≤ 1000 := by rw [str_len]; exact hln
        clear hb6
        go_wp2_with (first
          | (at_builtin; refine wp_push (by rfl) (.tmp 16) (.tmp 22) 36 (by rfl) 9 i0 _ 16 Tryz.underlying36 hi0 hz0 hz1 hz2 rfl W.heap.size vl _ (by rfl) w6 (.string (bsx [u])) rfl (Or.inl O6.out) hBs _ rfl (by rfl) (by omega) (by unfold maxLen; omega) ?_; intro v7 w7 ho7 hb7)
          | fail)
        have O7 := hide (show OwnS w7 W.heap.size v7 (byteP set (fb fold) (i + 1)) by
          rw [Hn.out]
          unfold OwnS
          rw [← str_push]
          exact ho7)
        have B7 := hide (B6.out.trans hb7)
        clear ho7 hb7
        go_wp2
        go_roundw
        case rel => exact ⟨i + 1, v7, by omega, by go_num, rfl, O7.out, B7.out⟩
        case measure => simp [intOf]; omega
    · have hlt' : ¬ (i : Int) < 256 := by omega
      obtain rfl : i = 256 := by omega
      have HD := hide (different70 vl _ W.heap.size w3 ho (by omega))
      have HE := hide (bytes_is set fold)
      clear ho hbel
      go_wp2_with fail
      with_reducible refine HD.out.mono ?_
      rintro e w4 ⟨v4, rfl, ho4, hb4⟩
      rw [HE.out] at ho4
      have G := hide (GotLs.of_own (W := W) ho4 (Nat.le_refl _) (B3.out.trans hb4))
      clear ho4 hb4
      go_wp2
      go_ret
      exact G.out
theorem ibeq' {a b : Int} (h : a = b) : (a == b) = true := beq_iff_eq.2 h
theorem ibne' {a b : Int} (h : a ≠ b) : (a == b) = false := beq_eq_false_iff_ne.2 h
theorem five_low {w w' : World} {b B : Nat} {c0 c1 c2 c3 c4 : Value} (h : Five w b c0 c1 c2 c3 c4) (hb : Below B w w') (hlt : b < B) : Five w' b c0 c1 c2 c3 c4 := by
  obtain ⟨h0, h1, h2, h3, h4, h5⟩ := h
  have key : ∀ j, w'.cell? ⟨b, j, none⟩ = w.cell? ⟨b, j, none⟩ := fun j => hb.cell (p := ⟨b, j, none⟩) hlt
  exact ⟨Nat.lt_of_lt_of_le h0 hb.size, (key _).trans h1, (key _).trans h2, (key _).trans h3, (key _).trans h4, (key _).trans h5⟩
theorem node_parts {k a b : Int} {set : List (UInt8 × UInt8)} {l : List Rx} (h : nodeR (.mk k set a b l) = 0) : (k = 3 → 2 ≤ l.length) ∧ (k = 4 → l.length = 1 ∧ 0 ≤ a ∧ a ≤ 8 ∧ (b = -1 ∨ (1 ≤ b ∧ b ≤ 8 ∧ a ≤ b))) ∧ ∀ x ∈ l, nodeR x = 0 := by
  obtain ⟨h1, h2, h3⟩ := node_ok h
  unfold fieldsR at h1
  simp only [Bool.and_eq_true, decide_eq_true_eq] at h1
  obtain ⟨-, hf⟩ := h1
  refine ⟨fun h => ?_, fun h => ?_, h3⟩
  · rw [if_neg (by omega), if_pos h, decide_eq_true_eq] at hf
    exact hf
  · rw [if_pos h, decide_eq_true_eq] at hf
    have hb := h2 h
    unfold boundsR at hb
    rw [decide_eq_true_eq] at hb
    exact ⟨hf, hb⟩
theorem litLs_next {fold : Bool} {l : List Rx} {i : Nat} {x : Rx} (h : l[i]? = some x) : litLs fold (l.take (i + 1)) = litLs fold (l.take i) ++ [gd (litR fold x)] := by unfold litLs; rw [takeN h]; simp
theorem infoLs : (Tryz.prog.info? 36).map (fun i => (i.zero, i.size, i.bytes)) = some (some (.slice none 0 0), 1, 24) := by kernel_rfl
set_option maxRecDepth 100000 in
set_option maxHeartbeats 6400000 in
theorem literals27 {fold : Bool} {N : Nat} (C : Chg fold N) : ∀ (r : Rx), nodeR r = 0 → sizeR r ≤ 1000000 → ∀ (W : World) (ok : Nat → Prop) (v : Value), RxV W ok v r → Calls Tryz.prog 40 #[v, .func (.func N) #[] #[]] W (GotLs W (gd (litR fold r))) := by
  intro r
  induction r using Rx.ind with
  | h k s a b l ih =>
    intro hn hsz W ok v hv
    obtain ⟨i0, hi0, hz0, hz1, hz2⟩ := info_parts infoLs
    cases hv with
    | mk _ _ _ A B n c m d _ vs _ hset hvs hlen hk ha hb hr =>
    obtain ⟨p3, p4, pn⟩ := node_parts hn
    have hszl : sizeL l + 1 = sizeR (.mk k s a b l) := by rw [sizeR_mk]; omega
    have hm6 : m ≤ 1000000 := by have := sizeL_len l; omega
    have hmd := hvs.1
    have hdd := hvs.2.1
    have hb1 := bel_alloc W (.cells #[.int .i64 k, .slice A n c, .int .i64 a, .int .i64 b, .slice B m d] 25)
    have f1 := five_new W (.int .i64 k) (.slice A n c) (.int .i64 a) (.int .i64 b) (.slice B m d) 25
    obtain ⟨w1, hw1⟩ : ∃ w1, W.alloc (.cells #[.int .i64 k, .slice A n c, .int .i64 a, .int .i64 b, .slice B m d] 25) = w1 := ⟨_, rfl⟩
    rw [hw1] at hb1 f1
    have BB := hide hb1
    have F1 := hide f1
    have T1 := hide ((SubsS.of hvs hlen hr).below hb1)
    have R1 := hide (hset.below hb1)
    have Hlen := hide hlen
    have HN := hide pn
    have IH := hide (fun (x : Rx) (hx : x ∈ l) (W' : World) (v' : Value) (h' : RxV W' ok v' x) => ih x hx (pn x hx) (by have := sizeL_mem hx; omega) W' ok v' h')
    have HF := hide (fun (x : Rx) (hx : x ∈ l) => lit_full (fold := fold) x (pn x hx))
    obtain ⟨_, t0, t1, t2, t3, t4⟩ := f1
    have P3 := hide p3
    have P4 := hide p4
    clear hvs hr hset hlen hb1 pn p3 p4 ih
    go_enter Tryz.func40, Tryz.ntmps40
    go_wp2
    go_loopw [5, 11] (fun y x wr => ∃ (i : Nat) (vl : Value), i ≤ m ∧ x = .int .i64 (i : Int) ∧ vl = y ∧ RowsS wr (W.heap.size + 1) vl (litLs fold (l.take i)) ∧ Five wr W.heap.size (.int .i64 k) (.slice A n c) (.int .i64 a) (.int .i64 b) (.slice B m d) ∧ Below w1.heap.size w1 wr) (fun _ x _ => m - (intOf x).toNat)
    case atStart => exact ⟨0, _, Nat.zero_le _, rfl, rfl, RowsS.nil _ _, F1.out, Below.refl _ _⟩
    case round =>
      obtain ⟨i, vl, hi, rfl, rfl, hrow, hfive, hbel⟩ := hrel
      obtain ⟨w2, hw2⟩ : ∃ w2, w2 = wr := ⟨wr, rfl⟩
      subst hw2
      have hs1 : w1.heap.size = W.heap.size + 1 := by rw [← hw1]; simp
      have hbs := hbel.size
      have X2 := hide hrow
      have F2 := hide hfive
      have B2 := hide hbel
      have BW := hide (BB.out.trans (hbel.mono (by omega)))
      by_cases hlt : i < m
      · have hlt' : (i : Int) < (m : Int) := by omega
        obtain ⟨x, g, o, q0, qA, qn, qc, q1, q2, qB, qm, qd, hxl, rfl, x0, x1, x2, x3, x4, rx⟩ := (T1.out.below hbel).at_ hlt
        have hmem : x ∈ l := List.mem_of_getElem? hxl
        have hb3 := bel_alloc w2 (.cells #[.int .i64 q0, .slice qA qn qc, .int .i64 q1, .int .i64 q2, .slice qB qm qd] 25)
        have hf3 := five_new w2 (.int .i64 q0) (.slice qA qn qc) (.int .i64 q1) (.int .i64 q2) (.slice qB qm qd) 25
        have hs3 : (w2.alloc (.cells #[.int .i64 q0, .slice qA qn qc, .int .i64 q1, .int .i64 q2, .slice qB qm qd] 25)).heap.size = w2.heap.size + 1 := by simp
        obtain ⟨w3, hw3⟩ : ∃ w3, w2.alloc (.cells #[.int .i64 q0, .slice qA qn qc, .int .i64 q1, .int .i64 q2, .slice qB qm qd] 25) = w3 := ⟨_, rfl⟩
        rw [hw3] at hb3 hf3 hs3
        have HC := hide (IH.out x hmem _ _ (rx.kept hb3))
        have Hnx := hide (litLs_next (fold := fold) hxl)
        have hcnt := hrow
        obtain ⟨hs, ho2, hl2, hm2⟩ := hrow
        have hcnt2 : hs.length = i := by
          rw [hl2]
          unfold litLs
          rw [List.length_map, List.length_take, Hlen.out]
          omega
        have hlen2 : (hs.map slv).length ≤ 1000000 := by rw [List.length_map]; omega
        have O3 := hide (ho2.below hb3)
        have M3 := hide (fun (q : Nat) (p : Option Addr × Nat × Nat) (y : LS) (hp : hs[q]? = some p) (hy : (litLs fold (l.take i))[q]? = some y) => (⟨(hm2 q p y hp hy).1, (hm2 q p y hp hy).2.below hb3⟩ : p.2.1 = y.length ∧ Lies w3 vl p.1 p.2.1 p.2.2 (strCells y)))
        have F3 := hide (hfive.keep hb3)
        have B3 := hide (hbel.trans (hb3.mono (by omega)))
        have Hs3 := hide hs3
        have Hl2 := hide hl2
        obtain ⟨_, y0, y1, y2, y3, y4⟩ := hf3
        clear ho2 hm2 hfive hbel hxl hmem rx hb3 hs3 hl2 hcnt hcnt2
        obtain ⟨_, y0, y1, y2, y3, y4⟩ := (show Five w3 w2.heap.size (.int .i64 q0) (.slice qA qn qc) (.int .i64 q1) (.int .i64 q2) (.slice qB qm qd) from ⟨by assumption, y0, y1, y2, y3, y4⟩)
        go_wp2_with fail
        with_reducible refine HC.out.mono ?_
        rintro e w4 ⟨A4, n4, c4, rfl, hn4, hs4, hf4, hb4⟩
        have hz4 := hb4.size
        rw [Hs3.out] at hz4
        have F4 := hide (F3.out.keep hb4)
        have B4 := hide (B3.out.trans (hb4.mono (by rw [Hs3.out]; omega)))
        have HL := hide (Lies.new O3.out hs4 hf4)
        have O4 := hide (O3.out.below hb4)
        have M4 := hide (fun (q : Nat) (p : Option Addr × Nat × Nat) (y : LS) (hp : hs[q]? = some p) (hy : (litLs fold (l.take i))[q]? = some y) => (⟨(M3.out q p y hp hy).1, (M3.out q p y hp hy).2.below hb4⟩ : p.2.1 = y.length ∧ Lies w4 vl p.1 p.2.1 p.2.2 (strCells y)))
        have Hn4 := hide hn4
        have hBs4 : W.heap.size + 1 ≤ w4.heap.size := by omega
        clear hn4 hs4 hf4 hb4
        go_wp2_with (first
          | (at_builtin; refine wp_push_far (by rfl) (.tmp 15) (.tmp 19) 110 (by rfl) 36 i0 _ 24 Tryz.underlying110 hi0 hz0 hz1 hz2 rfl (W.heap.size + 1) vl _ (by rfl) w4 (.slice A4 n4 c4) rfl O4.out hBs4 _ rfl (by rfl) (by omega) (by unfold maxLen; omega) 36 ?_; intro v6 w6 ho6 hb6 hF6)
          | fail)
        have X6 := hide (show RowsS w6 (W.heap.size + 1) v6 (litLs fold (l.take (i + 1))) by
          rw [Hnx.out]
          exact RowsS.push ⟨hs, ho6, Hl2.out, M4.out⟩ hF6 Hn4.out HL.out)
        have F6 := hide (five_low F4.out hb6 (by omega))
        have B6 := hide (B4.out.trans (hb6.mono (by omega)))
        clear ho6 hb6 hF6
        go_wp2
        go_roundw
        case rel => exact ⟨i + 1, v6, by omega, by go_num, rfl, X6.out, F6.out, B6.out⟩
        case measure => simp [intOf]; omega
      · have hlt' : ¬ (i : Int) < (m : Int) := by omega
        have hil : l.take i = l := List.take_of_length_le (by rw [Hlen.out]; omega)
        rw [hil] at hrow
        obtain ⟨LA, Lm, Lc, rfl, hLm, hsl⟩ := hrow.sl
        have hLm' : Lm = m := by rw [hLm]; unfold litLs; rw [List.length_map]; exact Hlen.out
        subst hLm'
        have SL := hide hsl
        have R2 := hide (R1.out.below hbel)
        obtain ⟨_, t0, t1, t2, t3, t4⟩ := hfive
        clear hrow hbel hil hLm hlt
        by_cases k1 : k = 1
        · have q1 : (k == 1) = true := ibeq' k1
          have HC := hide (bytesof47 C R2.out)
          have HE := hide (show gd (litR fold (.mk k s a b l)) = gd (bytesS s fold) by unfold litR; rw [if_pos k1])
          clear k1 hsl
          go_wp2_with fail
          with_reducible refine HC.out.mono ?_
          rintro e w3 ⟨A3, n3, c3, rfl, hn3, hs3, hf3, hb3⟩
          have G := hide (show GotLs W (gd (litR fold (.mk k s a b l))) (.returned (.slice A3 n3 c3)) w3 from by rw [HE.out]; exact ⟨_, _, _, rfl, hn3, hs3, fun ad e => Nat.le_trans BW.out.size (hf3 ad e), bgo BW.out hb3⟩)
          clear hn3 hs3 hf3 hb3
          go_wp2
          go_ret
          exact G.out
        have q1 : (k == 1) = false := ibne' k1
        by_cases k2 : k = 2
        · have q2 : (k == 2) = true := ibeq' k2
          have HC := hide (inorder48 hsl)
          have HE := hide (show gd (litR fold (.mk k s a b l)) = gd (litCat fold [[]] l) by unfold litR; rw [if_neg k1, if_pos k2])
          clear k1 k2 hsl
          go_wp2_with fail
          with_reducible refine HC.out.mono ?_
          rintro e w3 ⟨A3, n3, c3, rfl, hn3, hs3, hf3, hb3⟩
          have G := hide (show GotLs W (gd (litR fold (.mk k s a b l))) (.returned (.slice A3 n3 c3)) w3 from by rw [HE.out]; exact ⟨_, _, _, rfl, hn3, hs3, fun ad e => Nat.le_trans BW.out.size (hf3 ad e), bgo BW.out hb3⟩)
          clear hn3 hs3 hf3 hb3
          go_wp2
          go_ret
          exact G.out
        have q2 : (k == 2) = false := ibne' k2
        by_cases k3 : k = 3
        · have q3 : (k == 3) = true := ibeq' k3
          have HC := hide (oneof49 hsl hm6 (by have := P3.out k3; have := Hlen.out; omega) HF.out)
          have HE := hide (show gd (litR fold (.mk k s a b l)) = gd (litAlt fold [] l) by unfold litR; rw [if_neg k1, if_neg k2, if_pos k3])
          clear k1 k2 k3 hsl
          go_wp2_with fail
          with_reducible refine HC.out.mono ?_
          rintro e w3 ⟨A3, n3, c3, rfl, hn3, hs3, hf3, hb3⟩
          have G := hide (show GotLs W (gd (litR fold (.mk k s a b l))) (.returned (.slice A3 n3 c3)) w3 from by rw [HE.out]; exact ⟨_, _, _, rfl, hn3, hs3, fun ad e => Nat.le_trans BW.out.size (hf3 ad e), bgo BW.out hb3⟩)
          clear hn3 hs3 hf3 hb3
          go_wp2
          go_ret
          exact G.out
        have q3 : (k == 3) = false := ibne' k3
        by_cases k4 : k = 4
        · have q4 : (k == 4) = true := ibeq' k4
          obtain ⟨pl, pa0, pa8, pb⟩ := P4.out k4
          have hm1 : Lm = 1 := by rw [← Hlen.out]; exact pl
          obtain ⟨y, g, o, A', n', c', hy, rfl, hc, hn, hs'⟩ := hsl.at_ (k := 0) (by omega)
          obtain ⟨x, hx, rfl⟩ := litLs_at hy
          have hmem : x ∈ l := List.mem_of_getElem? hx
          simp only [Nat.add_zero] at hc
          have hpos : (0 : Int) < (Lm : Int) := by omega
          have hposn : 0 < Lm := by omega
          have HC := hide (show ∀ X : World, Below w2.heap.size w2 X → Calls Tryz.prog 84 #[.slice A' n' c', .int .i64 a, .int .i64 b] X (GotLs X (gd (litR fold (.mk k s a b l)))) from fun X hX => by
            have hlo : litOne fold l = litR fold x := by
              cases l with
              | nil => cases hx
              | cons z t => simp at hx; subst hx; unfold litOne; rfl
            unfold litR
            rw [if_neg k1, if_neg k2, if_neg k3, hlo]
            rcases pb with rfl | ⟨pb1, pb8, pab⟩
            · rw [if_neg (by omega)]
              exact repeated50' a
            · rw [if_pos ⟨k4, by omega⟩]
              obtain ⟨na, hna⟩ : ∃ na : Nat, a = (na : Int) := ⟨a.toNat, by omega⟩
              obtain ⟨nb, hnb⟩ : ∃ nb : Nat, b = (nb : Int) := ⟨b.toNat, by omega⟩
              subst hna hnb
              have := repeated50 (hs'.below hX) (one_lit fold x) na nb (by omega) (by omega)
              rw [rep_is (HF.out x hmem) (by omega) (by omega)] at this
              rw [show ((nb : Int)).toNat = nb by omega]
              exact this)
          have hcd : w2.cell? ⟨g, o, none⟩ = some (.slice A' n' c') := hc
          obtain ⟨x9, hx9⟩ : ∃ x9, x9 = w2 := ⟨_, rfl⟩
          subst hx9
          have HK := hide (show ∀ X : World, Below x9.heap.size x9 X → (X.cell? ⟨g, o, none⟩ = some (.slice A' n' c') ∧ X.cell? ⟨W.heap.size, 2, none⟩ = some (.int .i64 a) ∧ X.cell? ⟨W.heap.size, 3, none⟩ = some (.int .i64 b)) ∧ Below x9.heap.size x9 X from fun X hb => ⟨⟨(hb.cell (World.block_lt_of_cell? _ _ hcd)).trans hcd, (hb.cell (World.block_lt_of_cell? _ _ t2)).trans t2, (hb.cell (World.block_lt_of_cell? _ _ t3)).trans t3⟩, hb⟩)
          have HS0 := hide (bel_drew x9)
          have HKs := hide (show ∀ X Y : World, (X.cell? ⟨g, o, none⟩ = some (.slice A' n' c') ∧ X.cell? ⟨W.heap.size, 2, none⟩ = some (.int .i64 a) ∧ X.cell? ⟨W.heap.size, 3, none⟩ = some (.int .i64 b)) ∧ Below x9.heap.size x9 X → Below X.heap.size X Y → (Y.cell? ⟨g, o, none⟩ = some (.slice A' n' c') ∧ Y.cell? ⟨W.heap.size, 2, none⟩ = some (.int .i64 a) ∧ Y.cell? ⟨W.heap.size, 3, none⟩ = some (.int .i64 b)) ∧ Below x9.heap.size x9 Y from fun X Y h hb => HK.out Y (bgo h.2 hb))
          have HKb := hide (show ∀ X : World, (X.cell? ⟨g, o, none⟩ = some (.slice A' n' c') ∧ X.cell? ⟨W.heap.size, 2, none⟩ = some (.int .i64 a) ∧ X.cell? ⟨W.heap.size, 3, none⟩ = some (.int .i64 b)) ∧ Below x9.heap.size x9 X → Below x9.heap.size x9 X from fun X h => h.2)
          clear k1 k2 k3 k4 hsl hy hx hmem hn hs' pl pa0 pa8 pb hm1 hc
          go_upto_region 15 with (fail)
          clear t0 t1 t2 t3 t4 hcd
          go_region_held3 (fun w' => (w'.cell? ⟨g, o, none⟩ = some (.slice A' n' c') ∧ w'.cell? ⟨W.heap.size, 2, none⟩ = some (.int .i64 a) ∧ w'.cell? ⟨W.heap.size, 3, none⟩ = some (.int .i64 b)) ∧ Below x9.heap.size x9 w')
            (first | exact HK.out _ HS0.out | exact HKs.out _ _ (by assumption) hb3)
            (first | (go_at_call 84; (with_reducible refine (HC.out _ (HKb.out _ ?_)).mono ?_); assumption; rintro e w3 ⟨A3, n3, c3, rfl, hn3, hs3, hf3, hb3⟩; have G := hide (show GotLs W (gd (litR fold (.mk k s a b l))) (.returned (.slice A3 n3 c3)) w3 from ⟨_, _, _, rfl, hn3, hs3, fun ad e => Nat.le_trans (bgo BW.out (HKb.out _ (by assumption))).size (hf3 ad e), bgo (bgo BW.out (HKb.out _ (by assumption))) hb3⟩); clear hn3 hs3 hf3))
          go_wp2
          go_ret
          exact G.out
        have q4 : (k == 4) = false := ibne' k4
        have HE := hide (show gd (litR fold (.mk k s a b l)) = [] by unfold litR; rw [if_neg k1, if_neg k2, if_neg k3, if_neg (fun h => k4 h.1)]; rfl)
        clear k1 k2 k3 k4 hsl
        go_wp2
        go_ret
        rw [HE.out]
        exact GotLs.nil W BW.out
theorem chg28 : Chg false 41 := by
  refine ⟨fun xs W => by kernel_rfl, fun c W => ?_⟩
  rw [show fb false c = c by simp [fb]]
  go_enter Tryz.func41, Tryz.ntmps41
  go_wp2
  go_ret
  exact ⟨rfl, rfl⟩
set_option maxRecDepth 100000 in
set_option maxHeartbeats 3200000 in
theorem pliterals10 {W : World} {ok : Nat → Prop} {v : Value} {r : Rx} (hv : RxV W ok v r) (h1 : sizeR r ≤ 1000000) (h2 : depthR r ≤ 1000000) : Calls Tryz.prog 12 #[v] W (GotL W (literalsS r)) := by
  obtain ⟨k, a, b, A', B, n, c, m, d, rfl⟩ := rxv_shape hv
  have hb1 := bel_alloc W (.cells #[.int .i64 k, .slice A' n c, .int .i64 a, .int .i64 b, .slice B m d] 25)
  have f1 := five_new W (.int .i64 k) (.slice A' n c) (.int .i64 a) (.int .i64 b) (.slice B m d) 25
  obtain ⟨w1, hw1⟩ : ∃ w1, W.alloc (.cells #[.int .i64 k, .slice A' n c, .int .i64 a, .int .i64 b, .slice B m d] 25) = w1 := ⟨_, rfl⟩
  rw [hw1] at hb1 f1
  have V1 := hide (hv.kept hb1)
  have BB := hide hb1
  have F1 := hide f1
  have HR := hide (pright27 V1.out h1 h2)
  obtain ⟨_, t0, t1, t2, t3, t4⟩ := f1
  clear hv hb1
  by_cases hr : rightR r = 0
  · rw [hr] at HR
    have Hn := hide (right_node hr).1
    have HE := hide (show literalsS r = litR false r by unfold literalsS; rw [if_pos hr])
    clear hr
    go_enter Tryz.func12, Tryz.ntmps12
    go_wp2_with fail
    with_reducible refine HR.out.mono ?_
    rintro e w2 ⟨rfl, hb2⟩
    have HC := hide (literals27 chg28 r Hn.out h1 _ _ _ (V1.out.kept hb2))
    have B2 := hide (bgo BB.out hb2)
    obtain ⟨_, u0, u1, u2, u3, u4⟩ := F1.out.keep hb2
    clear hb2 HR
    go_wp2_with fail
    with_reducible refine HC.out.mono ?_
    rintro e w3 ⟨A3, n3, c3, rfl, hn3, hs3, -, hb3⟩
    have Hs := hide (lit_some (fold := false) Hn.out)
    have S3 := hide hs3
    have B3 := hide (bgo B2.out hb3)
    have Hn3 := hide hn3
    have G := hide (show GotL W (literalsS r) (.returned (.tuple #[.slice A3 n3 c3, .bool (decide (0 < n3))])) w3 from ⟨A3, n3, c3, by rw [HE.out, Hs.out, ← Hn3.out], by rw [HE.out]; exact Hn3.out, by rw [HE.out]; exact S3.out, B3.out⟩)
    clear hn3 hs3 hb3
    go_wp2
    go_ret2
    exact G.out
  · have q : (rightR r != 0) = true := by simp [hr]
    have HE := hide (show literalsS r = none by unfold literalsS; rw [if_neg hr])
    clear hr
    go_enter Tryz.func12, Tryz.ntmps12
    go_wp2_with fail
    with_reducible refine HR.out.mono ?_
    rintro e w2 ⟨rfl, hb2⟩
    have B2 := hide (bgo BB.out hb2)
    have G := hide (show GotL W (literalsS r) (.returned (.tuple #[.slice none 0 0, .bool false])) w2 from ⟨none, 0, 0, by rw [HE.out]; rfl, by rw [HE.out]; rfl, by rw [HE.out]; exact Sl.nil w2, B2.out⟩)
    clear hb2
    go_wp2
    go_ret2
    exact G.out
end Go.Proofs.YtlnbjdlooghpeaaGreatDoor
namespace Go.Proofs.YtlnbjdlooghpeaaGreatDoor
open Go.RowKit
def foldS (s : ByteArray) : ByteArray := ⟨(s.data.toList.map fld).toArray⟩
def foldI (c : Int) : Int := if 65 ≤ c ∧ c ≤ 90 then c + 32 else c
theorem fld_int (c : UInt8) : ((fld c).toNat : Int) = foldI (c.toNat : Int) := by
  by_cases h : 65 ≤ c.toNat ∧ c.toNat ≤ 90
  · rw [fld_up c h]
    unfold foldI
    rw [if_pos (by omega)]
  · rw [fld_low c h]
    unfold foldI
    rw [if_neg (by omega)]
theorem foldS_size (s : ByteArray) : (foldS s).size = s.size := by
  show (s.data.toList.map fld).toArray.size = _
  simp
theorem foldS_get (s : ByteArray) (k : Nat) (h : k < (foldS s).size) : ((foldS s)[k]).toNat = fat s.data.toList k := by
  have hk : k < s.size := by rw [← foldS_size]; exact h
  have e : (foldS s)[k] = fld s[k] := by
    show (s.data.toList.map fld).toArray[k]'(by simpa using hk) = _
    simp
    rfl
  rw [e, fat_at s k hk]
def FoldInv (w : World) (s : ByteArray) (k : Nat) (wr : World) : Prop :=
  w.heap.size < wr.heap.size ∧ (∀ j (hj : j < s.size), wr.cell? ⟨w.heap.size, j, none⟩ = some (.int .u8 (if j < k then foldI (s[j].toNat : Int) else (s[j].toNat : Int)))) ∧
  (∀ j, j < s.size → wr.frozen? ⟨w.heap.size, j, none⟩ = false) ∧ Below w.heap.size w wr
theorem FoldInv.keep {w wr : World} {s : ByteArray} {k : Nat} (h : FoldInv w s k wr) (hk : k < s.size) (hf : foldI (s[k].toNat : Int) = (s[k].toNat : Int)) : FoldInv w s (k + 1) wr := by
  obtain ⟨h1, h2, h3, h4⟩ := h
  refine ⟨h1, fun j hj => ?_, h3, h4⟩
  rw [h2 j hj]
  by_cases hjk : j = k
  · subst hjk; simp [hf]
  · by_cases hjl : j < k
    · rw [if_pos hjl, if_pos (by omega)]
    · rw [if_neg hjl, if_neg (by omega)]
theorem FoldInv.put {w wr : World} {s : ByteArray} {k : Nat} (h : FoldInv w s k wr) (hk : k < s.size) {c : Int} (hf : foldI (s[k].toNat : Int) = c) : FoldInv w s (k + 1) (wr.setCell ⟨w.heap.size, k, none⟩ (.int .u8 c)) := by
  obtain ⟨h1, h2, h3, h4⟩ := h
  refine ⟨by simpa [World.setCell] using h1, fun j hj => ?_, fun j hj => ?_, h4.setCell (Nat.le_refl _) _⟩
  · by_cases hjk : j = k
    · subst hjk
      rw [World.cell?_setCell_same _ _ _ (h2 j hj), if_pos (by omega), hf]
    · rw [World.cell?_setCell_other _ _ _ _ (fun e => hjk (congrArg Addr.off e).symm), h2 j hj]
      by_cases hjl : j < k
      · rw [if_pos hjl, if_pos (by omega)]
      · rw [if_neg hjl, if_neg (by omega)]
  · rw [World.frozen?_setCell]; exact h3 j hj
theorem FoldInv.back {w wr : World} {s : ByteArray} {k : Nat} (h : FoldInv w s k wr) (hk : k = s.size) (cap : Nat) :
    (convert 129 9 (.slice (some ⟨w.heap.size, 0, none⟩) s.size cap)).run Tryz.prog wr = .ok (.string (foldS s)) wr := by
  have := run_convert_bytes_back (P := Tryz.prog) wr 129 9 5 ⟨w.heap.size, 0, none⟩ cap (s.data.toList.map fld) Tryz.underlying129 Tryz.underlying5 Tryz.underlying9 (fun j hj => by
    simp at hj
    have := h.2.1 j hj
    rw [if_pos (by omega)] at this
    rw [addr0, this, List.getElem_map, fld_int]; rfl)
  rw [List.length_map] at this
  exact this
set_option maxRecDepth 100000 in
set_option maxHeartbeats 1600000 in
theorem fold26 (s : ByteArray) (w : World) (hs : s.size ≤ 100000) : Calls Tryz.prog 79 #[.string s] w fun e w' => e = .returned (.string (foldS s)) ∧ Below w.heap.size w w' := by
  have hconv := run_bytes_of_string w 9 129 5 s Tryz.underlying9 Tryz.underlying129 Tryz.underlying5
  have hC : ∀ j (hj : j < s.size), (bytesRow s (grownCap w s.size 0 5))[j]? = some (.int .u8 (s[j].toNat : Int)) := by
    intro j hj
    unfold bytesRow
    rw [Array.getElem?_append_left (by simpa using hj), Array.getElem?_map, Array.getElem?_eq_getElem (by simpa using hj)]
    rfl
  have hsz : s.size ≤ (bytesRow s (grownCap w s.size 0 5)).size := by
    unfold bytesRow
    simp
  generalize bytesRow s (grownCap w s.size 0 5) = C at hconv hC hsz
  generalize grownCap w s.size 0 5 = cap at hconv
  have HC := hide hC
  clear hC
  go_enter Tryz.func79, Tryz.ntmps79
  go_wp2
  go_loopw [10] (fun i wr => ∃ k : Nat, k ≤ s.size ∧ i = .int .i64 k ∧ FoldInv w s k wr) (fun i _ => s.size - (intOf i).toNat)
  case atStart =>
    refine ⟨0, Nat.zero_le _, rfl, ?_, fun j hj => ?_, fun j hj => ?_, ?_⟩
    · show w.heap.size < (w.alloc _).heap.size
      simp
    · show (w.alloc _).cell? _ = _
      rw [World.cell?_alloc_mark, HC.out j hj]; simp
    · show (w.alloc _).frozen? _ = _
      rw [World.frozen?_alloc_mark]; simp; omega
    · exact ((Below.refl _ _).alloc (Nat.le_refl _) _).drew
  case round =>
    obtain ⟨k, hk, rfl, hinv⟩ := hrel
    by_cases hlt : k < s.size
    · have hbb : s[k].toNat < 256 := UInt8.toNat_lt _
      have hc := hinv.2.1 k hlt
      rw [if_neg (by omega)] at hc
      have hf := hinv.2.2.1 k hlt
      by_cases hu : 65 ≤ s[k].toNat ∧ s[k].toNat ≤ 90
      · obtain ⟨h2, h3⟩ := hu
        go_wp2
        go_roundw
        case rel => exact ⟨k + 1, by omega, by go_num, hinv.put hlt (by rw [foldI, if_pos (by omega)])⟩
        case measure => simp [intOf]; omega
      · have hq := hinv.keep hlt (by rw [foldI, if_neg (by omega)])
        have Hq := hide hq
        clear hq
        rcases (show s[k].toNat < 65 ∨ (65 ≤ s[k].toNat ∧ 90 < s[k].toNat) from by omega) with h | ⟨h, h'⟩
        all_goals
          go_wp2
          go_roundw
          case rel => exact ⟨k + 1, by omega, by go_num, Hq.out⟩
          case measure => simp [intOf]; omega
    · have hback := hinv.back (by omega) cap
      go_wp2
      go_ret
      exact ⟨rfl, hinv.2.2.2⟩
theorem codeatR (t : ByteArray) (k : Nat) (m : Int) (w : World) (hk : k + 2 < t.size) (hs : t.size ≤ 100000) (hm : (t[k].toNat : Int) * 65536 + (t[k + 1].toNat : Int) * 256 + (t[k + 2].toNat : Int) = m) :
    Calls Tryz.prog 80 #[.string t, .int .i64 (k : Int)] w fun e w' => e = .returned (.int .i64 m) ∧ Drawn w w' := by
  have k0 : k < t.size := by omega
  have k1 : k + 1 < t.size := by omega
  have k3 : (0 : Int) ≤ (k : Int) + 1 := by omega
  have k4 : (k : Int) + 1 < (t.size : Int) := by omega
  have k5 : (0 : Int) ≤ (k : Int) + 2 := by omega
  have k6 : (k : Int) + 2 < (t.size : Int) := by omega
  have l0 := byte_lt t[k]
  have l1 := byte_lt t[k + 1]
  have l2 := byte_lt t[k + 2]
  have Hm := hide hm
  clear hm
  go_enter Tryz.func80, Tryz.ntmps80
  go_wp2
  go_quiet (fail)
  go_wp2
  go_ret
  exact ⟨ret_int (by rw [← Hm.out]; omega), _, rfl⟩
theorem codeat25 (s : ByteArray) (k : Nat) (m : Int) (w : World) (hk : k + 2 < s.size) (hs : s.size ≤ 100000) (hm : tri s.data.toList k = m) :
    Calls Tryz.prog 80 #[.string (foldS s), .int .i64 (k : Int)] w fun e w' => e = .returned (.int .i64 m) ∧ Drawn w w' := by
  have hsz := foldS_size s
  refine codeatR (foldS s) k m w (by omega) (by omega) ?_
  rw [foldS_get s k (by omega), foldS_get s (k + 1) (by omega), foldS_get s (k + 2) (by omega)]
  exact hm
set_option maxRecDepth 100000 in
set_option maxHeartbeats 800000 in
theorem code10 (s : ByteArray) (w : World) (_hs : s.size ≤ 9223372036854775807) :
    Calls Tryz.prog 130 #[.string s] w fun e w' => e = .returned (.tuple #[.int .i64 (codeS s.data.toList), .bool (decide (s.size = 3))]) ∧ Below w.heap.size w w' := by
  by_cases h : s.size = 3
  · have hb : ((s.size : Int) != 3) = false := by rw [h]; rfl
    have Hc := hide (show codeS s.data.toList = tri s.data.toList 0 by unfold codeS; rw [if_pos (by rw [size_list]; exact h)])
    have Hd := hide (decide_eq_true h)
    have h3 : 2 < s.size := by omega
    have h4 : s.size ≤ 100000 := by omega
    clear h
    go_enter Tryz.func130, Tryz.ntmps130
    go_wp2_with fail
    refine (fold26 s _ h4).mono ?_
    rintro e w' ⟨rfl, hb1⟩
    have B1 := hide hb1
    clear hb1
    go_wp2_with fail
    refine (codeat25 s 0 (tri s.data.toList 0) _ (by omega) h4 rfl).mono ?_
    rintro e w2 ⟨rfl, hd⟩
    have B2 := hide (B1.out.trans (hd.below _))
    clear hd
    go_wp2
    go_ret2
    exact ⟨by rw [Hc.out, Hd.out]; rfl, B2.out⟩
  · have hb : ((s.size : Int) != 3) = true := by rw [bne_iff_ne]; omega
    have Hc := hide (show codeS s.data.toList = 0 by unfold codeS; rw [if_neg (by rw [size_list]; exact h)])
    have Hd := hide (decide_eq_false h)
    clear h
    go_enter Tryz.func130, Tryz.ntmps130
    go_wp2
    go_ret2
    exact ⟨by rw [Hc.out, Hd.out]; rfl, Below.refl _ _⟩
end Go.Proofs.YtlnbjdlooghpeaaGreatDoor
namespace Go.Proofs.YtlnbjdlooghpeaaGreatDoor
open Go.RowKit
theorem chg80 : Chg true 108 := by
  refine ⟨fun xs W => by kernel_rfl, fun c W => ?_⟩
  have hc : c.toNat < 256 := UInt8.toNat_lt _
  by_cases h : 65 ≤ c.toNat ∧ c.toNat ≤ 90
  · have Hz := hide (show ((fb true c).toNat : Int) = (c.toNat : Int) - 65 + 97 by rw [show fb true c = fld c by simp [fb], fld_int]; unfold foldI; rw [if_pos (by omega)]; omega)
    have h1 : (65 : Int) ≤ (c.toNat : Int) := by omega
    have h2 : (c.toNat : Int) ≤ 90 := by omega
    clear h
    go_enter Tryz.func108, Tryz.ntmps108
    go_wp2
    go_ret
    refine ⟨?_, rfl⟩
    rw [Hz.out]
    first | rfl | (congr 2; omega) | (congr 2; simp; omega)
  · have Hz := hide (show ((fb true c).toNat : Int) = (c.toNat : Int) by rw [show fb true c = fld c by simp [fb], fld_int]; unfold foldI; rw [if_neg (by omega)])
    by_cases h1 : 65 ≤ c.toNat
    · have h1' : (65 : Int) ≤ (c.toNat : Int) := by omega
      have h2 : ¬ (c.toNat : Int) ≤ 90 := by omega
      clear h
      go_enter Tryz.func108, Tryz.ntmps108
      go_wp2
      go_ret
      exact ⟨by rw [Hz.out]; rfl, rfl⟩
    · have h1' : ¬ (65 : Int) ≤ (c.toNat : Int) := by omega
      clear h
      go_enter Tryz.func108, Tryz.ntmps108
      go_wp2
      go_ret
      exact ⟨by rw [Hz.out]; rfl, rfl⟩
set_option maxRecDepth 100000 in
theorem folded62 {W : World} {ok : Nat → Prop} {v : Value} {r : Rx} (hn : nodeR r = 0) (hz : sizeR r ≤ 1000000) (hv : RxV W ok v r) : Calls Tryz.prog 74 #[v] W (GotLs W (gd (litR true r))) := by
  obtain ⟨k, a, b, A', B, n, c, m, d, rfl⟩ := rxv_shape hv
  have hb1 := bel_alloc W (.cells #[.int .i64 k, .slice A' n c, .int .i64 a, .int .i64 b, .slice B m d] 25)
  have f1 := five_new W (.int .i64 k) (.slice A' n c) (.int .i64 a) (.int .i64 b) (.slice B m d) 25
  have HC := hide (literals27 chg80 r hn hz _ _ _ (hv.kept hb1))
  have BB := hide hb1
  obtain ⟨_, t0, t1, t2, t3, t4⟩ := f1
  clear hv hb1
  go_enter Tryz.func74, Tryz.ntmps74
  go_wp2_with fail
  with_reducible refine HC.out.mono ?_
  rintro e w2 ⟨A2, n2, c2, rfl, hn2, hs2, hf2, hb2⟩
  have G := hide (show GotLs W (gd (litR true r)) (.returned (.slice A2 n2 c2)) w2 from ⟨_, _, _, rfl, hn2, hs2, fun ad e => Nat.le_trans BB.out.size (hf2 ad e), bgo BB.out hb2⟩)
  clear hn2 hs2 hf2 hb2
  go_wp2
  go_ret
  exact G.out
set_option maxRecDepth 100000 in
set_option maxHeartbeats 6400000 in
theorem ofstring81 (s : List UInt8) (hs : s.length ≤ 1000) (W : World) : Calls Tryz.prog 109 #[.string (bsx s)] W (GotN W (andN s)) := by
  obtain ⟨i0, hi0, hz0, hz1, hz2⟩ := info_parts infoN
  have hsz : (bsx s).size = s.length := bsx_size s
  obtain ⟨h0, hh0⟩ : ∃ h0, W.heap.size = h0 := ⟨_, rfl⟩
  have hf1 := triF_new (W.alloc (.cells #[.int .i64 0, .int .i64 0, .slice none 0 0] 32)) (.int .i64 4) (.int .i64 0) (.slice none 0 0) 32
  have hf0 := (triF_new W (.int .i64 0) (.int .i64 0) (.slice none 0 0) 32).keep (bel_alloc _ (.cells #[.int .i64 4, .int .i64 0, .slice none 0 0] 32))
  have hbb := bnew (bel_alloc W (.cells #[.int .i64 0, .int .i64 0, .slice none 0 0] 32)) (.cells #[.int .i64 4, .int .i64 0, .slice none 0 0] 32)
  have hsz1 : (W.alloc (.cells #[.int .i64 0, .int .i64 0, .slice none 0 0] 32)).heap.size = h0 + 1 := by simp [hh0]
  have hsz2 : ((W.alloc (.cells #[.int .i64 0, .int .i64 0, .slice none 0 0] 32)).alloc (.cells #[.int .i64 4, .int .i64 0, .slice none 0 0] 32)).heap.size = h0 + 2 := by simp [hh0]
  rw [hsz1] at hf1
  rw [hh0] at hf0
  have Hh0 := hide hh0
  clear hh0
  go_enter Tryz.func109, Tryz.ntmps109
  go_wp2
  obtain ⟨w1, hw1⟩ : ∃ w1, (W.alloc (.cells #[.int .i64 0, .int .i64 0, .slice none 0 0] 32)).alloc (.cells #[.int .i64 4, .int .i64 0, .slice none 0 0] 32) = w1 := ⟨_, rfl⟩
  rw [hw1] at hf1 hf0 hbb hsz2 ⊢
  rw [Hh0.out]
  have F0 := hide hf0
  have F1 := hide hf1
  have BB := hide hbb
  have Hz2 := hide hsz2
  clear hw1 hf0 hf1 hbb hsz1 hsz2
  go_loopw [4] (fun x wr => ∃ k : Nat, k ≤ (tris s).length ∧ x = .int .i64 ((k : Int) + 3) ∧ (∃ va, TriF wr (h0 + 1) (.int .i64 4) (.int .i64 0) va ∧ OwnN wr (h0 + 2) (fun _ => False) va (((tris s).map leafN).take k)) ∧ Below (h0 + 1) w1 wr) (fun x _ => 2000 - (intOf x).toNat)
  case atStart => exact ⟨0, Nat.zero_le _, rfl, ⟨_, F1.out, by rw [List.take_zero]; exact OwnN.nil _ _ _⟩, Below.refl _ _⟩
  case round =>
    obtain ⟨k, hk, rfl, ⟨va, hfa, hown⟩, hbel⟩ := hrel
    obtain ⟨x3, hx3⟩ : ∃ x3, x3 = wr := ⟨wr, rfl⟩
    subst hx3
    have B3 := hide hbel
    have FA := hide hfa
    have HA := hide hown
    have hsb := hbel.size
    rw [Hz2.out] at hsb
    have BW3 := hide (show Below W.heap.size W x3 from BB.out.trans (hbel.mono (by rw [Hh0.out]; omega)))
    rw [tris_len] at hk
    have hkb : (k : Int) ≤ 1000 := by omega
    clear hfa hown hbel
    by_cases hk3 : k + 3 ≤ s.length
    · have hk3' : (k : Int) + 3 ≤ (s.length : Int) := by omega
      have hk3n : k + 3 ≤ (bsx s).size := by omega
      have hk3i : (k : Int) + 3 ≤ ((bsx s).size : Int) := by omega
      obtain ⟨m, hm⟩ : ∃ m, tri s k = m := ⟨_, rfl⟩
      have hmr := tri_lt s k
      rw [hm] at hmr
      have Hnx := hide (show ((tris s).map leafN).take (k + 1) = ((tris s).map leafN).take k ++ [leafN m] by rw [← List.map_take, takeN (tris_get hk3), List.map_append, hm, List.map_take]; rfl)
      have hex : ((bsx s).extract k (k + 3)).size = 3 := by rw [ByteArray.size_extract]; omega
      have HC := hide (fun (X : World) => show Calls Tryz.prog 130 #[.string ((bsx s).extract k (k + 3))] X fun e w' => e = .returned (.tuple #[.int .i64 m, .bool true]) ∧ Below X.heap.size X w' from (code10 ((bsx s).extract k (k + 3)) X (by omega)).mono fun e w' h => ⟨by
        rw [h.1, hex]
        have : codeS ((bsx s).extract k (k + 3)).data.toList = m := by
          unfold codeS
          rw [if_pos (by rw [size_list]; exact hex), tri_extract, hm]
        rw [this]
        rfl, h.2⟩)
      have hlen : (((tris s).map leafN).take k).length ≤ 1000 := by rw [List.length_take]; omega
      have hsub : (k : Int) + 3 - 3 = (k : Int) := by omega
      clear hm hex
      go_wp2_with fail
      with_reducible refine (HC.out x3).mono ?_
      rintro e x4 ⟨rfl, hbd⟩
      have FA4 := hide (FA.out.keep hbd)
      have HA4 := hide (HA.out.below hbd)
      have B4 := hide (B3.out.trans (hbd.mono (by omega)))
      have hs4 := hbd.size
      obtain ⟨⟨-, s0, s1, s2⟩, f0, f1, f2⟩ := FA4.out
      clear hbd HC
      go_wp2_with (at_builtin; refine wp_push_nd rfl (.tmp 24) (.tmp 27) 30 rfl i0 _ 40 Tryz.underlying30 hi0 hz0 hz1 hz2 rfl (h0 + 2) (fun _ => False) _ _ rfl _ _ _ _ (leafN m) HA4.out (by omega) _ rfl rfl (ndv_leaf 3 m (by omega) (by omega)) (by omega) (by unfold maxLen; omega) ?_)
      intro v' w5 ho5 hb5' hf5
      obtain ⟨A7, m7, d7, vs7, rfl, -, -, -⟩ := ho5.s
      have F6 := hide (FA4.out.at_ hb5' (by omega))
      have O6 := hide ho5
      have B6 := hide (B4.out.trans (hb5'.mono (by omega)))
      obtain ⟨⟨-, s0, s1, s2⟩, f0, f1, f2⟩ := F6.out
      clear ho5 hb5' hf5
      go_wp2
      go_roundw
      case rel => exact ⟨k + 1, by rw [tris_len]; omega, by go_num, ⟨_, F6.out.set2 _, by rw [Hnx.out]; exact O6.out.setc (Nat.lt_succ_self (h0 + 1)) (fun h => h)⟩, B6.out.setCell (p := ⟨h0 + 1, 2, none⟩) (Nat.le_refl (h0 + 1)) _⟩
      case measure => simp [intOf]; omega
    · have hk3' : ¬ (k : Int) + 3 ≤ (s.length : Int) := by omega
      have hk3i : ¬ (k : Int) + 3 ≤ ((bsx s).size : Int) := by omega
      have hall : ((tris s).map leafN).take k = (tris s).map leafN := takeA _ (by rw [List.length_map, tris_len]; omega)
      have hA' := HA.out
      rw [hall] at hA'
      have hnd := hA'.nd 4 (by omega)
      rw [← andN_leaf] at hnd
      obtain ⟨A7, m7, d7, vs7, rfl, -, -, -⟩ := HA.out.s
      have ND := hide (show NdV x3 (fun g => h0 + 2 ≤ g) (.agg #[.int .i64 4, .int .i64 0, .slice A7 m7 d7]) (andN s) from hnd.weak fun g hg => by
        rcases hg with hg | hg
        · exact hg.elim
        · exact hg)
      have F2 := hide (F0.out.at_ B3.out (by omega))
      obtain ⟨⟨-, s0, s1, s2⟩, f0, f1, f2⟩ := F2.out
      obtain ⟨⟨-, y0, y1, y2⟩, e0, e1, e2⟩ := FA.out
      clear hall hA' hnd hk
      go_wp2
      exact bodyPost_ret (res_box rfl _ _ h0 _ _ _ rfl (put3_tri F2.out _ _ _)) rfl ⟨_, rfl, put3_ndv ND.out (show ¬ (h0 + 2 ≤ h0) by omega) (fun g (hg : h0 + 2 ≤ g) => show W.heap.size ≤ g by rw [Hh0.out]; omega), put3_below BW3.out (by rw [Hh0.out]; exact Nat.le_refl _)⟩
set_option maxRecDepth 100000 in
set_option maxHeartbeats 6400000 in
theorem ofstrings63 {W : World} {A : Option Addr} {n c : Nat} {L : LS} (h : Sl W A n c (strCells L)) (hL : L.length ≤ 1000) (hs : ∀ x ∈ L, x.length ≤ 1000) : Calls Tryz.prog 75 #[.slice A n c] W (GotN W (ofStr L)) := by
  obtain ⟨i0, hi0, hz0, hz1, hz2⟩ := info_parts infoN
  have hnc := h.1
  have hcc := h.2.1
  have hnl := h.nstr
  have Hnl := hide hnl
  have hn5 : n ≤ 1000 := by omega
  have SL := hide h
  have Hs := hide hs
  obtain ⟨h0, hh0⟩ : ∃ h0, W.heap.size = h0 := ⟨_, rfl⟩
  have hf1 := triF_new (W.alloc (.cells #[.int .i64 0, .int .i64 0, .slice none 0 0] 32)) (.int .i64 5) (.int .i64 0) (.slice none 0 0) 32
  have hf0 := (triF_new W (.int .i64 0) (.int .i64 0) (.slice none 0 0) 32).keep (bel_alloc _ (.cells #[.int .i64 5, .int .i64 0, .slice none 0 0] 32))
  have hbb := bnew (bel_alloc W (.cells #[.int .i64 0, .int .i64 0, .slice none 0 0] 32)) (.cells #[.int .i64 5, .int .i64 0, .slice none 0 0] 32)
  have hsz1 : (W.alloc (.cells #[.int .i64 0, .int .i64 0, .slice none 0 0] 32)).heap.size = h0 + 1 := by simp [hh0]
  have hsz2 : ((W.alloc (.cells #[.int .i64 0, .int .i64 0, .slice none 0 0] 32)).alloc (.cells #[.int .i64 5, .int .i64 0, .slice none 0 0] 32)).heap.size = h0 + 2 := by simp [hh0]
  rw [hsz1] at hf1
  rw [hh0] at hf0
  have Hh0 := hide hh0
  clear hh0 h hnl hs
  go_enter Tryz.func75, Tryz.ntmps75
  go_wp2
  obtain ⟨w1, hw1⟩ : ∃ w1, (W.alloc (.cells #[.int .i64 0, .int .i64 0, .slice none 0 0] 32)).alloc (.cells #[.int .i64 5, .int .i64 0, .slice none 0 0] 32) = w1 := ⟨_, rfl⟩
  rw [hw1] at hf1 hf0 hbb hsz2 ⊢
  rw [Hh0.out]
  have F0 := hide hf0
  have F1 := hide hf1
  have BB := hide hbb
  have Hz2 := hide hsz2
  clear hw1 hf0 hf1 hbb hsz1 hsz2
  go_loopw [9] (fun x wr => ∃ i : Nat, i ≤ n ∧ x = .int .i64 (i : Int) ∧ (∃ vo, TriF wr (h0 + 1) (.int .i64 5) (.int .i64 0) vo ∧ OwnN wr (h0 + 2) (fun g => h0 + 2 ≤ g) vo ((L.map andN).take i)) ∧ Below (h0 + 1) w1 wr) (fun x _ => n - (intOf x).toNat)
  case atStart => exact ⟨0, Nat.zero_le _, rfl, ⟨_, F1.out, by rw [List.take_zero]; exact OwnN.nil _ _ _⟩, Below.refl _ _⟩
  case round =>
    obtain ⟨i, hi, rfl, ⟨vo, hfo, hown⟩, hbel⟩ := hrel
    obtain ⟨x2, hx2⟩ : ∃ x2, x2 = wr := ⟨wr, rfl⟩
    subst hx2
    have B2 := hide hbel
    have FO := hide hfo
    have HO := hide hown
    have hsb := hbel.size
    rw [Hz2.out] at hsb
    have hBW : Below W.heap.size W x2 := BB.out.trans (hbel.mono (by rw [Hh0.out]; omega))
    have SL2 := hide (SL.out.below hBW)
    have BW := hide hBW
    obtain ⟨UA, un, ud, uvs, rfl, -, -, -⟩ := HO.out.s
    clear hfo hown hbel hBW
    have hib : (i : Int) ≤ 1000 := by omega
    by_cases hlt : i < n
    · have hlt' : (i : Int) < (n : Int) := by omega
      obtain ⟨ad, s, hA, hsi, hcs⟩ := str_cell SL2.out.reads hlt
      subst hA
      have hsl := Hs.out s (List.mem_of_getElem? hsi)
      have HCd := hide (ofstring81 s hsl x2.drew)
      have Hnx := hide (show (L.map andN).take (i + 1) = (L.map andN).take i ++ [andN s] by rw [takeN (show (L.map andN)[i]? = some (andN s) by rw [List.getElem?_map, hsi]; rfl)])
      have hlen : ((L.map andN).take i).length ≤ 1000 := by rw [List.length_take]; omega
      obtain ⟨Ls, hLs⟩ : ∃ Ls, (L.map andN).take i = Ls := ⟨_, rfl⟩
      rw [hLs] at HO Hnx hlen
      clear hLs
      have hBw : h0 + 2 ≤ x2.drew.heap.size := by have h2 : x2.drew.heap.size = x2.heap.size := rfl; omega
      have hBD : h0 + 1 ≤ x2.drew.heap.size := by omega
      have BD := hide (show Below (h0 + 1) w1 x2.drew from B2.out.trans ((bel_drew x2).mono (by omega)))
      have Hul := hide (fun g (hg : (Value.slice UA un ud).ownBlock = some g) => (HO.out.lt hg).2)
      clear hsi
      have Fd := hide (FO.out.keep (bel_drew x2))
      have Od := hide (HO.out.below (bel_drew x2))
      obtain ⟨⟨-, p0, p1, p2⟩, p3, p4, p5⟩ := FO.out
      go_upto_region 5 with (fail)
      go_region_law (first
        | (refine step_push_nd (by rfl) (.tmp 14) (.tmp 17) 30 (by rfl) i0 _ 40 Tryz.underlying30 hi0 hz0 hz1 hz2 rfl (h0 + 2) (fun g => h0 + 2 ≤ g) (.slice UA un ud) Ls (by rfl) w5 _ _ _ (andN s) O5.out hB5 _ rfl (by rfl) R5.out (by omega) (by unfold maxLen; omega) ?_; intro gg cap w7 hown7 hb7; have X7 := hide hown7; have B7 := hide hb7; have O7 := F5.out.at_ hb7 (by omega); have H7 := hide O7; obtain ⟨⟨-, k0, k1, k2⟩, k3, k4, k5⟩ := O7; clear hown7 hb7)
        | (go_simp; go_at_call 109; refine HCd.out.mono ?_; rintro e w5 ⟨vv, rfl, hr5, hb5⟩; obtain ⟨zk, zg, zB, zm, zd, rfl, -, -, -, -⟩ := ndv_shape hr5; have O5 := hide (Od.out.below hb5); have hB5 : h0 + 2 ≤ w5.heap.size := Nat.le_trans hBw hb5.size; have B5 := hide hb5; have R5 := hide (show NdV w5 (fun g => h0 + 2 ≤ g ∧ (Value.slice UA un ud).ownBlock ≠ some g) (.agg #[.int .i64 zk, .int .i64 zg, .slice zB zm zd]) (andN s) from hr5.weak fun g hg => ⟨Nat.le_trans hBw hg, fun e => by have h1 := Hul.out g e; have h2 : x2.heap.size ≤ g := hg; omega⟩); have o5 := Fd.out.keep hb5; have F5 := hide o5; obtain ⟨⟨-, r0, r1, r2⟩, r3, r4, r5⟩ := o5; have o6 := F5.out.keep (bel_alloc w5 (.cells #[.int .i64 zk, .int .i64 zg, .slice zB zm zd] 32)); obtain ⟨⟨-, i0', i1', i2'⟩, -⟩ := o6; clear hr5 hb5))
      all_goals
        have FX := hide (H7.out.set2 (.slice (some ⟨gg, 0, none⟩) (Ls.length + 1) cap))
        have OX := hide (X7.out.setc (u := .slice (some ⟨gg, 0, none⟩) (Ls.length + 1) cap) (j := 2) (Nat.lt_succ_self (h0 + 1)) (by omega))
        have BX := hide (((BD.out.trans (B5.out.mono hBD)).trans (B7.out.mono (Nat.le_succ (h0 + 1)))).setCell (p := ⟨h0 + 1, 2, none⟩) (Nat.le_refl (h0 + 1)) (.slice (some ⟨gg, 0, none⟩) (Ls.length + 1) cap))
        go_wp2
        go_roundw
        case rel => exact ⟨i + 1, by omega, by go_num, ⟨_, FX.out, by rw [Hnx.out]; exact OX.out⟩, BX.out⟩
        case measure => simp [intOf]; omega
    · have hlt' : ¬ (i : Int) < (n : Int) := by omega
      have hall : (L.map andN).take i = L.map andN := takeA _ (by rw [List.length_map, Hnl.out]; omega)
      have hO := HO.out
      rw [hall] at hO
      have hnd := hO.nd 5 (by omega)
      have ND := hide (show NdV x2 (fun g => h0 + 2 ≤ g) (.agg #[.int .i64 5, .int .i64 0, .slice UA un ud]) (ofStr L) from hnd.weak fun g hg => by
        rcases hg with hg | hg
        · exact hg
        · exact hg)
      have F2 := hide (F0.out.at_ B2.out (by omega))
      obtain ⟨⟨-, s0, s1, s2⟩, f0, f1, f2⟩ := F2.out
      obtain ⟨⟨-, y0, y1, y2⟩, e0, e1, e2⟩ := FO.out
      clear hall hO hnd
      go_wp2
      exact bodyPost_ret (res_box rfl _ _ h0 _ _ _ rfl (put3_tri F2.out _ _ _)) rfl ⟨_, rfl, put3_ndv ND.out (show ¬ (h0 + 2 ≤ h0) by omega) (fun g (hg : h0 + 2 ≤ g) => show W.heap.size ≤ g by rw [Hh0.out]; omega), put3_below BW.out (by rw [Hh0.out]; exact Nat.le_refl _)⟩
end Go.Proofs.YtlnbjdlooghpeaaGreatDoor
