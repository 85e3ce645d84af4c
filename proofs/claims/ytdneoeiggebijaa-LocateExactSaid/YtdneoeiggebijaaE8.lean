/- Walk of layer 7's program: those of the candidates that an offset follows, in their own row (followed). -/
import Derived.Test.YtdneoeiggebijaaE7
import Derived.ArgAppend
namespace Go.Proofs.Ytdneoeiggebijaa
open Go.RowKit
open Go.ChangeShapes (block_add)

theorem set_cells_one (w : World) (b o : Nat) (u : Value) : w.setCells b o [u] = w.setCell ⟨b, o, none⟩ u := rfl
/-- The first cells of a row of the call's own. -/
theorem own_front {w : World} {B e g n cap : Nat} {xs : List Value} (h : w.ownsRow B e 1 (.slice (some ⟨g, 0, none⟩) n cap) n xs) {k : Nat} (hk : k ≤ n) : Own w B e (.slice (some ⟨g, 0, none⟩) k cap) (xs.take k) := by
  obtain ⟨h1, h2⟩ := h
  have hl : (xs.take k).length = k := by rw [List.length_take]; omega
  unfold Own
  rw [hl]
  refine ⟨by rw [hl]; omega, ?_⟩
  rcases h2 with ⟨h0, _⟩ | ⟨g', cap', cur, hv, hB, hh, hn, hm, hs, ht⟩
  · cases h0
  · cases hv
    refine Or.inr ⟨g, cap, cur, rfl, hB, hh, by omega, hm, hs, ?_⟩
    rw [← ht, List.take_take]
    congr 1
    omega
theorem own_spare {w : World} {B e g n cap : Nat} {xs : List Value} (h : w.ownsRow B e 1 (.slice (some ⟨g, 0, none⟩) n cap) n xs) {k : Nat} (hk : k < cap) : (w.cell? ⟨g, k, none⟩).isSome = true ∧ w.frozen? ⟨g, k, none⟩ = false := by
  rcases h.2 with ⟨h0, _⟩ | ⟨g', cap', cur, hv, hB, hh, hn, hm, hs, ht⟩
  · cases h0
  · cases hv
    have hks : k < cur.size := by omega
    constructor
    · simp [World.cell?, hh, hks]
    · simp [World.frozen?, hh]
theorem own_cap {w : World} {B e g n cap : Nat} {xs : List Value} (h : w.ownsRow B e 1 (.slice (some ⟨g, 0, none⟩) n cap) n xs) : n ≤ cap ∧ cap ≤ maxLen ∧ B ≤ g ∧ g < w.heap.size := by
  rcases h.2 with ⟨h0, _⟩ | ⟨g', cap', cur, hv, hB, hh, hn, hm, hs, ht⟩
  · cases h0
  · cases hv
    exact ⟨hn, hm, hB, lt_of_block hh⟩
theorem set_take {α : Type} (xs : List α) (k : Nat) (u : α) (hk : k < xs.length) : (xs.set k u).take (k + 1) = xs.take k ++ [u] := by
  rw [List.take_succ_eq_append_getElem (by simpa using hk), List.getElem_set_self]
  congr 1
  rw [List.take_set_of_le (Nat.le_refl k)]
theorem set_drop {α : Type} (xs : List α) (k i : Nat) (u : α) (hk : k < i) : (xs.set k u).drop i = xs.drop i := by
  rw [List.drop_set_of_lt hk]
theorem Lies.tail1 {w : World} {v : Value} {A : Option Addr} {n c : Nat} {l l1 : List Int} {x : Int} (h : Lies w v A n c (numCells l)) (hl : l = x :: l1) (h0 : 0 < n) (hc : c = 1) : Lies w v A 0 0 (numCells l1) :=
  ⟨h.1.tail1 hl h0 hc, fun h => by omega⟩
theorem Lies.tail2 {w : World} {v : Value} {ad : Addr} {n c : Nat} {l l1 : List Int} {x : Int} (h : Lies w v (some ad) n c (numCells l)) (hl : l = x :: l1) (h0 : 0 < n) (hc : ¬ c = 1) : Lies w v (some ⟨ad.block, ad.off + 1, none⟩) (n - 1) (c - 1) (numCells l1) :=
  ⟨h.1.tail2 hl h0 hc, fun _ ad' e => by cases e; exact h.2 h0 ad rfl⟩

/-- What followed gives. -/
def Fol (w : World) (B : Nat) (v : Value) (l : List Int) (e : Ending) (w' : World) : Prop :=
  ∃ v', e = .returned v' ∧ Own w' B 3 v' (numCells l) ∧ Below B w w' ∧ Far w w' v v ∧ ∀ g, v'.ownBlock = some g → v.ownBlock = some g

/-- The candidates so far: the row holds those that are kept and those that are still to come. -/
def Row (w : World) (B g n cap : Nat) (l o : List Int) (d : Int) (k i : Nat) (wr : World) : Prop :=
  (∃ xs : List Int, wr.ownsRow B 3 1 (.slice (some ⟨g, 0, none⟩) n cap) n (numCells xs) ∧ xs.take k = folP (l.take i) o d ∧ xs.drop i = l.drop i) ∧ k = (folP (l.take i) o d).length ∧ Below B w wr ∧ Far w wr (.slice (some ⟨g, 0, none⟩) n cap) (.slice (some ⟨g, 0, none⟩) n cap)

theorem Row.cell {w wr : World} {B g n cap k i : Nat} {l o : List Int} {d z : Int} (h : Row w B g n cap l o d k i wr) (hz : l[i]? = some z) : wr.cell? ⟨g, i, none⟩ = some (.int .i64 z) := by
  obtain ⟨⟨xs, ho, _, hd⟩, _⟩ := h
  have hx : xs[i]? = some z := by
    have := congrArg (fun y : List Int => y[0]?) hd
    simp only [List.getElem?_drop, Nat.add_zero] at this
    rw [this, hz]
  have hi := (List.getElem?_eq_some_iff.1 hx).1
  have hl := ho.1
  rw [num_len] at hl
  rw [ho.cellAt i (by omega)]
  exact num_get xs i z hx
theorem Row.no {w wr : World} {B g n cap k i : Nat} {l o : List Int} {d z : Int} (h : Row w B g n cap l o d k i wr) (hz : l[i]? = some z) (hno : decide (z + d ∈ o) = false) : Row w B g n cap l o d k (i + 1) wr := by
  obtain ⟨⟨xs, ho, ht, hd⟩, hk, hb, hf⟩ := h
  have hs : folP (l.take (i + 1)) o d = folP (l.take i) o d := by
    rw [List.take_succ_eq_append_getElem (List.getElem?_eq_some_iff.1 hz).1, (List.getElem?_eq_some_iff.1 hz).2, folP_no _ _ _ _ hno]
  rw [← hs] at ht hk
  refine ⟨⟨xs, ho, ht, ?_⟩, hk, hb, hf⟩
  rw [← List.drop_drop, ← List.drop_drop, hd]
theorem Row.yes {w wr : World} {B g n cap k i : Nat} {l o : List Int} {d z : Int} (h : Row w B g n cap l o d k i wr) (hz : l[i]? = some z) (hyes : decide (z + d ∈ o) = true) (hki : k ≤ i) (hin : i < n) (C : Obj) :
    Row w B g n cap l o d (k + 1) (i + 1) ((wr.alloc C).setCell ⟨g, k, none⟩ (.int .i64 z)) := by
  obtain ⟨⟨xs, ho, ht, hd⟩, hk, hb, hf⟩ := h
  have hs : folP (l.take (i + 1)) o d = folP (l.take i) o d ++ [z] := by
    rw [List.take_succ_eq_append_getElem (List.getElem?_eq_some_iff.1 hz).1, (List.getElem?_eq_some_iff.1 hz).2, folP_yes _ _ _ _ hyes]
  have hl := ho.1
  rw [num_len] at hl
  obtain ⟨_, _, hBg, hgl⟩ := own_cap ho
  have hset : (numCells xs).set k (.int .i64 z) = numCells (xs.set k z) := by simp [numCells, List.map_set]
  have ho2 := own_set (ho.alloc C) k (.int .i64 z)
  rw [hset] at ho2
  refine ⟨⟨xs.set k z, ho2, ?_, ?_⟩, ?_, ?_, ?_⟩
  · rw [set_take xs k z (by omega), ht, hs]
  · rw [set_drop xs k (i + 1) z (by omega), ← List.drop_drop, ← List.drop_drop, hd]
  · rw [hs, List.length_append, ← hk]
    rfl
  · have hsz := hb.size
    exact (hb.trans ((Below.refl B wr).alloc (by omega) C)).setCell (by exact hBg) _
  · refine hf.trans ⟨by simp [World.setCell], fun b hlt hne => ⟨?_, hne⟩⟩
    have hbg : b ≠ g := fun e => hne (by rw [e]; rfl)
    exact (Below.heap_setCell _ _ _ _ hbg).trans (Below.heap_alloc wr C b hlt)

section
variable {P : Program} {ops : Array Oper} {rest : List Oper} {o : Oper} {a : Act} {Q : Exit → Act → World → Prop}
/-- kept = append(kept, c), kept the first elements of a row of the call's own, with room for more -/
theorem wp_keep (hgd : o.guard = none) (s x : Operand) (t : TypeId) (ho : o.op = .call { callee := .builtin .append, args := #[s, x], argTypes := #[t, t] })
    (e : TypeId) (i : TypeInfo) (z : Value) (bytes : Nat) (ht : P.underlying t = some (.slice e)) (hi : P.info? e = some i) (hz : i.zero = some z) (hsize : i.size = 1) (hby : i.bytes = bytes) (hzs : z.cells.size = 1)
    (B g n cap k : Nat) (xs : List Value) (wr : World) (hown : wr.ownsRow B e 1 (.slice (some ⟨g, 0, none⟩) n cap) n xs) (hk : k < n) (c : Value) (hc : c.oneCell' = true)
    (hs : a.eval s = .slice (some ⟨g, 0, none⟩) k cap) (H : Nat) (hH : H = wr.heap.size) (hx : a.eval x = .slice (some ⟨H, 0, none⟩) 1 1) (hlen : n * bytes ≤ 140737488355328)
    (h : wpList P ops Q rest (a.put o.dst (.slice (some ⟨g, 0, none⟩) (k + 1) cap)) ((wr.alloc (.cells #[c] e)).setCell ⟨g, k, none⟩ c)) : wpList P ops Q (o :: rest) a (wr.alloc (.cells #[c] e)) := by
  subst hH
  obtain ⟨h1, h2, h3, h4⟩ := own_cap hown
  have hone : ∀ u ∈ [c], u.oneCell' = true := by intro u hu; simp at hu; subst hu; exact hc
  have hal := hown.alloc (.cells #[c] e)
  have hxl := hown.1
  have hb2 : (k + 1) * bytes ≤ 140737488355328 := Nat.le_trans (Nat.mul_le_mul_right _ hk) hlen
  refine wpList_append_arg _ hgd s x t ho e i z 1 bytes ht hi hz hsize hby hzs (by decide) g 0 k cap (xs.take k) hs (by rw [List.length_take]; omega) (fun j u hu => ?_) ⟨wr.heap.size, 0, none⟩ 1 1 [c] hx rfl (c1_one _ _ _) hone (fun _ j hj => ?_) (by omega) hb2 (fun _ => ?_) (fun hlt => absurd hlt (by omega))
  · rw [List.getElem?_take] at hu
    split at hu
    · rw [Nat.zero_add, hal.cellAt j (by omega)]
      exact hu
    · cases hu
  · have : j = 0 := by simpa using hj
    subst this
    rw [show 0 + k * 1 + 0 = k by omega]
    exact own_spare hal (by omega)
  · rw [set_cells_one, show 0 + k * 1 = k by omega]
    exact h
end

def slen : Value → Nat
  | .slice _ n _ => n
  | _ => 0

set_option maxRecDepth 20000 in
set_option maxHeartbeats 6400000 in
theorem fol35 (v : Value) (A' : Option Addr) (n' c' : Nat) (l o : List Int) (d : Int) (B : Nat) (w : World) (ho : Own w B 3 v (numCells l)) (hlo : Lies w v A' n' c' (numCells o)) (hul : Up l) (huo : Up o)
    (hl0 : ∀ z ∈ l, 0 ≤ z ∧ z ≤ 9223372036854775807) (ho0 : ∀ z ∈ o, 0 ≤ z ∧ z ≤ 9223372036854775807) (hd : 0 ≤ d ∧ d ≤ 100000) (hll : l.length ≤ 1000) :
    Calls Try.prog 35 #[v, .slice A' n' c', .int .i64 d] w (Fol w B v (folP l o d)) := by
  obtain ⟨i0, hi, hz0, hz1, hz2⟩ := info_parts infoI
  obtain ⟨hd0, hd1⟩ := hd
  have ho' := ho
  rcases ho'.2 with ⟨rfl, h0⟩ | ⟨g, cap, cur, rfl, -, -, -, -, -, -⟩
  · obtain rfl : l = [] := List.eq_nil_of_length_eq_zero (by rw [← num_len]; exact h0)
    have Ho := hide ho
    clear ho ho' hlo h0 hl0 ho0
    go_enter Try.func35, Try.ntmps35
    go_wp2_with fail
    go_loopw [7, 14] (fun q x wr => q = .slice none 0 0 ∧ x = .int .i64 0 ∧ wr = w) (fun _ _ _ => 0)
    case atStart => exact ⟨rfl, rfl, rfl⟩
    case round =>
      obtain ⟨rfl, rfl, rfl⟩ := hrel
      go_wp2
      go_ret
      exact ⟨_, rfl, Ho.out, Below.refl _ _, Far.refl _ _, fun g hg => hg⟩
  · obtain ⟨n, hnl⟩ : ∃ n, (numCells l).length = n := ⟨_, rfl⟩
    unfold Own at ho
    rw [hnl] at ho hlo ⊢
    rw [num_len] at hnl
    obtain ⟨hc1, hc2, hc3, hc4⟩ := own_cap ho
    unfold maxLen at hc2
    have R0 := hide (show Row w B g n cap l o d 0 0 w from ⟨⟨l, ho, by simp [folP], rfl⟩, by simp [folP], Below.refl _ _, Far.refl _ _⟩)
    have L0 := hide hlo
    have Huo := hide huo
    have Hl0 := hide hl0
    have Ho0 := hide ho0
    have Hul := hide hul
    have Hnl := hide hnl
    have hn1 : n ≤ 1000 := by omega
    have hcn := hlo.1.1
    have hcm := hlo.1.2.1
    clear ho ho' hlo huo hl0 ho0 hul hnl
    go_enter Try.func35, Try.ntmps35
    go_wp2_with fail
    go_loopw [1, 7, 14] (fun u q x wr => ∃ (i k : Nat) (Ao : Option Addr) (no co : Nat) (ob : List Int), i ≤ n ∧ k ≤ i ∧ x = .int .i64 (i : Int) ∧ u = .slice Ao no co ∧ q = .slice (some ⟨g, 0, none⟩) k cap ∧ Row w B g n cap l o d k i wr ∧ Lies wr (.slice (some ⟨g, 0, none⟩) n cap) Ao no co (numCells ob) ∧ ∀ z, l[i]? = some z → Rest o ob d z) (fun _ _ x _ => n - (intOf x).toNat)
    case atStart => exact ⟨0, 0, A', n', c', o, Nat.zero_le _, Nat.le_refl _, rfl, rfl, rfl, R0.out, L0.out, fun z _ => Rest.start Huo.out⟩
    case round =>
      obtain ⟨i, k, Ao, no, co, ob, hi1, hki, rfl, rfl, rfl, hrow, hlies, hrest⟩ := hrel
      obtain ⟨w2, hw2⟩ : ∃ w2, w2 = wr := ⟨wr, rfl⟩
      subst hw2
      have hoc := hlies.1.1
      have hocm := hlies.1.2.1
      by_cases hlt : i < n
      · obtain ⟨z, hz⟩ : ∃ z, l[i]? = some z := ⟨_, List.getElem?_eq_getElem (by rw [Hnl.out]; exact hlt)⟩
        have hcell := hrow.cell hz
        obtain ⟨hzl, hzh⟩ := Hl0.out z (List.mem_of_getElem? hz)
        have hnext := hide (show ∀ z', l[i + 1]? = some z' → z ≤ z' from fun z' hz' => by
          have h1 := (List.getElem?_eq_some_iff.1 hz).2
          have h2 := (List.getElem?_eq_some_iff.1 hz').2
          have := List.pairwise_iff_getElem.1 Hul.out i (i + 1) (List.getElem?_eq_some_iff.1 hz).1 (List.getElem?_eq_some_iff.1 hz').1 (by omega)
          omega)
        have Hrow := hide hrow
        have L1 := hide hlies
        have R1 := hide (hrest z hz)
        have Hz := hide hz
        have q0 : (0 : Int) ≤ (i : Int) := by omega
        have q1 : (i : Int) < (n : Int) := by omega
        clear hrow hlies hrest hz
        go_wp2_with fail
        go_loop [1] (fun u => ∃ (Ao : Option Addr) (no co : Nat) (ob : List Int), u = .slice Ao no co ∧ Lies w2 (.slice (some ⟨g, 0, none⟩) n cap) Ao no co (numCells ob) ∧ Rest o ob d z) (fun u => slen u)
        case atStart => exact ⟨Ao, no, co, ob, rfl, L1.out, R1.out⟩
        case round =>
          clear hoc hocm L1 R1
          obtain ⟨Ao, no, co, ob, rfl, hlies, hrest⟩ := hrel
          have hoc := hlies.1.1
          have hocm := hlies.1.2.1
          have hol := hlies.1.nlen
          cases ob with
          | nil =>
            obtain rfl : no = 0 := hol.symm
            have Hn := hide (Hrow.out.no Hz.out hrest.none)
            have Ln := hide hlies
            have Rn := hide (show ∀ z', l[i + 1]? = some z' → Rest o [] d z' from fun z' hz' => hrest.more (hnext.out z' hz'))
            clear hlies hrest hol
            go_wp2
            go_roundw
            case rel => exact ⟨i + 1, k, Ao, 0, co, [], by omega, by omega, by go_num, rfl, rfl, Hn.out, Ln.out, Rn.out⟩
            case measure => simp [intOf]; omega
          | cons x ob =>
            have hno : 0 < no := by rw [← hol]; simp
            obtain ⟨hxl, hxh⟩ := Ho0.out x (hrest.2.1 x (by simp))
            obtain ⟨ad, x', rfl, hx', hcx⟩ := num_cell hlies.1.reads hno
            obtain rfl : x = x' := by simpa using hx'
            have hcx' : w2.cell? ad = some (.int .i64 x) := hcx
            have k1 : (0 : Int) < (no : Int) := by omega
            have d1 : decide (0 < no) = true := decide_eq_true hno
            have d2 : decide ((no : Int) > 0) = true := decide_eq_true k1
            have e1 : (no : Int) - 1 = ((no - 1 : Nat) : Int) := by omega
            by_cases hxd : x - d < z
            · have hdx : decide (x - d < z) = true := decide_eq_true hxd
              have Rs := hide (hrest.skip hxd)
              by_cases hco : co = 1
              · have Lt := hide (hlies.tail1 rfl hno hco)
                clear hlies hrest hol hx' hxd
                subst hco
                obtain rfl : no = 1 := by omega
                go_wp2
                go_round
                case rel => exact ⟨_, _, _, ob, rfl, Lt.out, Rs.out⟩
                case measure => first | (simp [slen]; done) | (simp [slen]; omega)
              · have Lt := hide (hlies.tail2 rfl hno hco)
                have hco1 : 1 ≤ co := by omega
                have hco2 : ¬ co = 1 := hco
                have e2 : (co : Int) - 1 = ((co - 1 : Nat) : Int) := by omega
                clear hlies hrest hol hx' hxd
                go_wp2
                go_round
                case rel => exact ⟨_, _, _, ob, rfl, Lt.out, Rs.out⟩
                case measure => first | (simp [slen]; done) | (simp [slen]; omega)
            · have hdx : decide (x - d < z) = false := decide_eq_false hxd
              have hhd := hrest.head (by omega)
              have Ln := hide hlies
              have Rn := hide (show ∀ z', l[i + 1]? = some z' → Rest o (x :: ob) d z' from fun z' hz' => hrest.more (hnext.out z' hz'))
              by_cases heq : x - d = z
              · have hde : ((x - d) == z) = true := by rw [heq]; simp
                rw [decide_eq_true heq] at hhd
                have Hy := hide (Hrow.out.yes Hz.out hhd hki hlt (.cells #[.int .i64 z] 3))
                obtain ⟨xs, hxs, -, -⟩ := Hrow.out.1
                have Hxs := hide hxs
                have Ly := hide (Ln.out.far (show Far w2 ((w2.alloc (.cells #[.int .i64 z] 3)).setCell ⟨g, k, none⟩ (.int .i64 z)) (.slice (some ⟨g, 0, none⟩) n cap) (.slice (some ⟨g, 0, none⟩) n cap) from ⟨by simp [World.setCell], fun b hb hne => ⟨(Below.heap_setCell _ _ _ _ (fun e => hne (by rw [e]; rfl))).trans (Below.heap_alloc w2 _ b hb), hne⟩⟩))
                have hkn : k < n := by omega
                clear hlies hrest hol hx' hxd heq hhd hxs
                go_wp2_with (first
                  | (at_builtin; refine wp_keep rfl (.tmp 44) (.tmp 46) 24 rfl 3 i0 (.int .i64 0) 8 Try.underlying24 hi hz0 hz1 hz2 rfl B g n cap k (numCells xs) _ Hxs.out hkn _ rfl rfl _ rfl rfl (by omega) ?_)
                  | fail)
                go_roundw
                case rel => exact ⟨i + 1, k + 1, some ad, no, co, x :: ob, by omega, by omega, by go_num, rfl, rfl, Hy.out, Ly.out, Rn.out⟩
                case measure => simp [intOf]; omega
              · have hde : ((x - d) == z) = false := beq_eq_false_iff_ne.2 heq
                rw [decide_eq_false heq] at hhd
                have Hn := hide (Hrow.out.no Hz.out hhd)
                clear hlies hrest hol hx' hxd heq hhd
                go_wp2
                go_roundw
                case rel => exact ⟨i + 1, k, some ad, no, co, x :: ob, by omega, by omega, by go_num, rfl, rfl, Hn.out, Ln.out, Rn.out⟩
                case measure => simp [intOf]; omega
      · obtain rfl : i = n := by omega
        obtain ⟨⟨xs, hxs, ht, -⟩, hk, hb, hf⟩ := hrow
        rw [List.take_of_length_le (l := l) (by rw [Hnl.out]; exact Nat.le_refl _)] at ht hk
        have hfr := own_front hxs (k := k) (by omega)
        rw [show (numCells xs).take k = numCells (folP l o d) by rw [← num_take, ht]] at hfr
        have Hfr := hide hfr
        have Hb := hide hb
        have Hf := hide hf
        clear hxs ht hk hb hf hfr hlies hrest
        go_wp2
        go_ret
        exact ⟨_, rfl, Hfr.out, Hb.out, Hf.out, fun g' hg => hg⟩

end Go.Proofs.Ytdneoeiggebijaa
