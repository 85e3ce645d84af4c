/- Layer 8, the program: ND, NE, NF, NG. -/
import Derived.Test.YtmiegjefmebpdaaGreatDoorQ4
import Derived.Test.YtmiegjefmebpdaaGreatDoorKI
import Derived.BigQuiet
import Derived.Deep.RegionHeld3
import Derived.Test.YtmiegjefmebpdaaGreatDoorKC
import Derived.Test.YtmiegjefmebpdaaGreatDoorQ1
namespace Go.Proofs.YtmiegjefmebpdaaGreatDoor
open Go.RowKit

/-! ### ND -/

theorem all_take' {α : Type} {l : List α} {k : Nat} {r : α} (p : α → Bool) (h : l[k]? = some r) : (l.take (k + 1)).all p = ((l.take k).all p && p r) := by
  obtain ⟨h1, e⟩ := List.getElem?_eq_some_iff.1 h
  rw [List.take_succ_eq_append_getElem h1, List.all_append, e]
  simp
theorem all_at {α : Type} {l : List α} {k : Nat} {r : α} (p : α → Bool) (h : l[k]? = some r) (hp : p r = false) : l.all p = false := by
  cases ha : l.all p with
  | false => rfl
  | true => rw [List.all_eq_true.1 ha r (List.mem_of_getElem? h)] at hp; cases hp
/-- Every range can be written. -/
def wrA (l : List (UInt8 × UInt8)) : Bool := l.all fun r => writable r.1 && writable r.2

set_option maxRecDepth 20000 in
set_option maxHeartbeats 3200000 in
theorem printable76 {W : World} {ok : Nat → Prop} {A : Option Addr} {n c : Nat} {l : List (UInt8 × UInt8)} (h : RgS W ok A n c l) (q : Bool) (hq : wrA l = q) :
    Calls Tryz.prog 76 #[.slice A n c] W fun e w' => e = .returned (.bool q) ∧ Below W.heap.size W w' := by
  have hnc := h.1
  have hcc := h.2.1
  have Hlen := hide h.2.2.1
  have H := hide h
  have Hq := hide hq
  clear h hq
  go_enter Tryz.func76, Tryz.ntmps76
  go_wp2
  go_loopw [7] (fun y wr => ∃ k : Nat, k ≤ n ∧ y = .int .i64 (k : Int) ∧ wrA (l.take k) = true ∧ Below W.heap.size W wr) (fun y _ => n - (intOf y).toNat)
  case atStart => exact ⟨0, Nat.zero_le _, rfl, rfl, Below.refl _ _⟩
  case round =>
    obtain ⟨k, hk, rfl, hm, hb⟩ := hrel
    obtain ⟨w2, hw2⟩ : ∃ w2, w2 = wr := ⟨wr, rfl⟩
    subst hw2
    have B := hide hb
    by_cases hlt : k < n
    · have hlt' : (k : Int) < (n : Int) := by omega
      obtain ⟨g, o, r, rfl, hr, c0, c1⟩ := (H.out.below hb).at_ hlt
      have B3 := hide (bnew hb (.cells #[.int .u8 (r.1.toNat : Int), .int .u8 (r.2.toNat : Int)] 48))
      have t := two_alloc w2 (.int .u8 (r.1.toNat : Int)) (.int .u8 (r.2.toNat : Int)) 48
      obtain ⟨_, t0, t1⟩ := t
      have ht := all_take' (fun r => writable r.1 && writable r.2) hr
      have H1 := hide (fun W => pwrit93 r.1 W)
      have H2 := hide (fun W => pwrit93 r.2 W)
      have Hno := hide (show (writable r.1 && writable r.2) = false → false = q from fun hp => by rw [← Hq.out]; exact (all_at (fun r => writable r.1 && writable r.2) hr hp).symm)
      have Hyes := hide (show (writable r.1 && writable r.2) = true → wrA (l.take (k + 1)) = true from fun hp => by unfold wrA at hm ⊢; rw [ht, hm, hp]; rfl)
      obtain ⟨a, ha⟩ : ∃ a, writable r.1 = a := ⟨_, rfl⟩
      obtain ⟨b, hb'⟩ : ∃ b, writable r.2 = b := ⟨_, rfl⟩
      rw [ha, hb'] at Hno Hyes
      rw [ha] at H1
      rw [hb'] at H2
      clear hm ht hr ha hb' hb
      cases a with
      | false =>
        have Hn := hide (Hno.out rfl)
        go_wp2_with fail
        with_reducible refine (H1.out _).mono ?_
        rintro e w3 ⟨rfl, rfl⟩
        go_wp2_with fail
        go_ret
        exact ⟨ret_bool Hn.out, B3.out⟩
      | true =>
        cases b with
        | false =>
          have Hn := hide (Hno.out rfl)
          go_wp2_with fail
          with_reducible refine (H1.out _).mono ?_
          rintro e w3 ⟨rfl, rfl⟩
          go_wp2_with fail
          with_reducible refine (H2.out _).mono ?_
          rintro e w3 ⟨rfl, rfl⟩
          go_wp2_with fail
          go_ret
          exact ⟨ret_bool Hn.out, B3.out⟩
        | true =>
          have Hn := hide (Hyes.out rfl)
          go_wp2_with fail
          with_reducible refine (H1.out _).mono ?_
          rintro e w3 ⟨rfl, rfl⟩
          go_wp2_with fail
          with_reducible refine (H2.out _).mono ?_
          rintro e w3 ⟨rfl, rfl⟩
          go_wp2_with fail
          go_roundw
          case rel => exact ⟨k + 1, by omega, by go_num, Hn.out, B3.out⟩
          case measure => simp [intOf]; omega
    · have hlt' : ¬ (k : Int) < (n : Int) := by omega
      rw [List.take_of_length_le (by rw [Hlen.out]; omega)] at hm
      have Hn := hide (show true = q by rw [← Hq.out, hm])
      clear hm hb
      go_wp2
      go_ret
      exact ⟨ret_bool Hn.out, B.out⟩

theorem isb_alloc {T e : TypeId} {B b : Nat} {xs : List Value} {w : World} (h : Lib.IsBuilderF T e B b xs w) (o : Obj) : Lib.IsBuilderF T e B b xs (w.alloc o) := by
  rcases h with h | h
  · exact Or.inl (h.alloc o)
  · exact Or.inr (h.alloc o)
theorem byteC_app (a b : List UInt8) : Lib.byteCells (a ++ b) = Lib.byteCells a ++ Lib.byteCells b := by simp [Lib.byteCells]
theorem flat_take {l : List (UInt8 × UInt8)} {k : Nat} {r : UInt8 × UInt8} (h : l[k]? = some r) : (l.take (k + 1)).flatMap elemS = (l.take k).flatMap elemS ++ elemS r := by
  obtain ⟨h1, e⟩ := List.getElem?_eq_some_iff.1 h
  rw [List.take_succ_eq_append_getElem h1, List.flatMap_append, e]
  simp
theorem flat_take_le (l : List (UInt8 × UInt8)) (k : Nat) : ((l.take k).flatMap elemS).length ≤ 5 * k := by
  have h1 := flat_le (l.take k)
  have h2 : (l.take k).length ≤ k := by rw [List.length_take]; omega
  omega
theorem bs_strCells (l : List UInt8) : Lib.strCells (bs l) = Lib.byteCells l := by
  have := str_cells (bs l)
  rw [bs_list] at this
  exact this
theorem byteC_len (l : List UInt8) : (Lib.byteCells l).length = l.length := by simp [Lib.byteCells]

set_option maxRecDepth 20000 in
set_option maxHeartbeats 6400000 in
theorem pranges78 {W : World} {ok : Nat → Prop} {A : Option Addr} {n c : Nat} {l : List (UInt8 × UInt8)} (h : RgS W ok A n c l) (hn : n ≤ 1000) (hw : wrA l = true) :
    Calls Tryz.prog 78 #[.slice A n c] W fun e w' => e = .returned (.string (bs (l.flatMap elemS))) ∧ Below W.heap.size W w' := by
  have hnc := h.1
  have hcc := h.2.1
  have Hlen := hide h.2.2.1
  have H := hide h
  have Hw := hide hw
  obtain ⟨w0, hw0⟩ : ∃ w0, W.alloc (.cells #[.pointer none, .slice none 0 0] 93) = w0 := ⟨_, rfl⟩
  have hB0 : Below W.heap.size W w0 := by rw [← hw0]; exact bnew (Below.refl _ W) _
  have hs0 : w0.heap.size = W.heap.size + 1 := by rw [← hw0]; simp
  have hI : Lib.IsBuilderF 93 5 W.heap.size W.heap.size (Lib.byteCells ((l.take 0).flatMap elemS)) w0 := by rw [← hw0]; exact .of (Lib.fresh_isBuilder 93 5 W)
  have BB := hide hB0
  have HI := hide hI
  have hs1 : W.heap.size < w0.heap.size := by omega
  clear h hw hB0 hI hs0
  go_enter Tryz.func78, Tryz.ntmps78
  go_wp2
  go_loopw [8] (fun y wr => ∃ k : Nat, k ≤ n ∧ y = .int .i64 (k : Int) ∧ Lib.IsBuilderF 93 5 W.heap.size W.heap.size (Lib.byteCells ((l.take k).flatMap elemS)) wr ∧ Below W.heap.size w0 wr) (fun y _ => n - (intOf y).toNat)
  case atStart => exact ⟨0, Nat.zero_le _, rfl, HI.out, Below.refl _ _⟩
  case round =>
    obtain ⟨k, hk, rfl, hib, hb⟩ := hrel
    obtain ⟨w2, hw2⟩ : ∃ w2, w2 = wr := ⟨wr, rfl⟩
    subst hw2
    have B := hide hb
    have hsz := hb.size
    have hsz' : W.heap.size ≤ w2.heap.size := by omega
    have hfl := flat_take_le l k
    have hfl' : (Lib.byteCells ((l.take k).flatMap elemS)).length ≤ 5 * k := by rw [byteC_len]; exact hfl
    have hBW := BB.out.trans hb
    by_cases hlt : k < n
    · have hlt' : (k : Int) < (n : Int) := by omega
      obtain ⟨g, o, r, rfl, hr, c0, c1⟩ := (H.out.below hBW).at_ hlt
      have hrw := List.all_eq_true.1 Hw.out r (List.mem_of_getElem? hr)
      simp only [Bool.and_eq_true] at hrw
      have hba := bnew (Below.refl _ w2) (.cells #[.int .u8 (r.1.toNat : Int), .int .u8 (r.2.toNat : Int)] 48)
      have t := two_alloc w2 (.int .u8 (r.1.toNat : Int)) (.int .u8 (r.2.toNat : Int)) 48
      obtain ⟨w3, hw3⟩ : ∃ w3, w2.alloc (.cells #[.int .u8 (r.1.toNat : Int), .int .u8 (r.2.toNat : Int)] 48) = w3 := ⟨_, rfl⟩
      rw [hw3] at hba t
      have T3 := hide t
      obtain ⟨_, t0, t1⟩ := t
      have B3 := hide (hb.trans (hba.mono hsz'))
      have I3 := hide (show Lib.IsBuilderF 93 5 W.heap.size W.heap.size (Lib.byteCells ((l.take k).flatMap elemS)) w3 by rw [← hw3]; exact isb_alloc hib _)
      have hn3 : w3.heap[w2.heap.size]? = some (.cells #[.int .u8 (r.1.toNat : Int), .int .u8 (r.2.toNat : Int)] 48 (0, 0)) := by rw [← hw3]; exact heap_alloc_new w2 _
      have Hn3 := hide hn3
      have hsz3 : W.heap.size ≤ w3.heap.size := by have := hba.size; omega
      have hsz23 : w2.heap.size < w3.heap.size := by rw [← hw3]; simp
      have H1 := hide (fun W => pbyte77 r.1 (writ_low hrw.1) ⟨#[92, 91, 93, 94, 45]⟩ W)
      have H2 := hide (fun W => pbyte77 r.2 (writ_low hrw.2) ⟨#[92, 91, 93, 94, 45]⟩ W)
      have Hft := hide (flat_take hr)
      have hq1 := quoted_len r.1 inSet
      have hq2 := quoted_len r.2 inSet
      have Hin := hide (show (⟨#[92, 91, 93, 94, 45]⟩ : ByteArray).data.toList = inSet from rfl)
      rw [Hin.out] at H1 H2
      obtain ⟨Q1, hQ1⟩ : ∃ Q, quoted r.1 inSet = Q := ⟨_, rfl⟩
      obtain ⟨Q2, hQ2⟩ : ∃ Q, quoted r.2 inSet = Q := ⟨_, rfl⟩
      rw [hQ1] at H1 hq1
      rw [hQ2] at H2 hq2
      have hb1 : (bs Q1).size ≤ 2 := by rw [bs_size]; exact hq1
      have hb2 : (bs Q2).size ≤ 2 := by rw [bs_size]; exact hq2
      by_cases hlh : r.1 < r.2
      · have l1 : (r.1.toNat : Int) < (r.2.toNat : Int) := by have := UInt8.lt_iff_toNat_lt.1 hlh; omega
        have l1' : decide (r.1.toNat < r.2.toNat) = true := decide_eq_true (by omega)
        have Hn := hide (show Lib.byteCells ((l.take k).flatMap elemS) ++ Lib.strCells (bs Q1) ++ Lib.strCells (bs [45] ++ bs Q2) = Lib.byteCells ((l.take (k + 1)).flatMap elemS) by
          rw [Hft.out, bs_app, bs_strCells, bs_strCells, ← byteC_app, ← byteC_app]
          unfold elemS
          rw [hQ1, hQ2, if_pos hlh]
          simp)
        clear hr hrw hib hba hlh hQ1 hQ2 hb hBW hn3
        go_wp2_with fail
        with_reducible refine (H1.out _).mono ?_
        rintro e w4 ⟨rfl, rfl⟩
        go_wp2_with fail
        refine (Tryz.Builder_WriteString_k _ _ _ (bs Q1) _ I3.out (by omega) hsz3).mono ?_
        rintro e w4 ⟨rfl, hb4, hbb4, ho4⟩
        have hsz4 : W.heap.size ≤ w4.heap.size := by have := hbb4.size; omega
        have B4 := hide (B3.out.trans hbb4)
        have I4 := hide hb4
        have hn4 := ho4 _ _ Hn3.out (fun e => by simp only [Option.some.injEq] at e; omega) (fun c fz e => by injection e with e1 e2; exact absurd e2 (by decide))
        have u0 : w4.cell? ⟨w2.heap.size, 0, none⟩ = some (.int .u8 (r.1.toNat : Int)) := by simp [World.cell?, hn4]
        have u1 : w4.cell? ⟨w2.heap.size, 1, none⟩ = some (.int .u8 (r.2.toNat : Int)) := by simp [World.cell?, hn4]
        clear hb4 hbb4 ho4 hn4 t0 t1
        go_wp2_with fail
        with_reducible refine (H2.out _).mono ?_
        rintro e w5 ⟨rfl, rfl⟩
        go_wp2_with fail
        refine (Tryz.Builder_WriteString_k _ _ _ _ _ (Or.inr I4.out) (by rw [List.length_append, bs_strCells, byteC_len Q1, ByteArray.size_append]; have : (⟨#[45]⟩ : ByteArray).size = 1 := rfl; omega) hsz4).mono ?_
        rintro e w5 ⟨rfl, hb5, hbb5, -⟩
        have B5 := hide (B4.out.trans hbb5)
        have I5 := hide hb5
        clear hb5 hbb5 u0 u1
        go_wp2_with fail
        go_roundw
        case rel => exact ⟨k + 1, by omega, by go_num, Or.inr (by rw [← Hn.out]; exact I5.out), B5.out⟩
        case measure => simp [intOf]; omega
      · have l1 : ¬ (r.1.toNat : Int) < (r.2.toNat : Int) := by rw [UInt8.lt_iff_toNat_lt] at hlh; omega
        have l1' : decide (r.1.toNat < r.2.toNat) = false := decide_eq_false (by omega)
        have Hn := hide (show Lib.byteCells ((l.take k).flatMap elemS) ++ Lib.strCells (bs Q1) = Lib.byteCells ((l.take (k + 1)).flatMap elemS) by
          rw [Hft.out, bs_strCells, ← byteC_app]
          unfold elemS
          rw [hQ1, if_neg hlh]
          simp)
        clear hr hrw hib hba hlh hQ1 hQ2 hb hBW hn3
        go_wp2_with fail
        with_reducible refine (H1.out _).mono ?_
        rintro e w4 ⟨rfl, rfl⟩
        go_wp2_with fail
        refine (Tryz.Builder_WriteString_k _ _ _ (bs Q1) _ I3.out (by omega) hsz3).mono ?_
        rintro e w4 ⟨rfl, hb4, hbb4, ho4⟩
        have B4 := hide (B3.out.trans hbb4)
        have I4 := hide hb4
        have hn4 := ho4 _ _ Hn3.out (fun e => by simp only [Option.some.injEq] at e; omega) (fun c fz e => by injection e with e1 e2; exact absurd e2 (by decide))
        have u0 : w4.cell? ⟨w2.heap.size, 0, none⟩ = some (.int .u8 (r.1.toNat : Int)) := by simp [World.cell?, hn4]
        have u1 : w4.cell? ⟨w2.heap.size, 1, none⟩ = some (.int .u8 (r.2.toNat : Int)) := by simp [World.cell?, hn4]
        clear hb4 hbb4 ho4 hn4 t0 t1
        go_wp2_with fail
        go_roundw
        case rel => exact ⟨k + 1, by omega, by go_num, Or.inr (by rw [← Hn.out]; exact I4.out), B4.out⟩
        case measure => simp [intOf]; omega
    · have hlt' : ¬ (k : Int) < (n : Int) := by omega
      rw [List.take_of_length_le (by rw [Hlen.out]; omega)] at hib
      have I4 := hide hib
      clear hib hb hfl hfl' hBW
      go_wp2_with fail
      refine (Tryz.Builder_String_any_k _ _ _ _ I4.out hsz').mono ?_
      rintro e w4 ⟨rfl, -, hb4, -⟩
      have B4 := hide (BB.out.trans (B.out.trans hb4))
      clear hb4
      go_wp2
      go_ret
      exact ⟨rfl, B4.out⟩

/-! ### NE -/

theorem run74 (xs : Array Value) (W : World) : (callFunc 74 xs).run Tryz.prog W = .ok (.enter 74 xs) W := by kernel_rfl
theorem run75 (xs : Array Value) (W : World) : (callFunc 75 xs).run Tryz.prog W = .ok (.enter 75 xs) W := by kernel_rfl
theorem canon_in (l : List (UInt8 × UInt8)) : rgN (fun i => hasS l (UInt8.ofNat i)) 256 = rangesS l false := rgN_congr 256 fun i _ => by simp
theorem canon_out (l : List (UInt8 × UInt8)) : rgN (fun i => !hasS l (UInt8.ofNat i)) 256 = rangesS l true := rgN_congr 256 fun i _ => by simp
set_option maxRecDepth 20000 in
theorem clo74 {W : World} {ok : Nat → Prop} {A : Option Addr} {n d : Nat} {set : List (UInt8 × UInt8)} (x : UInt8) (z : Int) (hz : z = (x.toNat : Int)) (b : Nat) (hc : W.cell? ⟨b, 0, none⟩ = some (.slice A n d)) (h : RgS W ok A n d set) :
    Calls Tryz.prog 74 #[.int .u8 z, .pointer (some ⟨b, 0, none⟩)] W fun e w' => e = .returned (.bool (hasS set x)) ∧ Below W.heap.size W w' := by
  subst hz
  have HC := hide (phas20 h x _ rfl)
  clear h
  go_enter Tryz.func74, Tryz.ntmps74
  go_wp2_with fail
  with_reducible refine HC.out.mono ?_
  rintro e w2 ⟨rfl, hb⟩
  have B := hide hb
  clear hb
  go_wp2
  go_ret
  exact ⟨rfl, B.out⟩
set_option maxRecDepth 20000 in
theorem clo75 {W : World} {ok : Nat → Prop} {A : Option Addr} {n d : Nat} {set : List (UInt8 × UInt8)} (x : UInt8) (z : Int) (hz : z = (x.toNat : Int)) (b : Nat) (hc : W.cell? ⟨b, 0, none⟩ = some (.slice A n d)) (h : RgS W ok A n d set) :
    Calls Tryz.prog 75 #[.int .u8 z, .pointer (some ⟨b, 0, none⟩)] W fun e w' => e = .returned (.bool (!hasS set x)) ∧ Below W.heap.size W w' := by
  subst hz
  have HC := hide (phas20 h x _ rfl)
  clear h
  go_enter Tryz.func75, Tryz.ntmps75
  go_wp2_with fail
  with_reducible refine HC.out.mono ?_
  rintro e w2 ⟨rfl, hb⟩
  have B := hide hb
  clear hb
  go_wp2
  go_ret
  exact ⟨rfl, B.out⟩
theorem rp_wr (l : List (UInt8 × UInt8)) : rpB l = wrA l := by
  unfold rpB rangesP wrA
  split
  · rename_i h; rw [h]; rfl
  · rename_i h; simp only [Bool.not_eq_true] at h; rw [h]; rfl
theorem rp_text {l : List (UInt8 × UInt8)} (h : wrA l = true) : rpA l = bs (l.flatMap elemS) := by
  unfold wrA at h
  unfold rpA rangesP
  rw [if_pos h]
theorem lit10 (w : World) : RgS (w.alloc (.cells #[.int .u8 10, .int .u8 10] 48)) (fun g => w.heap.size ≤ g) (some ⟨w.heap.size, 0, none⟩) 1 1 [(10, 10)] := by
  obtain ⟨A, n, c, e, -, hs⟩ := (ownR_lit w #[.int .u8 10, .int .u8 10] [(10, 10)] 1 rfl rfl (by decide)).s
  simp only [Value.slice.injEq] at e
  obtain ⟨rfl, rfl, rfl⟩ := e
  exact hs

set_option maxRecDepth 100000 in
set_option maxHeartbeats 12800000 in
theorem pset57 {W : World} {ok : Nat → Prop} {A : Option Addr} {n c : Nat} {l : List (UInt8 × UInt8)} (h : RgS W ok A n c l) (hn : n ≤ 1000) :
    Calls Tryz.prog 57 #[.slice A n c] W fun e w' => e = .returned (.tuple #[.string (osA (ofSet l)), .bool (osB (ofSet l))]) ∧ Below W.heap.size W w' := by
  have hnc := h.1
  have hcc := h.2.1
  have hll := h.2.2.1
  obtain ⟨x, hw0⟩ : ∃ w0, W.alloc (.cells #[.slice A n c] 22) = w0 := ⟨_, rfl⟩
  have hB0 : Below W.heap.size W x := by rw [← hw0]; exact bnew (Below.refl _ W) _
  have hc0 : x.cell? ⟨W.heap.size, 0, none⟩ = some (.slice A n c) := by rw [← hw0]; exact cell_of_one (heap_alloc_new W _)
  have hlt : W.heap.size < x.heap.size := by rw [← hw0]; simp
  have BB := hide hB0
  have hx := h.below hB0
  have HK := hide (show ∀ X, Below x.heap.size x X → X.cell? ⟨W.heap.size, 0, none⟩ = some (.slice A n c) ∧ Below x.heap.size x X from fun X hb => ⟨(hb.cell (p := ⟨W.heap.size, 0, none⟩) hlt).trans hc0, hb⟩)
  have HKs := hide (show ∀ X Y, (X.cell? ⟨W.heap.size, 0, none⟩ = some (.slice A n c) ∧ Below x.heap.size x X) → Below X.heap.size X Y → Y.cell? ⟨W.heap.size, 0, none⟩ = some (.slice A n c) ∧ Below x.heap.size x Y from fun X Y h hb => HK.out Y (bgo h.2 hb))
  have HK0 := hide (show ∀ X, (X.cell? ⟨W.heap.size, 0, none⟩ = some (.slice A n c) ∧ Below x.heap.size x X) → Below x.heap.size x X from fun X h => h.2)
  have HS0 := hide (bel_drew x)
  have HRg := hide (show ∀ X, Below x.heap.size x X → RgS X ok A n c l from fun X hb => hx.below hb)
  have HC1 := hide (show ∀ X, (X.cell? ⟨W.heap.size, 0, none⟩ = some (.slice A n c) ∧ Below x.heap.size x X) → Calls Tryz.prog 47 #[.func (.func 74) #[] #[.pointer (some ⟨W.heap.size, 0, none⟩)]] X (GotR X (rangesS l false)) from fun X h => by
    rw [← canon_in]
    exact canon47 74 _ (fun c => hasS l c) X run74 (fun W' c z hz hb' => clo74 c z hz W.heap.size (HK.out W' (bgo h.2 hb')).1 (HRg.out W' (bgo h.2 hb'))))
  have HC2 := hide (show ∀ X, Below x.heap.size x X → Calls Tryz.prog 47 #[.func (.func 75) #[] #[.pointer (some ⟨W.heap.size, 0, none⟩)]] X (GotR X (rangesS l true)) from fun X h => by
    rw [← canon_out]
    exact canon47 75 _ (fun c => !hasS l c) X run75 (fun W' c z hz hb' => clo75 c z hz W.heap.size (HK.out W' (bgo h hb')).1 (HRg.out W' (bgo h hb'))))
  clear h hx hB0
  cases hcan : decide (l = rangesS l false) with
  | false =>
    have e := os_bad (of_decide_eq_false hcan)
    have H1 := hide (show osA (ofSet l) = bs [] by rw [e]; rfl)
    have H2 := hide (show osB (ofSet l) = false by rw [e]; rfl)
    have HE := hide (show ∀ (X : World) (ok' : Nat → Prop) (A1 : Option Addr) (n1 c1 : Nat), Below x.heap.size x X → RgS X ok' A1 n1 c1 (rangesS l false) → Calls Tryz.prog 36 #[.slice A n c, .slice A1 n1 c1] X fun e w' => e = .returned (.bool false) ∧ Drawn X w' from fun X ok' A1 n1 c1 hb hr => equal36 (HRg.out X hb) hr false hcan)
    clear e hcan hll hc0 hlt
    go_enter Tryz.func57, Tryz.ntmps57
    go_wp2_with fail
    go_region_held3 (fun w' => w'.cell? ⟨W.heap.size, 0, none⟩ = some (.slice A n c) ∧ Below x.heap.size x w')
      (first | exact HK.out _ HS0.out | exact HKs.out _ _ (by assumption) hb4)
      (first
        | (go_at_call 47; with_reducible refine (HC1.out _ ?_).mono ?_; assumption; intro e w4 hg; obtain ⟨A1, n1, c1, rfl, -, hs1, hb4⟩ := hg.s)
        | (go_at_call 36; with_reducible refine (HE.out _ _ _ _ _ (HK0.out _ ?_) hs1).mono ?_; assumption; rintro e w5 ⟨rfl, hd⟩; have hb4 := DrawnBel hd))
    all_goals
      have Bf := bgo BB.out (HK0.out _ (by assumption))
      go_wp2
      go_ret2
      exact ⟨by rw [H1.out, H2.out]; rfl, Bf⟩
  | true =>
    have hc := of_decide_eq_true hcan
    have HE := hide (show ∀ (X : World) (ok' : Nat → Prop) (A1 : Option Addr) (n1 c1 : Nat), Below x.heap.size x X → RgS X ok' A1 n1 c1 (rangesS l false) → Calls Tryz.prog 36 #[.slice A n c, .slice A1 n1 c1] X fun e w' => e = .returned (.bool true) ∧ Drawn X w' from fun X ok' A1 n1 c1 hb hr => equal36 (HRg.out X hb) hr true hcan)
    have HP := hide (fun X (h : RgS X ok A n c l) => printable76 h (wrA l) rfl)
    have HT := hide (fun X (h : RgS X ok A n c l) => pranges78 h hn)
    obtain ⟨R, hR⟩ : ∃ R, osA (ofSet l) = R := ⟨_, rfl⟩
    obtain ⟨T, hT⟩ : ∃ T, osB (ofSet l) = T := ⟨_, rfl⟩
    rw [hR, hT]
    cases hone : oneByte l with
    | some a =>
      have e := os_one hc hone
      have hla : l = [(a, a)] ∧ writable a = true := by
        unfold oneByte at hone
        split at hone
        · split at hone
          · rename_i hab
            cases hone
            exact ⟨by rw [hab.1], hab.1 ▸ hab.2⟩
          · cases hone
        · cases hone
      obtain ⟨hla, hwa⟩ := hla
      have n1 : n = 1 := by rw [← hll, hla]; rfl
      subst n1
      have Hr := hide (show bs (quoted a special) = R ∧ true = T by rw [← hR, ← hT, e]; exact ⟨rfl, rfl⟩)
      have hwt : wrA l = true := by rw [hla]; unfold wrA; simp [hwa]
      rw [hwt] at HP
      have Q := hide (fun W => pbyte77 a (writ_low hwa) ⟨#[92, 46, 42, 43, 63, 40, 41, 91, 93, 123, 125, 124, 94, 36]⟩ W)
      have hget : l[0]? = some (a, a) := by rw [hla]; rfl
      obtain ⟨g, o, r, rfl, hr, x0, x1⟩ := (HRg.out x (Below.refl _ _)).at_ (show 0 < 1 by decide)
      rw [hget] at hr
      cases hr
      simp only [Nat.zero_mul, Nat.add_zero] at x0 x1
      have HKc := hide (show ∀ X, Below x.heap.size x X → X.cell? ⟨g, o, none⟩ = some (.int .u8 (a.toNat : Int)) ∧ X.cell? ⟨g, o + 1, none⟩ = some (.int .u8 (a.toNat : Int)) from fun X hb => ⟨(hb.cell (p := ⟨g, o, none⟩) (World.block_lt_of_cell? _ _ x0)).trans x0, (hb.cell (p := ⟨g, o + 1, none⟩) (World.block_lt_of_cell? _ _ x1)).trans x1⟩)
      have haa : ((a.toNat : Int) == (a.toNat : Int)) = true := by simp
      clear hc hone e hla hR hT hwa hget hll hwt hcan x0 x1 hc0 hlt
      go_enter Tryz.func57, Tryz.ntmps57
      go_wp2_with fail
      go_region_held3 (fun w' => w'.cell? ⟨W.heap.size, 0, none⟩ = some (.slice (some ⟨g, o, none⟩) 1 c) ∧ Below x.heap.size x w')
        (first | exact HK.out _ HS0.out | exact HKs.out _ _ (by assumption) hb4)
        (first
          | (go_at_call 47; with_reducible refine (HC1.out _ ?_).mono ?_; assumption; intro e w4 hg; obtain ⟨A1, n1, c1, rfl, -, hs1, hb4⟩ := hg.s)
          | (go_at_call 36; with_reducible refine (HE.out _ _ _ _ _ (HK0.out _ ?_) hs1).mono ?_; assumption; rintro e w5 ⟨rfl, hd⟩; have hb4 := DrawnBel hd))
      all_goals
        have hb5 := HK0.out _ (by assumption)
        obtain ⟨y, hy⟩ : ∃ y, y = w5 := ⟨_, rfl⟩
        subst hy
        have B5 := hide hb5
        have cb := (HK.out _ hb5).1
        clear hs1 hd hb4 hg
        go_wp2_with fail
        with_reducible refine (HC2.out _ B5.out).mono ?_
        intro e w6 hg6
        obtain ⟨A6, m, c6, rfl, -, hs6, hb6⟩ := hg6.s
        have B6 := hide (bgo B5.out hb6)
        clear hg6 hs6 hb6 cb hb5
        go_wp2_with fail
        obtain ⟨v, hv⟩ : ∃ v, v = w6 := ⟨_, rfl⟩
        subst hv
        have HL := hide (show ∀ X, Below x.heap.size x X → X.cell? ⟨W.heap.size, 0, none⟩ = some (.slice (some ⟨g, o, none⟩) 1 c) ∧ X.cell? ⟨g, o, none⟩ = some (.int .u8 (a.toNat : Int)) ∧ X.cell? ⟨g, o + 1, none⟩ = some (.int .u8 (a.toNat : Int)) ∧ Below x.heap.size x X from fun X hb => ⟨(HK.out X hb).1, (HKc.out X hb).1, (HKc.out X hb).2, hb⟩)
        have HLs := hide (show ∀ X Y, (X.cell? ⟨W.heap.size, 0, none⟩ = some (.slice (some ⟨g, o, none⟩) 1 c) ∧ X.cell? ⟨g, o, none⟩ = some (.int .u8 (a.toNat : Int)) ∧ X.cell? ⟨g, o + 1, none⟩ = some (.int .u8 (a.toNat : Int)) ∧ Below x.heap.size x X) → Below X.heap.size X Y → Y.cell? ⟨W.heap.size, 0, none⟩ = some (.slice (some ⟨g, o, none⟩) 1 c) ∧ Y.cell? ⟨g, o, none⟩ = some (.int .u8 (a.toNat : Int)) ∧ Y.cell? ⟨g, o + 1, none⟩ = some (.int .u8 (a.toNat : Int)) ∧ Below x.heap.size x Y from fun X Y h hb => HL.out Y (bgo h.2.2.2 hb))
        have HL0 := hide (show ∀ X, (X.cell? ⟨W.heap.size, 0, none⟩ = some (.slice (some ⟨g, o, none⟩) 1 c) ∧ X.cell? ⟨g, o, none⟩ = some (.int .u8 (a.toNat : Int)) ∧ X.cell? ⟨g, o + 1, none⟩ = some (.int .u8 (a.toNat : Int)) ∧ Below x.heap.size x X) → Below x.heap.size x X from fun X h => h.2.2.2)
        have HLv := hide (bgo B6.out (bel_drew v))
        go_region_held3 (fun w' => w'.cell? ⟨W.heap.size, 0, none⟩ = some (.slice (some ⟨g, o, none⟩) 1 c) ∧ w'.cell? ⟨g, o, none⟩ = some (.int .u8 (a.toNat : Int)) ∧ w'.cell? ⟨g, o + 1, none⟩ = some (.int .u8 (a.toNat : Int)) ∧ Below x.heap.size x w')
          (first | exact HL.out _ HLv.out | exact HLs.out _ _ (by assumption) hb9)
          (first
            | (go_at_call 76; with_reducible refine (HP.out _ (HRg.out _ (HL0.out _ ?_))).mono ?_; assumption; rintro e w9 ⟨rfl, hb9⟩))
        all_goals
          have hb10 := HL0.out _ (by assumption)
          have B10 := hide (bgo BB.out hb10)
          obtain ⟨d0, d1, d2, -⟩ := HL.out _ hb10
          clear hb10 hb9
          go_wp2_with fail
          with_reducible refine (Q.out _).mono ?_
          rintro e w11 ⟨rfl, rfl⟩
          go_wp2
          go_ret2
          exact ⟨by rw [← Hr.out.1, ← Hr.out.2]; rfl, B10.out⟩
    | none =>
      obtain ⟨D, hD⟩ : ∃ D, rangesS l true = D := ⟨_, rfl⟩
      have hreason := one_none hone
      have Hdot := hide (show D = [(10, 10)] → bs [46] = R ∧ true = T from fun h => by
        rw [← hR, ← hT, os_dot hc hone (hD.trans h)]
        exact ⟨rfl, rfl⟩)
      have Hset := hide (show ¬ D = [(10, 10)] → wrA l = true → (⟨#[91]⟩ : ByteArray) ++ rpA l ++ (⟨#[93]⟩ : ByteArray) = R ∧ true = T from fun h h3 => by
        obtain ⟨a, b⟩ := os_set hc hone (by rw [hD]; exact h) (by rw [rp_wr]; exact h3)
        exact ⟨by rw [← a, hR], by rw [← b, hT]⟩)
      have Hnot := hide (show ¬ D = [(10, 10)] → wrA l = false → wrA D = true → ¬ D = [] → (⟨#[91, 94]⟩ : ByteArray) ++ rpA D ++ (⟨#[93]⟩ : ByteArray) = R ∧ true = T from fun h h3 h4 h5 => by
        obtain ⟨a, b⟩ := (os_not hc hone (by rw [hD]; exact h) (by rw [rp_wr]; exact h3)).1 (by rw [hD, rp_wr]; exact h4) (by rw [hD]; exact h5)
        rw [hD] at a
        exact ⟨by rw [← a, hR], by rw [← b, hT]⟩)
      have Hnone := hide (show ¬ D = [(10, 10)] → wrA l = false → (wrA D = false ∨ D = []) → bs [] = R ∧ false = T from fun h h3 h4 => by
        have e := (os_not hc hone (by rw [hD]; exact h) (by rw [rp_wr]; exact h3)).2 (by rw [hD, rp_wr]; exact h4)
        rw [← hR, ← hT, e]
        exact ⟨rfl, rfl⟩)
      have hDl := ranges_len l true
      rw [hD] at hDl HC2
      have hsl := rpA_size l
      have hsD := rpA_size D
      have hrl : (rpA l).size ≤ 5000 := by omega
      have hrD : (rpA D).size ≤ 5000 := by omega
      obtain ⟨X0, hX⟩ : ∃ X, rpA l = X := ⟨_, rfl⟩
      obtain ⟨Y0, hY⟩ : ∃ Y, rpA D = Y := ⟨_, rfl⟩
      have HTl := hide (fun (hp : wrA l = true) X (h : RgS X ok A n c l) => show Calls Tryz.prog 78 #[.slice A n c] X fun e w' => e = .returned (.string X0) ∧ Below X.heap.size X w' by have := HT.out X h hp; rw [← rp_text hp, hX] at this; exact this)
      have HTD := hide (fun (hp : wrA D = true) X ok (A : Option Addr) (m c : Nat) (hm : m ≤ 256) (h : RgS X ok A m c D) => show Calls Tryz.prog 78 #[.slice A m c] X fun e w' => e = .returned (.string Y0) ∧ Below X.heap.size X w' by have := pranges78 h (by omega) hp; rw [← rp_text hp, hY] at this; exact this)
      have HPD := hide (fun X ok (A : Option Addr) (m c : Nat) (h : RgS X ok A m c D) => printable76 h (wrA D) rfl)
      obtain ⟨p, hp⟩ : ∃ p, wrA l = p := ⟨_, rfl⟩
      obtain ⟨q, hq⟩ : ∃ q, wrA D = q := ⟨_, rfl⟩
      rw [hX] at hrl Hset
      rw [hY] at hrD Hnot
      rw [hp] at Hset Hnot Hnone HP HTl
      rw [hq] at Hnot Hnone HPD HTD
      have HWl := hide hp
      have hX1 : ((⟨#[91]⟩ : ByteArray) ++ X0).size ≤ 5001 := by simp only [ByteArray.size_append]; have : (⟨#[91]⟩ : ByteArray).size = 1 := rfl; omega
      have hY1 : ((⟨#[91, 94]⟩ : ByteArray) ++ Y0).size ≤ 5002 := by simp only [ByteArray.size_append]; have : (⟨#[91, 94]⟩ : ByteArray).size = 2 := rfl; omega
      clear hR hT hone hc hD hX hY hp hq hsl hsD HT hcan hc0 hlt
      rcases hreason with hr | ⟨r1, r2, hr, hne⟩ | ⟨r1, hr, hw⟩
      · have hn1 : ((n : Int) == 1) = false := beq_eq_false_iff_ne.2 (by omega)
        clear hr hll
        go_enter Tryz.func57, Tryz.ntmps57
        go_wp2_with fail
        go_region_held3 (fun w' => w'.cell? ⟨W.heap.size, 0, none⟩ = some (.slice A n c) ∧ Below x.heap.size x w')
          (first | exact HK.out _ HS0.out | exact HKs.out _ _ (by assumption) hb4)
          (first
            | (go_at_call 47; with_reducible refine (HC1.out _ ?_).mono ?_; assumption; intro e w4 hg; obtain ⟨A1, n1, c1, rfl, -, hs1, hb4⟩ := hg.s)
            | (go_at_call 36; with_reducible refine (HE.out _ _ _ _ _ (HK0.out _ ?_) hs1).mono ?_; assumption; rintro e w5 ⟨rfl, hd⟩; have hb4 := DrawnBel hd))
        all_goals
          have hb5 := HK0.out _ (by assumption)
          obtain ⟨y, hy⟩ : ∃ y, y = w5 := ⟨_, rfl⟩
          subst hy
          have B5 := hide hb5
          have cb := (HK.out _ hb5).1
          clear hs1 hd hb4 hg
          go_wp2_with fail
          with_reducible refine (HC2.out _ B5.out).mono ?_
          intro e w6 hg6
          obtain ⟨A6, m, c6, rfl, hm, hs6, hb6⟩ := hg6.s
          have B6 := hide (bgo B5.out hb6)
          have D6 := hide hs6
          have Hm := hide hm
          have hmc := hs6.1
          have hmc2 := hs6.2.1
          have hm1 : m ≤ 256 := by omega
          clear hg6 hs6 hb6 cb hb5 hm
          obtain ⟨cb, -⟩ := HK.out _ B6.out
          go_wp2
          go_quiet (fail)
          obtain ⟨t, ht⟩ : ∃ t, t = w6.drewN nq := ⟨_, rfl⟩
          have hbt : Below w6.heap.size w6 t := by rw [ht]; exact Drawn.below ⟨nq, rfl⟩ _
          rw [← ht]
          have Bt := hide (bgo B6.out hbt)
          have Dt := hide (D6.out.below hbt)
          clear hbt ht cb
          have hba := bnew (Below.refl _ t) (.cells #[.int .u8 10, .int .u8 10] 48)
          have Da := hide (Dt.out.below hba)
          have Ba := hide (bgo Bt.out hba)
          obtain ⟨cb, -⟩ := HK.out _ Ba.out
          clear hba
          by_cases hdot : D = [(10, 10)]
          · have HE10 := hide (equal36 Da.out (lit10 t) true (decide_eq_true hdot))
            obtain ⟨hR, rfl⟩ := Hdot.out hdot
            have HR := hide hR
            clear hR hdot
            go_wp2_with fail
            with_reducible refine HE10.out.mono ?_
            rintro e w10 ⟨rfl, hd⟩
            have B10 := hide (bgo BB.out (bgo Ba.out (DrawnBel hd)))
            clear hd
            go_wp2
            go_ret2
            exact ⟨by rw [← HR.out]; rfl, B10.out⟩
          · have HE10 := hide (equal36 Da.out (lit10 t) false (decide_eq_false hdot))
            have Hdd := hide hdot
            clear hdot
            go_wp2_with fail
            with_reducible refine HE10.out.mono ?_
            rintro e w10 ⟨rfl, hd⟩
            have B10 := hide (bgo Ba.out (DrawnBel hd))
            have D10 := hide (Da.out.below (DrawnBel hd))
            clear hd cb
            obtain ⟨cb, -⟩ := HK.out _ B10.out
            go_wp2_with fail
            with_reducible refine (HP.out _ (HRg.out _ B10.out)).mono ?_
            rintro e w11 ⟨rfl, hb11⟩
            have B11 := hide (bgo B10.out hb11)
            have D11 := hide (D10.out.below hb11)
            clear hb11 cb
            obtain ⟨cb, -⟩ := HK.out _ B11.out
            cases p with
            | true =>
              obtain ⟨hR, rfl⟩ := Hset.out Hdd.out (by simp)
              have HR := hide hR
              clear hR
              go_wp2_with fail
              with_reducible refine (HTl.out (by simp) _ (HRg.out _ B11.out)).mono ?_
              rintro e w12 ⟨rfl, hb12⟩
              have B12 := hide (bgo BB.out (bgo B11.out hb12))
              clear hb12
              go_wp2
              go_ret2
              exact ⟨by rw [← HR.out]; rfl, B12.out⟩
            | false =>
              by_cases hm0 : 0 < m
              · have hm0' : (0 : Int) < (m : Int) := by omega
                go_wp2_with fail
                with_reducible refine (HPD.out _ _ _ _ _ D11.out).mono ?_
                rintro e w12 ⟨rfl, hb12⟩
                have B12 := hide (bgo B11.out hb12)
                have D12 := hide (D11.out.below hb12)
                clear hb12 cb
                cases q with
                | false =>
                  obtain ⟨hR, rfl⟩ := Hnone.out Hdd.out (by simp) (Or.inl (by simp))
                  have HR := hide hR
                  have B13 := hide (bgo BB.out B12.out)
                  clear hR
                  go_wp2
                  go_ret2
                  exact ⟨by rw [← HR.out]; rfl, B13.out⟩
                | true =>
                  obtain ⟨hR, rfl⟩ := Hnot.out Hdd.out (by simp) (by simp) (fun h => by rw [Hm.out, h] at hm0; simp at hm0)
                  have HR := hide hR
                  clear hR
                  go_wp2_with fail
                  with_reducible refine (HTD.out (by simp) _ _ _ _ _ hm1 D12.out).mono ?_
                  rintro e w13 ⟨rfl, hb13⟩
                  have B13 := hide (bgo BB.out (bgo B12.out hb13))
                  clear hb13
                  go_wp2
                  go_ret2
                  exact ⟨by rw [← HR.out]; rfl, B13.out⟩
              · have hm0' : ¬ (0 : Int) < (m : Int) := by omega
                obtain ⟨hR, rfl⟩ := Hnone.out Hdd.out (by simp) (Or.inr (List.eq_nil_of_length_eq_zero (by rw [← Hm.out]; omega)))
                have HR := hide hR
                have B13 := hide (bgo BB.out B11.out)
                clear hR
                go_wp2_with fail
                go_ret2
                exact ⟨by rw [← HR.out]; rfl, B13.out⟩
      · have n1 : n = 1 := by rw [← hll, hr]; rfl
        subst n1
        have hget : l[0]? = some (r1, r2) := by rw [hr]; rfl
        obtain ⟨g, o, r, rfl, hr0, x0, x1⟩ := (HRg.out x (Below.refl _ _)).at_ (show 0 < 1 by decide)
        rw [hget] at hr0
        cases hr0
        simp only [Nat.zero_mul, Nat.add_zero] at x0 x1
        have HKc := hide (show ∀ X, Below x.heap.size x X → X.cell? ⟨g, o, none⟩ = some (.int .u8 (r1.toNat : Int)) ∧ X.cell? ⟨g, o + 1, none⟩ = some (.int .u8 (r2.toNat : Int)) from fun X hb => ⟨(hb.cell (p := ⟨g, o, none⟩) (World.block_lt_of_cell? _ _ x0)).trans x0, (hb.cell (p := ⟨g, o + 1, none⟩) (World.block_lt_of_cell? _ _ x1)).trans x1⟩)
        have hne' : ((r1.toNat : Int) == (r2.toNat : Int)) = false := by rw [beq_eq_false_iff_ne]; intro e; exact hne (UInt8.toNat_inj.1 (by omega))
        clear hr hne hll hget x0 x1
        go_enter Tryz.func57, Tryz.ntmps57
        go_wp2_with fail
        go_region_held3 (fun w' => w'.cell? ⟨W.heap.size, 0, none⟩ = some (.slice (some ⟨g, o, none⟩) 1 c) ∧ Below x.heap.size x w')
          (first | exact HK.out _ HS0.out | exact HKs.out _ _ (by assumption) hb4)
          (first
            | (go_at_call 47; with_reducible refine (HC1.out _ ?_).mono ?_; assumption; intro e w4 hg; obtain ⟨A1, n1, c1, rfl, -, hs1, hb4⟩ := hg.s)
            | (go_at_call 36; with_reducible refine (HE.out _ _ _ _ _ (HK0.out _ ?_) hs1).mono ?_; assumption; rintro e w5 ⟨rfl, hd⟩; have hb4 := DrawnBel hd))
        all_goals
          have hb5 := HK0.out _ (by assumption)
          obtain ⟨y, hy⟩ : ∃ y, y = w5 := ⟨_, rfl⟩
          subst hy
          have B5 := hide hb5
          have cb := (HK.out _ hb5).1
          clear hs1 hd hb4 hg
          go_wp2_with fail
          with_reducible refine (HC2.out _ B5.out).mono ?_
          intro e w6 hg6
          obtain ⟨A6, m, c6, rfl, hm, hs6, hb6⟩ := hg6.s
          have B6 := hide (bgo B5.out hb6)
          have D6 := hide hs6
          have Hm := hide hm
          have hmc := hs6.1
          have hmc2 := hs6.2.1
          have hm1 : m ≤ 256 := by omega
          clear hg6 hs6 hb6 cb hb5 hm
          obtain ⟨cb, -⟩ := HK.out _ B6.out
          obtain ⟨k0, k1⟩ := HKc.out _ B6.out
          have l01 : (0 : Int) < 1 := by decide
          go_wp2
          go_quiet (fail)
          clear k0 k1
          obtain ⟨t, ht⟩ : ∃ t, t = w6.drewN nq := ⟨_, rfl⟩
          have hbt : Below w6.heap.size w6 t := by rw [ht]; exact Drawn.below ⟨nq, rfl⟩ _
          rw [← ht]
          have Bt := hide (bgo B6.out hbt)
          have Dt := hide (D6.out.below hbt)
          clear hbt ht cb
          have hba := bnew (Below.refl _ t) (.cells #[.int .u8 10, .int .u8 10] 48)
          have Da := hide (Dt.out.below hba)
          have Ba := hide (bgo Bt.out hba)
          obtain ⟨cb, -⟩ := HK.out _ Ba.out
          clear hba
          by_cases hdot : D = [(10, 10)]
          · have HE10 := hide (equal36 Da.out (lit10 t) true (decide_eq_true hdot))
            obtain ⟨hR, rfl⟩ := Hdot.out hdot
            have HR := hide hR
            clear hR hdot
            go_wp2_with fail
            with_reducible refine HE10.out.mono ?_
            rintro e w10 ⟨rfl, hd⟩
            have B10 := hide (bgo BB.out (bgo Ba.out (DrawnBel hd)))
            clear hd
            go_wp2
            go_ret2
            exact ⟨by rw [← HR.out]; rfl, B10.out⟩
          · have HE10 := hide (equal36 Da.out (lit10 t) false (decide_eq_false hdot))
            have Hdd := hide hdot
            clear hdot
            go_wp2_with fail
            with_reducible refine HE10.out.mono ?_
            rintro e w10 ⟨rfl, hd⟩
            have B10 := hide (bgo Ba.out (DrawnBel hd))
            have D10 := hide (Da.out.below (DrawnBel hd))
            clear hd cb
            obtain ⟨cb, -⟩ := HK.out _ B10.out
            go_wp2_with fail
            with_reducible refine (HP.out _ (HRg.out _ B10.out)).mono ?_
            rintro e w11 ⟨rfl, hb11⟩
            have B11 := hide (bgo B10.out hb11)
            have D11 := hide (D10.out.below hb11)
            clear hb11 cb
            obtain ⟨cb, -⟩ := HK.out _ B11.out
            cases p with
            | true =>
              obtain ⟨hR, rfl⟩ := Hset.out Hdd.out (by simp)
              have HR := hide hR
              clear hR
              go_wp2_with fail
              with_reducible refine (HTl.out (by simp) _ (HRg.out _ B11.out)).mono ?_
              rintro e w12 ⟨rfl, hb12⟩
              have B12 := hide (bgo BB.out (bgo B11.out hb12))
              clear hb12
              go_wp2
              go_ret2
              exact ⟨by rw [← HR.out]; rfl, B12.out⟩
            | false =>
              by_cases hm0 : 0 < m
              · have hm0' : (0 : Int) < (m : Int) := by omega
                go_wp2_with fail
                with_reducible refine (HPD.out _ _ _ _ _ D11.out).mono ?_
                rintro e w12 ⟨rfl, hb12⟩
                have B12 := hide (bgo B11.out hb12)
                have D12 := hide (D11.out.below hb12)
                clear hb12 cb
                cases q with
                | false =>
                  obtain ⟨hR, rfl⟩ := Hnone.out Hdd.out (by simp) (Or.inl (by simp))
                  have HR := hide hR
                  have B13 := hide (bgo BB.out B12.out)
                  clear hR
                  go_wp2
                  go_ret2
                  exact ⟨by rw [← HR.out]; rfl, B13.out⟩
                | true =>
                  obtain ⟨hR, rfl⟩ := Hnot.out Hdd.out (by simp) (by simp) (fun h => by rw [Hm.out, h] at hm0; simp at hm0)
                  have HR := hide hR
                  clear hR
                  go_wp2_with fail
                  with_reducible refine (HTD.out (by simp) _ _ _ _ _ hm1 D12.out).mono ?_
                  rintro e w13 ⟨rfl, hb13⟩
                  have B13 := hide (bgo BB.out (bgo B12.out hb13))
                  clear hb13
                  go_wp2
                  go_ret2
                  exact ⟨by rw [← HR.out]; rfl, B13.out⟩
              · have hm0' : ¬ (0 : Int) < (m : Int) := by omega
                obtain ⟨hR, rfl⟩ := Hnone.out Hdd.out (by simp) (Or.inr (List.eq_nil_of_length_eq_zero (by rw [← Hm.out]; omega)))
                have HR := hide hR
                have B13 := hide (bgo BB.out B11.out)
                clear hR
                go_wp2_with fail
                go_ret2
                exact ⟨by rw [← HR.out]; rfl, B13.out⟩
      · have n1 : n = 1 := by rw [← hll, hr]; rfl
        subst n1
        have hget : l[0]? = some (r1, r1) := by rw [hr]; rfl
        obtain ⟨g, o, r, rfl, hr0, x0, x1⟩ := (HRg.out x (Below.refl _ _)).at_ (show 0 < 1 by decide)
        rw [hget] at hr0
        cases hr0
        simp only [Nat.zero_mul, Nat.add_zero] at x0 x1
        have HKc := hide (show ∀ X, Below x.heap.size x X → X.cell? ⟨g, o, none⟩ = some (.int .u8 (r1.toNat : Int)) ∧ X.cell? ⟨g, o + 1, none⟩ = some (.int .u8 (r1.toNat : Int)) from fun X hb => ⟨(hb.cell (p := ⟨g, o, none⟩) (World.block_lt_of_cell? _ _ x0)).trans x0, (hb.cell (p := ⟨g, o + 1, none⟩) (World.block_lt_of_cell? _ _ x1)).trans x1⟩)
        have haa : ((r1.toNat : Int) == (r1.toNat : Int)) = true := by simp
        have hpf : p = false := by rw [← HWl.out, hr]; unfold wrA; simp [hw]
        subst hpf
        clear hr hw hll hget x0 x1
        go_enter Tryz.func57, Tryz.ntmps57
        go_wp2_with fail
        go_region_held3 (fun w' => w'.cell? ⟨W.heap.size, 0, none⟩ = some (.slice (some ⟨g, o, none⟩) 1 c) ∧ Below x.heap.size x w')
          (first | exact HK.out _ HS0.out | exact HKs.out _ _ (by assumption) hb4)
          (first
            | (go_at_call 47; with_reducible refine (HC1.out _ ?_).mono ?_; assumption; intro e w4 hg; obtain ⟨A1, n1, c1, rfl, -, hs1, hb4⟩ := hg.s)
            | (go_at_call 36; with_reducible refine (HE.out _ _ _ _ _ (HK0.out _ ?_) hs1).mono ?_; assumption; rintro e w5 ⟨rfl, hd⟩; have hb4 := DrawnBel hd))
        all_goals
          have hb5 := HK0.out _ (by assumption)
          obtain ⟨y, hy⟩ : ∃ y, y = w5 := ⟨_, rfl⟩
          subst hy
          have B5 := hide hb5
          have cb := (HK.out _ hb5).1
          clear hs1 hd hb4 hg
          go_wp2_with fail
          with_reducible refine (HC2.out _ B5.out).mono ?_
          intro e w6 hg6
          obtain ⟨A6, m, c6, rfl, hm, hs6, hb6⟩ := hg6.s
          have B6 := hide (bgo B5.out hb6)
          have D6 := hide hs6
          have Hm := hide hm
          have hmc := hs6.1
          have hmc2 := hs6.2.1
          have hm1 : m ≤ 256 := by omega
          clear hg6 hs6 hb6 cb hb5 hm
          obtain ⟨cb, -⟩ := HK.out _ B6.out
          clear cb
          go_wp2_with fail
          obtain ⟨v, hv⟩ : ∃ v, v = w6 := ⟨_, rfl⟩
          subst hv
          have HL := hide (show ∀ X, Below x.heap.size x X ∧ Below v.heap.size v X → X.cell? ⟨W.heap.size, 0, none⟩ = some (.slice (some ⟨g, o, none⟩) 1 c) ∧ X.cell? ⟨g, o, none⟩ = some (.int .u8 (r1.toNat : Int)) ∧ X.cell? ⟨g, o + 1, none⟩ = some (.int .u8 (r1.toNat : Int)) ∧ Below x.heap.size x X ∧ Below v.heap.size v X from fun X hb => ⟨(HK.out X hb.1).1, (HKc.out X hb.1).1, (HKc.out X hb.1).2, hb⟩)
          have HLs := hide (show ∀ X Y, (X.cell? ⟨W.heap.size, 0, none⟩ = some (.slice (some ⟨g, o, none⟩) 1 c) ∧ X.cell? ⟨g, o, none⟩ = some (.int .u8 (r1.toNat : Int)) ∧ X.cell? ⟨g, o + 1, none⟩ = some (.int .u8 (r1.toNat : Int)) ∧ Below x.heap.size x X ∧ Below v.heap.size v X) → Below X.heap.size X Y → Y.cell? ⟨W.heap.size, 0, none⟩ = some (.slice (some ⟨g, o, none⟩) 1 c) ∧ Y.cell? ⟨g, o, none⟩ = some (.int .u8 (r1.toNat : Int)) ∧ Y.cell? ⟨g, o + 1, none⟩ = some (.int .u8 (r1.toNat : Int)) ∧ Below x.heap.size x Y ∧ Below v.heap.size v Y from fun X Y h hb => HL.out Y ⟨bgo h.2.2.2.1 hb, bgo h.2.2.2.2 hb⟩)
          have HL0 := hide (show ∀ X, (X.cell? ⟨W.heap.size, 0, none⟩ = some (.slice (some ⟨g, o, none⟩) 1 c) ∧ X.cell? ⟨g, o, none⟩ = some (.int .u8 (r1.toNat : Int)) ∧ X.cell? ⟨g, o + 1, none⟩ = some (.int .u8 (r1.toNat : Int)) ∧ Below x.heap.size x X ∧ Below v.heap.size v X) → Below x.heap.size x X ∧ Below v.heap.size v X from fun X h => h.2.2.2)
          have HLv := hide (show Below x.heap.size x v.drew ∧ Below v.heap.size v v.drew from ⟨bgo B6.out (bel_drew v), bel_drew v⟩)
          go_region_held3 (fun w' => w'.cell? ⟨W.heap.size, 0, none⟩ = some (.slice (some ⟨g, o, none⟩) 1 c) ∧ w'.cell? ⟨g, o, none⟩ = some (.int .u8 (r1.toNat : Int)) ∧ w'.cell? ⟨g, o + 1, none⟩ = some (.int .u8 (r1.toNat : Int)) ∧ Below x.heap.size x w' ∧ Below v.heap.size v w')
            (first | exact HL.out _ HLv.out | exact HLs.out _ _ (by assumption) hb9)
            (first
              | (go_at_call 76; with_reducible refine (HP.out _ (HRg.out _ (HL0.out _ ?_).1)).mono ?_; assumption; rintro e w9 ⟨rfl, hb9⟩))
          all_goals
            have hb10 := (HL0.out _ (by assumption)).2
            clear hb9
            obtain ⟨cb, -⟩ := HK.out _ B6.out
            obtain ⟨t, ht⟩ : ∃ t, t = w9 := ⟨_, rfl⟩
            have hbt : Below v.heap.size v t := by rw [ht]; exact hb10
            rw [← ht]
            have Bt := hide (bgo B6.out hbt)
            have Dt := hide (D6.out.below hbt)
            clear hbt ht cb
            have hba := bnew (Below.refl _ t) (.cells #[.int .u8 10, .int .u8 10] 48)
            have Da := hide (Dt.out.below hba)
            have Ba := hide (bgo Bt.out hba)
            obtain ⟨cb, -⟩ := HK.out _ Ba.out
            clear hba
            by_cases hdot : D = [(10, 10)]
            · have HE10 := hide (equal36 Da.out (lit10 t) true (decide_eq_true hdot))
              obtain ⟨hR, rfl⟩ := Hdot.out hdot
              have HR := hide hR
              clear hR hdot
              go_wp2_with fail
              with_reducible refine HE10.out.mono ?_
              rintro e w10 ⟨rfl, hd⟩
              have B10 := hide (bgo BB.out (bgo Ba.out (DrawnBel hd)))
              clear hd
              go_wp2
              go_ret2
              exact ⟨by rw [← HR.out]; rfl, B10.out⟩
            · have HE10 := hide (equal36 Da.out (lit10 t) false (decide_eq_false hdot))
              have Hdd := hide hdot
              clear hdot
              go_wp2_with fail
              with_reducible refine HE10.out.mono ?_
              rintro e w10 ⟨rfl, hd⟩
              have B10 := hide (bgo Ba.out (DrawnBel hd))
              have D10 := hide (Da.out.below (DrawnBel hd))
              clear hd cb
              obtain ⟨cb, -⟩ := HK.out _ B10.out
              go_wp2_with fail
              with_reducible refine (HP.out _ (HRg.out _ B10.out)).mono ?_
              rintro e w11 ⟨rfl, hb11⟩
              have B11 := hide (bgo B10.out hb11)
              have D11 := hide (D10.out.below hb11)
              clear hb11 cb
              obtain ⟨cb, -⟩ := HK.out _ B11.out
              by_cases hm0 : 0 < m
              · have hm0' : (0 : Int) < (m : Int) := by omega
                go_wp2_with fail
                with_reducible refine (HPD.out _ _ _ _ _ D11.out).mono ?_
                rintro e w12 ⟨rfl, hb12⟩
                have B12 := hide (bgo B11.out hb12)
                have D12 := hide (D11.out.below hb12)
                clear hb12 cb
                cases q with
                | false =>
                  obtain ⟨hR, rfl⟩ := Hnone.out Hdd.out (by simp) (Or.inl (by simp))
                  have HR := hide hR
                  have B13 := hide (bgo BB.out B12.out)
                  clear hR
                  go_wp2
                  go_ret2
                  exact ⟨by rw [← HR.out]; rfl, B13.out⟩
                | true =>
                  obtain ⟨hR, rfl⟩ := Hnot.out Hdd.out (by simp) (by simp) (fun h => by rw [Hm.out, h] at hm0; simp at hm0)
                  have HR := hide hR
                  clear hR
                  go_wp2_with fail
                  with_reducible refine (HTD.out (by simp) _ _ _ _ _ hm1 D12.out).mono ?_
                  rintro e w13 ⟨rfl, hb13⟩
                  have B13 := hide (bgo BB.out (bgo B12.out hb13))
                  clear hb13
                  go_wp2
                  go_ret2
                  exact ⟨by rw [← HR.out]; rfl, B13.out⟩
              · have hm0' : ¬ (0 : Int) < (m : Int) := by omega
                obtain ⟨hR, rfl⟩ := Hnone.out Hdd.out (by simp) (Or.inr (List.eq_nil_of_length_eq_zero (by rw [← Hm.out]; omega)))
                have HR := hide hR
                have B13 := hide (bgo BB.out B11.out)
                clear hR
                go_wp2_with fail
                go_ret2
                exact ⟨by rw [← HR.out]; rfl, B13.out⟩

/-! ### NF -/

theorem pdig81 (m : Nat) (w : World) (h : m ≤ 9) : Calls Tryz.prog 81 #[.int .i64 (m : Int)] w fun e w' => e = .returned (.string (bs (digitsS (m : Int)))) ∧ Below w.heap.size w w' := by
  refine (Tryz.strconv_Itoa_small m (by omega) w).mono ?_
  rintro e w' ⟨rfl, rfl⟩
  have h1 : digitsS (m : Int) = [UInt8.ofNat (48 + m)] := by
    unfold digitsS
    rw [if_neg (by omega)]
    simp
  have h2 : Lib.decDigits m = [UInt8.ofNat (48 + m)] := by
    rw [Lib.decDigits, dif_pos (by omega)]
  exact ⟨by rw [h1, h2]; rfl, Below.refl _ _⟩
set_option maxRecDepth 20000 in
set_option maxHeartbeats 3200000 in
theorem prep59 (a b : Int) (h : boundsR a b = true) (w : World) : Calls Tryz.prog 59 #[.int .i64 a, .int .i64 b] w fun e w' => e = .returned (.string (bs (suffixS a b))) ∧ Below w.heap.size w w' := by
  unfold boundsR at h
  rw [decide_eq_true_eq] at h
  obtain ⟨h0, h8, h⟩ := h
  obtain ⟨m, rfl⟩ : ∃ m : Nat, a = (m : Int) := ⟨a.toNat, by omega⟩
  have hm : m ≤ 8 := by omega
  obtain ⟨R, hR⟩ : ∃ R, bs (suffixS (m : Int) b) = R := ⟨_, rfl⟩
  have dm := pdig81 m
  obtain ⟨D, hD⟩ : ∃ D, bs (digitsS (m : Int)) = D := ⟨_, rfl⟩
  have hDs : D.size = 1 := by
    rw [← hD, bs_size]
    unfold digitsS
    rw [if_neg (by omega)]
    rfl
  rw [hD] at dm
  have Dm := hide dm
  rw [hR]
  have hR' := hR
  unfold suffixS at hR
  by_cases hb1 : b = -1
  · have eb : (b == -1) = true := by rw [hb1]; rfl
    by_cases m0 : m = 0
    · have e0 : ((m : Int) == 0) = true := by rw [m0]; rfl
      rw [if_pos ⟨by omega, hb1⟩] at hR
      have Hr := hide hR
      clear h hR hR' hb1 m0 dm
      go_enter Tryz.func59, Tryz.ntmps59
      go_wp2_with fail
      go_ret
      exact ⟨by rw [← Hr.out]; rfl, Below.refl _ _⟩
    · have e0 : ((m : Int) == 0) = false := beq_eq_false_iff_ne.2 (by omega)
      by_cases m1 : m = 1
      · have e1 : ((m : Int) == 1) = true := by rw [m1]; rfl
        rw [if_neg (by omega), if_pos ⟨by omega, hb1⟩] at hR
        have Hr := hide hR
        clear h hR hR' hb1 m0 m1 dm
        go_enter Tryz.func59, Tryz.ntmps59
        go_wp2_with fail
        go_ret
        exact ⟨by rw [← Hr.out]; rfl, Below.refl _ _⟩
      · have e1 : ((m : Int) == 1) = false := beq_eq_false_iff_ne.2 (by omega)
        have em : (b == (m : Int)) = false := beq_eq_false_iff_ne.2 (by omega)
        rw [if_neg (by omega), if_neg (by omega), if_neg (by omega), if_neg (by omega), if_pos hb1] at hR
        have Hr := hide (show (⟨#[123]⟩ : ByteArray) ++ D ++ (⟨#[44, 125]⟩ : ByteArray) = R by
          rw [← hR, ← hD, show (⟨#[123]⟩ : ByteArray) = bs [123] from rfl, show (⟨#[44, 125]⟩ : ByteArray) = bs [44, 125] from rfl, bs_app, bs_app]
          rfl)
        clear h hR hR' hb1 m0 m1 dm hD
        go_enter Tryz.func59, Tryz.ntmps59
        go_wp2_with fail
        with_reducible refine (Dm.out _ (by omega)).mono ?_
        rintro e w2 ⟨rfl, hb2⟩
        have B2 := hide hb2
        clear hb2
        go_wp2_with fail
        go_ret
        exact ⟨by rw [← Hr.out]; rfl, B2.out⟩
  · have eb : (b == -1) = false := beq_eq_false_iff_ne.2 hb1
    obtain ⟨k, rfl⟩ : ∃ k : Nat, b = (k : Int) := ⟨b.toNat, by omega⟩
    have hk : k ≤ 8 := by omega
    have hk1 : 1 ≤ k := by omega
    have hmk : m ≤ k := by omega
    have dk := pdig81 k
    obtain ⟨E, hE⟩ : ∃ E, bs (digitsS (k : Int)) = E := ⟨_, rfl⟩
    have hEs : E.size = 1 := by
      rw [← hE, bs_size]
      unfold digitsS
      rw [if_neg (by omega)]
      rfl
    rw [hE] at dk
    have Dk := hide dk
    by_cases h01 : m = 0 ∧ k = 1
    · have e0 : ((m : Int) == 0) = true := by rw [h01.1]; rfl
      have e1 : ((k : Int) == 1) = true := by rw [h01.2]; rfl
      have e2 : ((m : Int) == 1) = false := by rw [h01.1]; rfl
      rw [if_neg (by omega), if_neg (by omega), if_pos ⟨by omega, by omega⟩] at hR
      have Hr := hide hR
      clear h hR hR' hb1 dm dk h01
      go_enter Tryz.func59, Tryz.ntmps59
      go_wp2_with fail
      go_ret
      exact ⟨by rw [← Hr.out]; rfl, Below.refl _ _⟩
    · by_cases hkm : k = m
      · have em : ((k : Int) == (m : Int)) = true := by rw [hkm]; simp
        rw [if_neg (by omega), if_neg (by omega), if_neg (by omega), if_pos (by omega)] at hR
        have Hr := hide (show (⟨#[123]⟩ : ByteArray) ++ D ++ (⟨#[125]⟩ : ByteArray) = R by
          rw [← hR, ← hD, show (⟨#[123]⟩ : ByteArray) = bs [123] from rfl, show (⟨#[125]⟩ : ByteArray) = bs [125] from rfl, bs_app, bs_app]
          rfl)
        have hm1 : ((m : Int) == 0) = false := beq_eq_false_iff_ne.2 (by omega)
        obtain ⟨q, hq⟩ : ∃ q, ((m : Int) == 1) = q := ⟨_, rfl⟩
        clear h hR hR' hb1 dm dk hD hE h01 hkm
        go_enter Tryz.func59, Tryz.ntmps59
        cases q
        all_goals
          go_wp2_with fail
          with_reducible refine (Dm.out _ (by omega)).mono ?_
          rintro e w2 ⟨rfl, hb2⟩
          have B2 := hide hb2
          clear hb2
          go_wp2_with fail
          go_ret
          exact ⟨by rw [← Hr.out]; rfl, B2.out⟩
      · have em : ((k : Int) == (m : Int)) = false := beq_eq_false_iff_ne.2 (by omega)
        rw [if_neg (by omega), if_neg (by omega), if_neg (by omega), if_neg (by omega), if_neg (by omega)] at hR
        have Hr := hide (show (⟨#[123]⟩ : ByteArray) ++ D ++ (⟨#[44]⟩ : ByteArray) ++ E ++ (⟨#[125]⟩ : ByteArray) = R by
          rw [← hR, ← hD, ← hE, show (⟨#[123]⟩ : ByteArray) = bs [123] from rfl, show (⟨#[44]⟩ : ByteArray) = bs [44] from rfl, show (⟨#[125]⟩ : ByteArray) = bs [125] from rfl, bs_app, bs_app, bs_app, bs_app]
          simp)
        have hcase : (((m : Int) == 0) = true ∧ ((m : Int) == 1) = false ∧ ((k : Int) == 1) = false) ∨ (((m : Int) == 0) = false ∧ ((m : Int) == 1) = true) ∨ (((m : Int) == 0) = false ∧ ((m : Int) == 1) = false) := by
          by_cases m0 : m = 0
          · exact Or.inl ⟨by rw [m0]; rfl, by rw [m0]; rfl, beq_eq_false_iff_ne.2 (by omega)⟩
          · by_cases m1 : m = 1
            · exact Or.inr (Or.inl ⟨beq_eq_false_iff_ne.2 (by omega), by rw [m1]; rfl⟩)
            · exact Or.inr (Or.inr ⟨beq_eq_false_iff_ne.2 (by omega), beq_eq_false_iff_ne.2 (by omega)⟩)
        clear h hR hR' hb1 dm dk hD hE h01 hkm
        go_enter Tryz.func59, Tryz.ntmps59
        rcases hcase with ⟨c1, c2, c3⟩ | ⟨c1, c2⟩ | ⟨c1, c2⟩
        all_goals
          go_wp2_with fail
          with_reducible refine (Dm.out _ (by omega)).mono ?_
          rintro e w2 ⟨rfl, hb2⟩
          have B2 := hide hb2
          clear hb2
          go_wp2_with fail
          with_reducible refine (Dk.out _ (by omega)).mono ?_
          rintro e w3 ⟨rfl, hb3⟩
          have B3 := hide (bgo B2.out hb3)
          clear hb3
          go_wp2_with fail
          go_ret
          exact ⟨by rw [← Hr.out]; rfl, B3.out⟩

def lv (k : Int) : Int := if k = 3 then 0 else if k = 2 then 1 else if k = 4 then 2 else 3
set_option maxRecDepth 20000 in
theorem level79 (k : Int) (W : World) : Calls Tryz.prog 79 #[.int .i64 k] W fun e w' => e = .returned (.int .i64 (lv k)) ∧ W = w' := by
  unfold lv
  by_cases h3 : k = 3
  · have e3 : (k == 3) = true := beq_iff_eq.2 h3
    rw [if_pos h3]
    clear h3
    go_enter Tryz.func79, Tryz.ntmps79
    go_wp2
    go_ret
    exact ⟨rfl, rfl⟩
  · have e3 : (k == 3) = false := beq_eq_false_iff_ne.2 h3
    rw [if_neg h3]
    by_cases h2 : k = 2
    · have e2 : (k == 2) = true := beq_iff_eq.2 h2
      rw [if_pos h2]
      clear h3 h2
      go_enter Tryz.func79, Tryz.ntmps79
      go_wp2
      go_ret
      exact ⟨rfl, rfl⟩
    · have e2 : (k == 2) = false := beq_eq_false_iff_ne.2 h2
      rw [if_neg h2]
      by_cases h4 : k = 4
      · have e4 : (k == 4) = true := beq_iff_eq.2 h4
        rw [if_pos h4]
        clear h3 h2 h4
        go_enter Tryz.func79, Tryz.ntmps79
        go_wp2
        go_ret
        exact ⟨rfl, rfl⟩
      · have e4 : (k == 4) = false := beq_eq_false_iff_ne.2 h4
        rw [if_neg h4]
        clear h3 h2 h4
        go_enter Tryz.func79, Tryz.ntmps79
        go_wp2
        go_ret
        exact ⟨rfl, rfl⟩
/-- The level of the parts of a kind, and what stands between them. -/
def Lev (o L : Int) (sep : List UInt8) : Prop := (o = 2 ∧ L = 2 ∧ sep = []) ∨ (o = 3 ∧ L = 1 ∧ sep = [124]) ∨ (o = 4 ∧ L = 3 ∧ sep = [])
theorem paren_lv {o L : Int} {sep : List UInt8} (h : Lev o L sep) (k : Int) : paren o k = decide (lv k < L) := by
  unfold paren lv
  rcases h with ⟨rfl, rfl, -⟩ | ⟨rfl, rfl, -⟩ | ⟨rfl, rfl, -⟩
  all_goals
    by_cases h3 : k = 3
    · simp [h3]
    · by_cases h2 : k = 2
      · simp [h2]
      · by_cases h4 : k = 4
        · simp [h4]
        · simp [h3, h2, h4]
/-- What printed does at an expression. -/
def PrC (x : Rx) : Prop := ∀ (W : World) (ok : Nat → Prop) (v : Value), RxV W ok v x → Calls Tryz.prog 41 #[v] W fun e w' =>
  ∃ X : ByteArray, e = .returned (.tuple #[.string X, .bool (osB (canR x))]) ∧ (∀ s, canR x = some s → X = bs s) ∧ X.size + 100 ≤ 1400 * sizeR x ∧ Below W.heap.size W w'
theorem infoS : (Tryz.prog.info? 9).map (fun i => (i.zero, i.size, i.bytes)) = some (some (.string ByteArray.empty), 1, 16) := by kernel_rfl
def strs (ts : List (List UInt8)) : List Value := ts.map fun t => .string (bs t)
theorem strs_app (a : List (List UInt8)) (t : List UInt8) : strs (a ++ [t]) = strs a ++ [.string (bs t)] := by simp [strs]
theorem strs_len (a : List (List UInt8)) : (strs a).length = a.length := by simp [strs]
theorem canL_len2 (o : Int) : ∀ (l : List Rx) (ts : List (List UInt8)), canL o l = some ts → ts.length = l.length
  | [], ts, h => by unfold canL at h; cases h; rfl
  | x :: l, ts, h => by
    unfold canL at h
    split at h
    · cases h
    · split at h
      · cases h
      · rename_i t ht
        cases h
        simp [canL_len2 o l t ht]
theorem map_bs : ∀ ts : List (List UInt8), (ts.map bs).map (·.data.toList) = ts
  | [] => rfl
  | t :: ts => by rw [List.map_cons, List.map_cons, bs_list, map_bs ts]
theorem join_len (sep : List UInt8) (hs : sep.length ≤ 1) : ∀ ts : List (List UInt8), (Lib.join ts sep).length ≤ (ts.map List.length).sum + ts.length
  | [] => by rw [Lib.join_nil]; simp
  | x :: ts => by
    rw [Lib.join_cons]
    have : ∀ ts : List (List UInt8), (Lib.joinTail sep ts).length ≤ (ts.map List.length).sum + ts.length := by
      intro ts
      induction ts with
      | nil => simp [Lib.joinTail]
      | cons y ts ih =>
        have e : Lib.joinTail sep (y :: ts) = sep ++ y ++ Lib.joinTail sep ts := by simp [Lib.joinTail]
        rw [e]
        simp only [List.length_append, List.map_cons, List.sum_cons, List.length_cons]
        omega
    have := this ts
    simp only [List.length_append, List.map_cons, List.sum_cons, List.length_cons]
    omega
theorem join_flat : ∀ ts : List (List UInt8), Lib.join ts [] = ts.flatten
  | [] => rfl
  | x :: ts => by rw [Lib.join_cons]; simp [Lib.joinTail]
theorem join_altJ : ∀ ts : List (List UInt8), Lib.join ts [124] = altJ ts
  | [] => rfl
  | [x] => by rw [Lib.join_one]; rfl
  | x :: y :: ts => by
    have ih := join_altJ (y :: ts)
    rw [Lib.join_cons] at ih ⊢
    show _ = x ++ 124 :: altJ (y :: ts)
    rw [← ih]
    simp [Lib.joinTail]

set_option maxRecDepth 100000 in
set_option maxHeartbeats 12800000 in
theorem joined58 {o L : Int} {sep : List UInt8} (hL : Lev o L sep) {W : World} {ok : Nat → Prop} {B : Option Addr} {m d : Nat} {l : List Rx} (h : SubsS W ok B m d l) (hm : m ≤ 10000) (hsz : sizeL l ≤ 10000) (hp : ∀ x ∈ l, PrC x) (S : ByteArray) (hS : S = bs sep) :
    Calls Tryz.prog 58 #[.slice B m d, .int .i64 L, .string S] W fun e w' => ∃ X : ByteArray, e = .returned (.tuple #[.string X, .bool (canL o l).isSome]) ∧ (∀ ts, canL o l = some ts → X = bs (Lib.join ts sep)) ∧ X.size ≤ 1400 * sizeL l ∧ Below W.heap.size W w' := by
  obtain ⟨i0, hi, hz0, hz1, hz2⟩ := info_parts infoS
  have hmd := h.1
  have hdd := h.2.1
  have Hlen := hide h.2.2.1
  have Hs := hide h
  have Hp := hide hp
  have HLv := hide hL
  have HSe := hide hS
  have Hsz := hide hsz
  clear h hp hL hS
  go_enter Tryz.func58, Tryz.ntmps58
  go_wp2
  go_loopw [8, 15] (fun u x wr => ∃ (i : Nat) (ts : List (List UInt8)), i ≤ m ∧ x = .int .i64 (i : Int) ∧ canL o (l.take i) = some ts ∧ Own wr W.heap.size 9 u (strs ts) ∧ (ts.map List.length).sum + ts.length ≤ 1400 * sizeL (l.take i) ∧ Below W.heap.size W wr) (fun _ x _ => m - (intOf x).toNat)
  case atStart => exact ⟨0, [], Nat.zero_le _, rfl, rfl, World.ownsRow_nil _ _ _ _, by simp, Below.refl _ _⟩
  case round =>
    obtain ⟨i, ts, hi1, rfl, hcan, ho, hsum, hbel⟩ := hrel
    obtain ⟨w3, hw3⟩ : ∃ w3, w3 = wr := ⟨wr, rfl⟩
    subst hw3
    obtain ⟨u, huu⟩ : ∃ u, u = u8 := ⟨u8, rfl⟩
    subst huu
    have hsz3 := hbel.size
    have B3 := hide hbel
    have hcl := canL_len2 _ _ _ hcan
    have Fl := hide (show (strs ts).length = i by rw [strs_len, hcl, List.length_take, Hlen.out]; omega)
    have Hsum := hide hsum
    by_cases hlt : i < m
    · have hlt' : (i : Int) < (m : Int) := by omega
      obtain ⟨x, g, o', q0, qA, qn, qc, q1, q2, qB, qm, qd, hxl, rfl, x0, x1, x2, x3, x4, rx⟩ := (Hs.out.below hbel).at_ hlt
      have hmem : x ∈ l := List.mem_of_getElem? hxl
      have hb5 := bnew (Below.refl _ w3) (.cells #[.int .i64 q0, .slice qA qn qc, .int .i64 q1, .int .i64 q2, .slice qB qm qd] 25)
      obtain ⟨w4, hw4⟩ : ∃ w4, w3.alloc (.cells #[.int .i64 q0, .slice qA qn qc, .int .i64 q1, .int .i64 q2, .slice qB qm qd] 25) = w4 := ⟨_, rfl⟩
      have hfv := five_new w3 (.int .i64 q0) (.slice qA qn qc) (.int .i64 q1) (.int .i64 q2) (.slice qB qm qd) 25
      rw [hw4] at hb5 hfv
      have F4 := hide hfv
      obtain ⟨-, y0, y1, y2, y3, y4⟩ := hfv
      have HC := Hp.out x hmem w4 ok _ (rx.kept hb5)
      have hkind : x.kind = q0 := by cases rx; rfl
      have hxs := sizeL_mem hmem
      have hst := sizeL_take l (i + 1)
      have hsa : sizeL (l.take (i + 1)) = sizeL (l.take i) + sizeR x := by rw [rx_take hxl, sizeL_app]
      have O4 := hide (ho.below hb5)
      have B4 := hide (bgo hbel hb5)
      have hszl := Hsz.out
      cases hcr : canR x with
      | none =>
        have hn : canL o l = none := canL_none o l x hmem hcr
        have Hn := hide hn
        have HC := hide (HC.mono (fun e w' h => (by obtain ⟨X, h1, -, -, h2⟩ := h; exact ⟨X, by rw [h1, hcr]; rfl, h2⟩ : ∃ X : ByteArray, e = .returned (.tuple #[.string X, .bool false]) ∧ Below w4.heap.size w4 w')))
        clear hxl rx hmem hcan ho hsum hbel hb5 hcl hxs hst hsa hkind hcr hn
        go_wp2_with fail
        with_reducible refine HC.out.mono ?_
        rintro e w5 ⟨X, rfl, hb⟩
        have B5 := hide (bgo B4.out hb)
        clear hb
        go_wp2
        go_ret2
        exact ⟨_, by rw [Hn.out]; rfl, fun ts h => (by rw [Hn.out] at h; cases h), by show (0 : Nat) ≤ _; omega, B5.out⟩
      | some s =>
        have HC' := hide (HC.mono (fun e w' h => (by obtain ⟨X, h1, h3, h4, h2⟩ := h; exact ⟨by rw [h1, hcr, h3 s hcr]; rfl, by rw [h3 s hcr, bs_size] at h4; exact h4, h2⟩ : e = .returned (.tuple #[.string (bs s), .bool true]) ∧ s.length + 100 ≤ 1400 * sizeR x ∧ Below w4.heap.size w4 w')))
        have Hap := hide (canL_app o _ _ x s hcan hcr)
        have HV := hide (fun W => level79 q0 W)
        have Hpl := paren_lv HLv.out q0
        have Htk := hide (rx_take hxl)
        have Hxs := hide (show sizeR x ≤ 10000 by omega)
        have Hsa := hide hsa
        obtain ⟨v, hv⟩ : ∃ v, lv q0 = v := ⟨_, rfl⟩
        rw [hv] at HV Hpl
        by_cases hvl : v < L
        · have hw : wrapP o x.kind s = 40 :: s ++ [41] := by unfold wrapP; rw [hkind, Hpl, decide_eq_true hvl, if_pos rfl]
          rw [hw, ← Htk.out] at Hap
          have Hbs := hide (show (⟨#[40]⟩ : ByteArray) ++ bs s ++ (⟨#[41]⟩ : ByteArray) = bs (40 :: s ++ [41]) by
            rw [show (⟨#[40]⟩ : ByteArray) = bs [40] from rfl, show (⟨#[41]⟩ : ByteArray) = bs [41] from rfl, bs_app, bs_app]; rfl)
          clear hxl rx hmem hcan ho hsum hbel hb5 hcl hxs hst hsa hkind hcr HC hw Hpl hv
          go_wp2_with fail
          with_reducible refine HC'.out.mono ?_
          rintro e w5 ⟨rfl, hsb, hb⟩
          have B5 := hide (bgo B4.out hb)
          have hB5 := B5.out.size
          have O5 := hide (O4.out.below hb)
          clear y0 y1 y2 y3 y4
          obtain ⟨-, y0, y1, y2, y3, y4⟩ := F4.out.keep hb
          have hs2 : (bs s).size ≤ 14000000 := by rw [bs_size]; have := Hxs.out; omega
          have hX1 : ((⟨#[40]⟩ : ByteArray) ++ bs s).size ≤ 14000001 := by simp only [ByteArray.size_append]; have : (⟨#[40]⟩ : ByteArray).size = 1 := rfl; omega
          have Hsb := hide hsb
          clear hb hsb
          go_wp2_with fail
          with_reducible refine (HV.out _).mono ?_
          rintro e w6 ⟨rfl, rfl⟩
          clear y0 y1 y2 y3 y4 x0 x1 x2 x3 x4
          go_wp2_with (first
            | (at_builtin; refine wp_push rfl (.tmp 34) (.tmp 36) 80 rfl 9 i0 _ 16 Tryz.underlying80 hi hz0 hz1 hz2 rfl W.heap.size u _ rfl w5 (.string ((⟨#[40]⟩ : ByteArray) ++ bs s ++ (⟨#[41]⟩ : ByteArray))) rfl O5.out.src hB5 _ rfl rfl (by rw [Fl.out]; omega) (by rw [Fl.out]; unfold maxLen; omega) ?_; intro v7 w7 hown7 hb7; rw [Hbs.out, ← strs_app] at hown7; have O7 := hide hown7; have B7 := hide (B5.out.trans hb7); clear hown7 hb7)
            | fail)
          go_roundw
          case rel => exact ⟨i + 1, ts ++ [40 :: s ++ [41]], by omega, by go_num, Hap.out, O7.out, by
            have h1 := Hsum.out
            have h2 := Hsb.out
            rw [Hsa.out]
            simp only [List.map_append, List.sum_append, List.map_cons, List.map_nil, List.sum_cons, List.sum_nil, List.length_append, List.length_cons, List.length_nil]
            omega, B7.out⟩
          case measure => simp [intOf]; omega
        · have hw : wrapP o x.kind s = s := by unfold wrapP; rw [hkind, Hpl, decide_eq_false hvl, if_neg (by simp)]
          rw [hw, ← Htk.out] at Hap
          clear hxl rx hmem hcan ho hsum hbel hb5 hcl hxs hst hsa hkind hcr HC hw Hpl hv
          go_wp2_with fail
          with_reducible refine HC'.out.mono ?_
          rintro e w5 ⟨rfl, hsb, hb⟩
          have B5 := hide (bgo B4.out hb)
          have hB5 := B5.out.size
          have O5 := hide (O4.out.below hb)
          clear y0 y1 y2 y3 y4
          obtain ⟨-, y0, y1, y2, y3, y4⟩ := F4.out.keep hb
          have Hsb := hide hsb
          clear hb hsb
          go_wp2_with fail
          with_reducible refine (HV.out _).mono ?_
          rintro e w6 ⟨rfl, rfl⟩
          clear y0 y1 y2 y3 y4 x0 x1 x2 x3 x4
          go_wp2_with (first
            | (at_builtin; refine wp_push rfl (.tmp 34) (.tmp 36) 80 rfl 9 i0 _ 16 Tryz.underlying80 hi hz0 hz1 hz2 rfl W.heap.size u _ rfl w5 (.string (bs s)) rfl O5.out.src hB5 _ rfl rfl (by rw [Fl.out]; omega) (by rw [Fl.out]; unfold maxLen; omega) ?_; intro v7 w7 hown7 hb7; rw [← strs_app] at hown7; have O7 := hide hown7; have B7 := hide (B5.out.trans hb7); clear hown7 hb7)
            | fail)
          go_roundw
          case rel => exact ⟨i + 1, ts ++ [s], by omega, by go_num, Hap.out, O7.out, by
            have h1 := Hsum.out
            have h2 := Hsb.out
            rw [Hsa.out]
            simp only [List.map_append, List.sum_append, List.map_cons, List.map_nil, List.sum_cons, List.sum_nil, List.length_append, List.length_cons, List.length_nil]
            omega, B7.out⟩
          case measure => simp [intOf]; omega
    · have hlt' : ¬ (i : Int) < (m : Int) := by omega
      rw [List.take_of_length_le (by rw [Hlen.out]; omega)] at hcan hsum
      have Hcan := hide hcan
      have hsep : sep.length ≤ 1 := by rcases HLv.out with ⟨-, -, rfl⟩ | ⟨-, -, rfl⟩ | ⟨-, -, rfl⟩ <;> simp
      have hjl := join_len sep hsep ts
      have hmap := map_bs ts
      have hSl : S.data.toList = sep := by rw [HSe.out, bs_list]
      have hJ : (∃ A n c, u = .slice A n c ∧ Calls Tryz.prog 80 #[.slice A n c, .string S] w3 fun e w' => e = .returned (.string (bs (Lib.join ts sep))) ∧ Below w3.heap.size w3 w') := by
        rcases ho.2 with ⟨rfl, h0⟩ | ⟨g, cap, cur, rfl, hb, hg, hc, hmx, r⟩
        · rw [strs_len] at h0
          obtain rfl : ts = [] := List.eq_nil_of_length_eq_zero h0
          refine ⟨none, 0, 0, rfl, (Tryz.strings_Join_none none 0 S w3).mono ?_⟩
          rintro e w' ⟨rfl, rfl⟩
          exact ⟨rfl, Below.refl _ _⟩
        · refine ⟨_, _, cap, rfl, ?_⟩
          have hj := Tryz.strings_Join g 0 cap (ts.map bs) S w3 (fun j x hx => by
            have hjl' := (List.getElem?_eq_some_iff.1 hx).1
            rw [List.length_map] at hjl'
            rw [Nat.zero_add, ho.cellAt j (by rw [strs_len]; omega)]
            unfold strs
            rw [List.getElem?_map] at hx ⊢
            cases ht : ts[j]? with
            | none => rw [ht] at hx; simp at hx
            | some t => rw [ht] at hx; simp at hx; simp [hx]) (lt_of_block hg) (by rw [List.length_map, hcl, List.length_take]; omega) (by rw [List.length_map]; rw [strs_len] at hc; exact hc) (by rw [hmap, hSl]; have := Hsz.out; omega)
          rw [hmap, hSl, List.length_map] at hj
          rw [strs_len]
          exact hj
      obtain ⟨A, n, c, rfl, hJ⟩ := hJ
      have HJ := hide hJ
      have Hb := hide (show (bs (Lib.join ts sep)).size ≤ 1400 * sizeL l by rw [bs_size]; omega)
      clear hcan ho hsum hbel hcl hjl hmap hSl hJ
      go_wp2_with fail
      with_reducible refine HJ.out.mono ?_
      rintro e w5 ⟨rfl, hb⟩
      have B5 := hide (bgo B3.out hb)
      clear hb
      go_wp2
      go_ret2
      exact ⟨_, by rw [Hcan.out]; rfl, fun ts' h => (by rw [Hcan.out] at h; cases h; rfl), Hb.out, B5.out⟩

/-! ### NG -/

theorem can1 (s : List (UInt8 × UInt8)) (a b : Int) (l : List Rx) : canR (.mk 1 s a b l) = ofSet s := by simp [canR]
theorem can2 (s : List (UInt8 × UInt8)) (a b : Int) (l : List Rx) (h : l.length ≠ 1) : canR (.mk 2 s a b l) = (canL 2 l).map fun ts => Lib.join ts [] := by
  unfold canR
  rw [if_neg (by decide), if_neg (by decide), if_neg (by decide), if_neg (by decide), if_neg (by decide), if_neg (fun e => h e.2)]
  cases canL 2 l with
  | none => rfl
  | some t => simp [join_flat]
theorem can2n (s : List (UInt8 × UInt8)) (a b : Int) (l : List Rx) (h : l.length = 1) : canR (.mk 2 s a b l) = none := by
  unfold canR
  rw [if_neg (by decide), if_neg (by decide), if_neg (by decide), if_neg (by decide), if_neg (by decide), if_pos ⟨rfl, h⟩]
theorem can3 (s : List (UInt8 × UInt8)) (a b : Int) (l : List Rx) : canR (.mk 3 s a b l) = (canL 3 l).map fun ts => Lib.join ts [124] := by
  unfold canR
  rw [if_neg (by decide), if_neg (by decide), if_neg (by decide), if_neg (by decide), if_neg (by decide), if_neg (by simp)]
  cases canL 3 l with
  | none => rfl
  | some t => simp [join_altJ]
theorem can4 (s : List (UInt8 × UInt8)) (a b : Int) (l : List Rx) (h : l.length = 1) : canR (.mk 4 s a b l) = (canL 4 l).map fun ts => Lib.join ts [] ++ suffixS a b := by
  obtain ⟨x, rfl⟩ := List.length_eq_one_iff.1 h
  unfold canR
  rw [if_neg (by decide), if_neg (by decide), if_neg (by decide), if_neg (by decide), if_pos rfl]
  unfold canL
  cases canR x with
  | none => rfl
  | some s =>
    simp only [canL, Option.map_some]
    rw [Lib.join_one]
theorem suf_len (a b : Int) : (suffixS a b).length ≤ 8 := by
  have hd : ∀ n : Int, (digitsS n).length ≤ 2 := by
    intro n
    unfold digitsS
    split <;> simp
  have h1 := hd a
  have h2 := hd b
  unfold suffixS
  repeat' split
  all_goals simp
  all_goals omega

set_option maxRecDepth 100000 in
set_option maxHeartbeats 12800000 in
theorem printed41 : ∀ (r : Rx), nodeR r = 0 → sizeR r ≤ 10000 → Tame r → PrC r := by
  intro r
  induction r using Rx.ind with
  | h k s a b l ih =>
    intro hnode hsz htame W ok v hv
    cases hv with
    | mk _ _ _ A B n c m d _ vs _ hset hvs hlen hk ha hb hr =>
    obtain ⟨hf, hbd, hsub⟩ := node_ok hnode
    obtain ⟨hk7, hkset, hle, hab, h4, h3, hl0⟩ := fields_of hf
    cases htame with
    | mk _ _ _ _ _ hs50 hlt =>
    have hnc := hset.1
    have hcc := hset.2.1
    have hsl := hset.2.2.1
    have hmd := hvs.1
    have hdd := hvs.2.1
    have hB := bnew (Below.refl _ W) (.cells #[.int .i64 k, .slice A n c, .int .i64 a, .int .i64 b, .slice B m d] 25)
    have BB := hide hB
    have F := hide (five_new W (.int .i64 k) (.slice A n c) (.int .i64 a) (.int .i64 b) (.slice B m d) 25)
    have S := hide (hset.below hB)
    have T := hide ((SubsS.of hvs hlen hr).below hB)
    have hone : 1400 ≤ 1400 * sizeR (.mk k s a b l) := by unfold sizeR; omega
    have Hsl : sizeR (.mk k s a b l) = 1 + sizeL l := rfl
    have hszl : sizeL l ≤ 10000 := by omega
    have hm : m ≤ 10000 := by have := sizeL_len l; omega
    have IH : ∀ x ∈ l, PrC x := fun x hx => ih x hx (hsub x hx) (by have := sizeL_mem hx; omega) (hlt x hx)
    have hn : n ≤ 1000 := by omega
    have Hos := hide (os_size s hs50)
    have Hmm := hide hlen
    obtain ⟨Z, hZ⟩ : ∃ Z, 1400 * sizeR (.mk k s a b l) = Z := ⟨_, rfl⟩
    have hZ2 : 1400 * sizeL l + 1400 = Z := by rw [← hZ, Hsl]; omega
    rw [hZ] at hone ⊢
    obtain ⟨_, t0, t1, t2, t3, t4⟩ := F.out
    have hconst : ∀ (t : List UInt8) (k' : Int), k = k' → (k' = 5 ∧ t = [94] ∨ k' = 6 ∧ t = [36] ∨ k' = 7 ∧ t = [92, 98]) → canR (.mk k s a b l) = some t := by
      rintro t k' rfl (⟨rfl, rfl⟩ | ⟨rfl, rfl⟩ | ⟨rfl, rfl⟩) <;> simp [canR]
    have hcases : k = 1 ∨ k = 2 ∨ k = 3 ∨ k = 4 ∨ k = 5 ∨ k = 6 ∨ k = 7 := by omega
    rcases hcases with rfl | rfl | rfl | rfl | rfl | rfl | rfl
    · rw [can1]
      have HC := hide (pset57 S.out hn)
      clear hset hvs hlen hr hB ih hnode hf hbd hsub hkset hle hab h4 h3 hl0 hlt hZ hconst IH hZ2
      go_enter Tryz.func41, Tryz.ntmps41
      go_wp2_with fail
      with_reducible refine HC.out.mono ?_
      rintro e w2 ⟨rfl, hb2⟩
      have B2 := hide (bgo BB.out hb2)
      clear hb2
      go_wp2
      go_ret2
      exact ⟨_, rfl, fun t ht => (by rw [ht]; rfl), by have := Hos.out; omega, B2.out⟩
    · by_cases h1 : l.length = 1
      · rw [can2n _ _ _ _ h1]
        have hm1 : ((m : Int) == 1) = true := by rw [← hlen, h1]; rfl
        clear hset hvs hlen hr hB ih hnode hf hbd hsub hkset hle hab h4 h3 hl0 hlt hZ hconst IH hZ2 h1
        go_enter Tryz.func41, Tryz.ntmps41
        go_wp2_with fail
        go_ret2
        exact ⟨_, rfl, fun t ht => (by cases ht), by show 0 + 100 ≤ _; omega, BB.out⟩
      · rw [can2 _ _ _ _ h1]
        have hm1 : ((m : Int) == 1) = false := beq_eq_false_iff_ne.2 (by omega)
        have HC := hide (joined58 (o := 2) (L := 2) (sep := []) (Or.inl ⟨rfl, rfl, rfl⟩) T.out hm hszl IH ⟨#[]⟩ rfl)
        clear hset hvs hlen hr hB ih hnode hf hbd hsub hkset hle hab h4 h3 hl0 hlt hZ hconst IH h1
        go_enter Tryz.func41, Tryz.ntmps41
        go_wp2_with fail
        with_reducible refine HC.out.mono ?_
        rintro e w2 ⟨X, rfl, hX, hXb, hb2⟩
        have B2 := hide (bgo BB.out hb2)
        have HX := hide hX
        have HXb := hide hXb
        have HZ2 := hide hZ2
        clear hb2 hX hXb hZ2
        go_wp2
        go_ret2
        exact ⟨X, by cases canL 2 l <;> rfl, fun t ht => by
          cases hcl : canL 2 l with
          | none => rw [hcl] at ht; cases ht
          | some ts => rw [hcl] at ht; cases ht; exact HX.out ts hcl, by have := HXb.out; have := HZ2.out; omega, B2.out⟩
    · rw [can3]
      have HC := hide (joined58 (o := 3) (L := 1) (sep := [124]) (Or.inr (Or.inl ⟨rfl, rfl, rfl⟩)) T.out hm hszl IH ⟨#[124]⟩ rfl)
      clear hset hvs hlen hr hB ih hnode hf hbd hsub hkset hle hab h4 h3 hl0 hlt hZ hconst IH
      go_enter Tryz.func41, Tryz.ntmps41
      go_wp2_with fail
      with_reducible refine HC.out.mono ?_
      rintro e w2 ⟨X, rfl, hX, hXb, hb2⟩
      have B2 := hide (bgo BB.out hb2)
      have HX := hide hX
      have HXb := hide hXb
      have HZ2 := hide hZ2
      clear hb2 hX hXb hZ2
      go_wp2
      go_ret2
      exact ⟨X, by cases canL 3 l <;> rfl, fun t ht => by
        cases hcl : canL 3 l with
        | none => rw [hcl] at ht; cases ht
        | some ts => rw [hcl] at ht; cases ht; exact HX.out ts hcl, by have := HXb.out; have := HZ2.out; omega, B2.out⟩
    · rw [can4 _ _ _ _ (h4 rfl)]
      have HC := hide (joined58 (o := 4) (L := 3) (sep := []) (Or.inr (Or.inr ⟨rfl, rfl, rfl⟩)) T.out hm hszl IH ⟨#[]⟩ rfl)
      have HP := hide (fun W => prep59 a b (hbd rfl) W)
      have hsf := suf_len a b
      have Happ := hide (fun t : List UInt8 => bs_app t (suffixS a b))
      obtain ⟨P, hP⟩ : ∃ P, bs (suffixS a b) = P := ⟨_, rfl⟩
      have hPs : P.size ≤ 8 := by rw [← hP, bs_size]; exact hsf
      rw [hP] at HP Happ
      clear hset hvs hlen hr hB ih hnode hf hbd hsub hkset hle hab h4 h3 hl0 hlt hZ hconst IH hP hsf
      go_enter Tryz.func41, Tryz.ntmps41
      go_wp2_with fail
      with_reducible refine HC.out.mono ?_
      rintro e w2 ⟨X, rfl, hX, hXb, hb2⟩
      have B2 := hide (bgo BB.out hb2)
      clear t0 t1 t2 t3 t4
      obtain ⟨_, t0, t1, t2, t3, t4⟩ := F.out.keep hb2
      have HX := hide hX
      have hXs : X.size ≤ 14000000 := by omega
      have HXb := hide hXb
      have HZ2 := hide hZ2
      have Hszx := hide (show (X ++ P).size = X.size + P.size from ByteArray.size_append)
      clear hb2 hX hXb hZ2
      go_wp2_with fail
      with_reducible refine (HP.out _).mono ?_
      rintro e w3 ⟨rfl, hb3⟩
      have B3 := hide (bgo B2.out hb3)
      clear hb3
      go_wp2
      go_ret2
      exact ⟨X ++ P, by cases canL 4 l <;> rfl, fun t ht => by
        cases hcl : canL 4 l with
        | none => rw [hcl] at ht; cases ht
        | some ts => rw [hcl] at ht; cases ht; rw [HX.out ts hcl, Happ.out], by have := HXb.out; have := HZ2.out; have := Hszx.out; omega, B3.out⟩
    · rw [hconst [94] 5 rfl (by simp)]
      clear hset hvs hlen hr hB ih hnode hf hbd hsub hkset hle hab h4 h3 hl0 hlt hZ hconst IH hZ2
      go_enter Tryz.func41, Tryz.ntmps41
      go_wp2_with fail
      go_ret2
      exact ⟨_, rfl, fun t ht => (by cases ht; rfl), by show 1 + 100 ≤ _; omega, BB.out⟩
    · rw [hconst [36] 6 rfl (by simp)]
      clear hset hvs hlen hr hB ih hnode hf hbd hsub hkset hle hab h4 h3 hl0 hlt hZ hconst IH hZ2
      go_enter Tryz.func41, Tryz.ntmps41
      go_wp2_with fail
      go_ret2
      exact ⟨_, rfl, fun t ht => (by cases ht; rfl), by show 1 + 100 ≤ _; omega, BB.out⟩
    · rw [hconst [92, 98] 7 rfl (by simp)]
      clear hset hvs hlen hr hB ih hnode hf hbd hsub hkset hle hab h4 h3 hl0 hlt hZ hconst IH hZ2
      go_enter Tryz.func41, Tryz.ntmps41
      go_wp2_with fail
      go_ret2
      exact ⟨_, rfl, fun t ht => (by cases ht; rfl), by show 2 + 100 ≤ _; omega, BB.out⟩

set_option maxRecDepth 100000 in
set_option maxHeartbeats 6400000 in
theorem pprint18 {W : World} {ok : Nat → Prop} {v : Value} {r : Rx} (hv : RxV W ok v r) (hs : sizeR r ≤ 1000000) (hd : depthR r ≤ 1000000) (ht : Tame r) :
    Calls Tryz.prog 18 #[v] W fun e w' => e = .returned (.tuple #[.string (bs (printS r).1), .int .i64 (printS r).2]) ∧ Below W.heap.size W w' := by
  have hv0 := hv
  cases hv with
  | mk k a b A B n c m d s vs l hset hvs hlen hk ha hb hr =>
  have hB := bnew (Below.refl _ W) (.cells #[.int .i64 k, .slice A n c, .int .i64 a, .int .i64 b, .slice B m d] 25)
  have BB := hide hB
  have F := hide (five_new W (.int .i64 k) (.slice A n c) (.int .i64 a) (.int .i64 b) (.slice B m d) 25)
  have V := hide (hv0.kept hB)
  obtain ⟨r, hr'⟩ : ∃ r, Rx.mk k s a b l = r := ⟨_, rfl⟩
  rw [hr'] at hv0 V hs hd ht ⊢
  have HR := hide (pright12 (V.out) hs hd)
  have Ht := hide ht
  clear hset hvs hr hB hlen hv0 hr' hk ha hb hs hd ht
  by_cases h0 : rightR r = 0
  · have hn : nodeR r = 0 ∧ sizeR r ≤ 10000 := by
      unfold rightR at h0
      split at h0
      · rename_i h
        refine ⟨h, ?_⟩
        split at h0
        · omega
        · omega
      · rename_i h
        exact absurd h0 h
    have HCan := hide (printed41 r hn.1 hn.2 Ht.out)
    have Hsz := hide hn.2
    have hp : printS r = (match canR r with | some s => if 300 < s.length then ([], 3) else (s, 0) | none => ([], 3)) := by unfold printS; rw [if_pos h0]; cases canR r <;> rfl
    rw [h0] at HR
    rw [hp]
    clear hn hp h0
    cases hc : canR r with
    | none =>
      have HC := hide (show ∀ (W : World) (ok : Nat → Prop) (v : Value), RxV W ok v r → Calls Tryz.prog 41 #[v] W fun e w' => ∃ X : ByteArray, e = .returned (.tuple #[.string X, .bool false]) ∧ Below W.heap.size W w' from fun W ok v h => (HCan.out W ok v h).mono (by
        rintro e w ⟨X, rfl, _, _, h2⟩
        exact ⟨X, by rw [hc]; rfl, h2⟩))
      clear hc HCan
      go_enter Tryz.func18, Tryz.ntmps18
      go_wp2_with fail
      with_reducible refine HR.out.mono ?_
      rintro e w2 ⟨rfl, hb2⟩
      have B2 := hide (bgo BB.out hb2)
      have V2 := hide (V.out.kept hb2)
      obtain ⟨_, t0, t1, t2, t3, t4⟩ := F.out.keep hb2
      clear hb2 V F
      go_wp2_with fail
      with_reducible refine (HC.out w2 ok _ V2.out).mono ?_
      rintro e w3 ⟨X, rfl, hb3⟩
      have B3 := hide (bgo B2.out hb3)
      clear hb3
      go_wp2
      go_ret2
      exact ⟨rfl, B3.out⟩
    | some s =>
      have HC := hide (show ∀ (W : World) (ok : Nat → Prop) (v : Value), RxV W ok v r → Calls Tryz.prog 41 #[v] W fun e w' => e = .returned (.tuple #[.string (bs s), .bool true]) ∧ Below W.heap.size W w' from fun W ok v h => (HCan.out W ok v h).mono (by
        rintro e w ⟨X, rfl, h1, _, h2⟩
        exact ⟨by rw [h1 s hc, hc]; rfl, h2⟩))
      obtain ⟨X, hX⟩ : ∃ X, bs s = X := ⟨_, rfl⟩
      have hXs : X.size = s.length := by rw [← hX, bs_size]
      rw [hX] at HC
      clear hc HCan
      by_cases hbig : 300 < s.length
      · have hb2 : (300 : Int) < (X.size : Int) := by omega
        simp only [if_pos hbig]
        clear hXs hX hbig
        go_enter Tryz.func18, Tryz.ntmps18
        go_wp2_with fail
        with_reducible refine HR.out.mono ?_
        rintro e w2 ⟨rfl, hb2⟩
        have B2 := hide (bgo BB.out hb2)
        have V2 := hide (V.out.kept hb2)
        obtain ⟨_, t0, t1, t2, t3, t4⟩ := F.out.keep hb2
        clear hb2 V F
        go_wp2_with fail
        with_reducible refine (HC.out w2 ok _ V2.out).mono ?_
        rintro e w3 ⟨rfl, hb3⟩
        have B3 := hide (bgo B2.out hb3)
        clear hb3
        go_wp2
        go_ret2
        exact ⟨rfl, B3.out⟩
      · have hb2 : ¬ (300 : Int) < (X.size : Int) := by omega
        simp only [if_neg hbig, hX]
        clear hXs hX hbig
        go_enter Tryz.func18, Tryz.ntmps18
        go_wp2_with fail
        with_reducible refine HR.out.mono ?_
        rintro e w2 ⟨rfl, hb2⟩
        have B2 := hide (bgo BB.out hb2)
        have V2 := hide (V.out.kept hb2)
        obtain ⟨_, t0, t1, t2, t3, t4⟩ := F.out.keep hb2
        clear hb2 V F
        go_wp2_with fail
        with_reducible refine (HC.out w2 ok _ V2.out).mono ?_
        rintro e w3 ⟨rfl, hb3⟩
        have B3 := hide (bgo B2.out hb3)
        clear hb3
        go_wp2
        go_ret2
        exact ⟨rfl, B3.out⟩
  · have hp : printS r = ([], rightR r) := by unfold printS; rw [if_neg h0]
    rw [hp]
    obtain ⟨y, hy⟩ : ∃ y, rightR r = y := ⟨_, rfl⟩
    rw [hy] at HR h0 ⊢
    have hy0 := int_ne h0
    clear hp hy h0
    go_enter Tryz.func18, Tryz.ntmps18
    go_wp2_with fail
    with_reducible refine HR.out.mono ?_
    rintro e w2 ⟨rfl, hb2⟩
    have B2 := hide (bgo BB.out hb2)
    clear hb2 V F
    go_wp2
    go_ret2
    exact ⟨rfl, B2.out⟩

end Go.Proofs.YtmiegjefmebpdaaGreatDoor
