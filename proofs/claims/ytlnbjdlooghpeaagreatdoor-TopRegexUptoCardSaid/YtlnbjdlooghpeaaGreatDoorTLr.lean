/- TopRegex: Lq, Lr, Lt. -/
import Derived.Test.YtlnbjdlooghpeaaGreatDoorTTri
import Derived.Test.YtlnbjdlooghpeaaGreatDoorTNg
import Derived.Test.YtlnbjdlooghpeaaGreatDoorTZh
import Derived.Test.YtlnbjdlooghpeaaGreatDoorTRy
import Derived.Test.YtlnbjdlooghpeaaGreatDoorTTk
import Derived.Test.YtlnbjdlooghpeaaGreatDoorTLz
import Derived.Deep.RegionHeld3
import Derived.Test.YtlnbjdlooghpeaaGreatDoorTLo
import Derived.Test.YtlnbjdlooghpeaaGreatDoorTLy
namespace Go.Proofs.YtlnbjdlooghpeaaGreatDoor
open Go.RowKit
theorem sound_of {r : Rx} {s : List UInt8} (h : matchA r s = true) : evalS (needS r) (ofS s) = true := by
  unfold matchA at h
  rw [Bool.and_eq_true, decide_eq_true_eq, decide_eq_true_eq] at h
  obtain ⟨hr, hm⟩ := h
  obtain ⟨j, hj⟩ := mask_some hm
  obtain ⟨i, hi, hij⟩ := (stepC_at r s (right_node hr).1 _ (all_len _) j).1 hj
  exact need_sound hr s i j ((all_on _ _).1 hi) hij
theorem ofS_wf (s : List UInt8) : WfL (ofS s) := fun z hz => by
  obtain ⟨i, -, rfl⟩ := (mem_of s z).1 hz
  have := tri_lt s i
  exact WalkArith.wf_i64 (by omega)
theorem need_szN (r : Rx) : sizeN (needS r) ≤ 1000000 := by
  by_cases h : rightR r = 0
  · have := need_size h
    omega
  · unfold needS
    rw [if_neg h, sizeN_mk]
    simp [sizeNL]
end Go.Proofs.YtlnbjdlooghpeaaGreatDoor
namespace Go.Proofs.YtlnbjdlooghpeaaGreatDoor
def plainC (c : UInt8) : Bool := decide (c = 32) || (decide (48 ≤ c) && decide (c ≤ 57)) || (decide (97 ≤ c) && decide (c ≤ 122)) || (decide (65 ≤ c) && decide (c ≤ 90))
def byteE (c : UInt8) : Rx := .mk 1 [(c, c)] 0 0 []
def litE : List UInt8 → Rx
  | [c] => byteE c
  | l => .mk 2 [] 0 0 (l.map byteE)
theorem litE_two {c d : UInt8} {l : List UInt8} : litE (c :: d :: l) = .mk 2 [] 0 0 ((c :: d :: l).map byteE) := rfl
theorem byte_all : ∀ n : Fin 256, plainC (UInt8.ofNat n.val) = true → ofSet [(UInt8.ofNat n.val, UInt8.ofNat n.val)] = some [UInt8.ofNat n.val] := by decide +kernel
theorem byte_set {c : UInt8} (h : plainC c = true) : ofSet [(c, c)] = some [c] := by
  have h1 := byte_all ⟨c.toNat, c.toNat_lt⟩
  simp only [UInt8.ofNat_toNat] at h1
  exact h1 h
theorem byte_node (c : UInt8) : nodeR (byteE c) = 0 := by
  unfold byteE nodeR
  have h : fieldsR (.mk 1 [(c, c)] 0 0 []) = true := by simp [fieldsR]
  rw [if_neg (by rw [h]; simp), if_neg (by omega), nodeL]
theorem byte_can {c : UInt8} (h : plainC c = true) : canR (byteE c) = some [c] := by
  unfold byteE canR
  rw [if_pos rfl]
  exact byte_set h
theorem lit_nodes : ∀ l : List UInt8, nodeL (l.map byteE) = 0
  | [] => by rw [List.map_nil, nodeL]
  | c :: l => by rw [List.map_cons, nodeL, if_pos (byte_node c), lit_nodes l]
theorem lit_sizes : ∀ l : List UInt8, sizeL (l.map byteE) = l.length
  | [] => by rw [List.map_nil, sizeL]; rfl
  | c :: l => by
    rw [List.map_cons, sizeL, lit_sizes l]
    simp [byteE, sizeR, sizeL]
    omega
theorem lit_depths : ∀ l : List UInt8, depthL (l.map byteE) ≤ 1
  | [] => by rw [List.map_nil, depthL]; omega
  | c :: l => by
    have := lit_depths l
    rw [List.map_cons, depthL]
    simp [byteE, depthR, depthL]
    omega
theorem lit_right {l : List UInt8} (hl : l.length ≤ 30) : rightR (litE l) = 0 := by
  have two : ∀ m : List UInt8, m.length ≤ 30 → rightR (.mk 2 [] 0 0 (m.map byteE)) = 0 := by
    intro m hm
    have hn : nodeR (.mk 2 [] 0 0 (m.map byteE)) = 0 := by
      unfold nodeR
      have h : fieldsR (.mk 2 [] 0 0 (m.map byteE)) = true := by simp [fieldsR]
      rw [if_neg (by rw [h]; simp), if_neg (by omega), lit_nodes]
    unfold rightR
    rw [if_pos hn, if_neg]
    have h1 := lit_sizes m
    have h2 := lit_depths m
    unfold sizeR depthR
    omega
  match l, hl with
  | [], hl => exact two [] hl
  | [c], _ =>
    show rightR (byteE c) = 0
    unfold rightR
    rw [if_pos (byte_node c), if_neg]
    simp [byteE, sizeR, sizeL, depthR, depthL]
  | c :: d :: l, hl => exact two (c :: d :: l) hl
theorem lit_cans : ∀ l : List UInt8, (∀ c ∈ l, plainC c = true) → canL 2 (l.map byteE) = some (l.map fun c => [c])
  | [], _ => by rw [List.map_nil, canL]; rfl
  | c :: l, h => by
    rw [List.map_cons, canL, byte_can (h c (by simp))]
    simp only
    rw [lit_cans l fun x hx => h x (List.mem_cons_of_mem _ hx)]
    rfl
theorem flat_one : ∀ l : List UInt8, (l.map fun c => [c]).flatten = l
  | [] => rfl
  | c :: l => by rw [List.map_cons, List.flatten_cons, flat_one l]; rfl
theorem lit_can {l : List UInt8} (hne : l ≠ []) (h : ∀ c ∈ l, plainC c = true) : canR (litE l) = some l := by
  match l, hne, h with
  | [c], _, h => exact byte_can (h c (by simp))
  | c :: d :: l, _, h =>
    rw [litE_two]
    unfold canR
    rw [if_neg (by omega), if_neg (by omega), if_neg (by omega), if_neg (by omega), if_neg (by omega), if_neg (by simp), lit_cans _ h]
    simp only
    rw [if_neg (by omega), flat_one]
theorem lit_parse {l : List UInt8} (hne : l ≠ []) (hl : l.length ≤ 30) (h : ∀ c ∈ l, plainC c = true) : parseS l = (litE l, 0) := by
  refine (print_back (litE l) l ?_).1
  unfold printS
  rw [if_pos (lit_right hl), lit_can hne h]
  simp only
  rw [if_neg (by omega)]
theorem byte_has (c x : UInt8) : hasS [(c, c)] x = true ↔ x = c := by
  rw [has_one, Bool.and_eq_true, decide_eq_true_eq, decide_eq_true_eq]
  exact ⟨fun h => UInt8.toNat_inj.1 (by omega), fun h => by subst h; omega⟩
theorem mt_byte (c : UInt8) (s : List UInt8) (i j : Nat) : mtR (byteE c) s i j ↔ s[i]? = some c ∧ j = i + 1 := by
  unfold byteE mtR
  rw [if_neg (by omega), if_neg (by omega), if_neg (by omega), if_pos rfl]
  constructor
  · rintro ⟨x, h1, h2, h3⟩
    rw [(byte_has c x).1 h2] at h1
    exact ⟨h1, h3⟩
  · rintro ⟨h1, h2⟩
    exact ⟨c, h1, (byte_has c c).2 rfl, h2⟩
theorem mt_bytes (s : List UInt8) : ∀ (l : List UInt8) (i j : Nat), mtCat (l.map byteE) s i j ↔ (∀ k, k < l.length → s[i + k]? = l[k]?) ∧ j = i + l.length
  | [], i, j => by
    rw [List.map_nil, mtCat]
    exact ⟨fun h => ⟨fun k hk => by simp at hk, by simp; omega⟩, fun h => by have := h.2; simp at this; omega⟩
  | c :: l, i, j => by
    rw [List.map_cons, mtCat]
    constructor
    · rintro ⟨m, h1, h2⟩
      obtain ⟨h3, rfl⟩ := (mt_byte c s i m).1 h1
      obtain ⟨h4, h5⟩ := (mt_bytes s l (i + 1) j).1 h2
      refine ⟨fun k hk => ?_, by rw [List.length_cons]; omega⟩
      cases k with
      | zero => exact h3
      | succ k =>
        rw [List.getElem?_cons_succ, ← h4 k (by rw [List.length_cons] at hk; omega)]
        congr 1
        omega
    · rintro ⟨h1, h2⟩
      refine ⟨i + 1, (mt_byte c s i _).2 ⟨h1 0 (by simp), rfl⟩, (mt_bytes s l (i + 1) j).2 ⟨fun k hk => ?_, by rw [List.length_cons] at h2; omega⟩⟩
      have := h1 (k + 1) (by rw [List.length_cons]; omega)
      rw [List.getElem?_cons_succ] at this
      rw [← this]
      congr 1
      omega
theorem mt_lit {l : List UInt8} (hne : l ≠ []) (s : List UInt8) (i j : Nat) : mtR (litE l) s i j ↔ (∀ k, k < l.length → s[i + k]? = l[k]?) ∧ j = i + l.length := by
  match l, hne with
  | [c], _ =>
    rw [show litE [c] = byteE c from rfl, mt_byte]
    constructor
    · rintro ⟨h1, h2⟩
      refine ⟨fun k hk => ?_, h2⟩
      obtain rfl : k = 0 := by simp at hk; omega
      exact h1
    · rintro ⟨h1, h2⟩
      exact ⟨h1 0 (by simp), h2⟩
  | c :: d :: l, _ =>
    rw [litE_two, ← mt_bytes]
    rw [mtR, if_pos rfl]
theorem occ_lit {l : List UInt8} (hne : l ≠ []) (s : List UInt8) (i : Nat) : Occ false s l i ↔ mtR (litE l) s i (i + l.length) := by
  rw [mt_lit hne]
  have hpos : 0 < l.length := List.length_pos_iff.2 hne
  unfold Occ fbL
  constructor
  · rintro ⟨h1, h2⟩
    refine ⟨fun k hk => ?_, rfl⟩
    have h3 := h2 k hk
    simp only [Bool.false_eq_true, if_false] at h3
    have e1 : s[i + k]? = some s[i + k] := List.getElem?_eq_getElem (by omega)
    have e2 : l[k]? = some l[k] := List.getElem?_eq_getElem hk
    rw [List.getD_eq_getElem?_getD, List.getD_eq_getElem?_getD, e1, e2] at h3
    rw [e1, e2]
    exact congrArg some (UInt8.toNat_inj.1 h3)
  · rintro ⟨h1, -⟩
    have hk := h1 (l.length - 1) (by omega)
    rw [List.getElem?_eq_getElem (show l.length - 1 < l.length by omega)] at hk
    have := (List.getElem?_eq_some_iff.1 hk).1
    refine ⟨by omega, fun k hk => ?_⟩
    simp only [Bool.false_eq_true, if_false]
    rw [List.getD_eq_getElem?_getD, List.getD_eq_getElem?_getD, h1 k hk]
theorem find_mem {l s : List UInt8} (hne : l ≠ []) (x : Int) : x ∈ findS false s l ↔ ∃ k : Nat, k ≤ s.length ∧ mtR (litE l) s k (k + l.length) ∧ x = (k : Int) := by
  unfold findS
  rw [mem_findN]
  constructor
  · rintro ⟨k, h1, h2, h3⟩
    exact ⟨k, by omega, (occ_lit hne s k).1 h2, h3⟩
  · rintro ⟨k, h1, h2, h3⟩
    exact ⟨k, by omega, (occ_lit hne s k).2 h2, h3⟩
theorem lit_none {l s : List UInt8} (hne : l ≠ []) (h : findS false s l = []) : matchA (litE l) s = false := by
  cases hm : matchA (litE l) s with
  | false => rfl
  | true =>
    unfold matchA at hm
    rw [Bool.and_eq_true, decide_eq_true_eq, decide_eq_true_eq] at hm
    obtain ⟨hr, hm⟩ := hm
    obtain ⟨j, hj⟩ := mask_some hm
    obtain ⟨i, hi, hij⟩ := (stepC_at (litE l) s (right_nodeB hr).1 _ (all_len _) j).1 hj
    have hi' := (all_on _ _).1 hi
    have h2 := (mt_lit hne s i j).1 hij
    rw [h2.2] at hij
    have := (find_mem hne (s := s) (i : Int)).2 ⟨i, hi', hij, rfl⟩
    rw [h] at this
    cases this
theorem lit_some_at {l s : List UInt8} (hne : l ≠ []) (hl : l.length ≤ 30) {x : Int} {xs : List Int} (h : findS false s l = x :: xs) :
    ∃ a : Nat, x = (a : Int) ∧ a + l.length ≤ s.length ∧ findP (litE l) s 0 = some (a, a + l.length) ∧ mtR (litE l) s a (a + l.length) := by
  have hr := lit_right hl
  have hn := (right_nodeB hr).1
  obtain ⟨k, hk, hmk, hxk⟩ := (find_mem hne (s := s) x).1 (by rw [h]; simp)
  have hk2 := (mt_le (litE l) s k _ hk hmk).2
  have hP : findP (litE l) s 0 = findN (litE l) s (s.length + 1) 0 := by
    unfold findP
    rw [if_pos ⟨hr, by omega⟩]
    rfl
  cases hf : findN (litE l) s (s.length + 1) 0 with
  | none =>
    have h1 := findN_none (litE l) s _ _ hf k (Nat.zero_le _) (by omega)
    have h2 := (endsC_mem (litE l) s hn k hk (k + l.length)).2 hmk
    rw [h1] at h2
    cases h2
  | some p =>
    obtain ⟨a, b⟩ := p
    obtain ⟨-, ha, hb, hq⟩ := findN_some (litE l) s _ _ a b hf
    have hbm := (endsC_mem (litE l) s hn a (by omega) b).1 (List.mem_of_getLast? hb)
    have hb2 := ((mt_lit hne s a b).1 hbm).2
    subst hb2
    have hka : a ≤ k := by
      apply Classical.byContradiction
      intro hlt
      have h1 := hq k (Nat.zero_le _) (by omega)
      have h2 := (endsC_mem (litE l) s hn k hk (k + l.length)).2 hmk
      rw [h1] at h2
      cases h2
    have hmem : (a : Int) ∈ x :: xs := by rw [← h]; exact (find_mem hne (s := s) _).2 ⟨a, by omega, hbm, rfl⟩
    have hup : Up (x :: xs) := by rw [← h]; exact up_findN _ _ _ _
    have hxa : x ≤ (a : Int) := by
      rcases List.mem_cons.1 hmem with e | e
      · omega
      · have := (List.pairwise_cons.1 hup).1 _ e
        omega
    have hak : a = k := by omega
    subst hak
    exact ⟨a, hxk, hk2, by rw [hP, hf], hmk⟩
theorem lit_poss {l s : List UInt8} {a : Nat} (hne : l ≠ []) (h : mtR (litE l) s a (a + l.length)) : possS (ofS s) l = true := by
  have h1 := ((mt_lit hne s a _).1 h).1
  unfold possS
  rw [List.all_eq_true]
  intro c hc
  rw [decide_eq_true_eq]
  obtain ⟨i, hi, rfl⟩ := (mem_of l c).1 hc
  have key : ∀ k, k < l.length → fat s (a + k) = fat l k := fun k hk => by
    unfold fat
    rw [List.getD_eq_getElem?_getD, List.getD_eq_getElem?_getD, h1 k hk]
  have hlt : a + i + 2 < s.length := by
    have h2 := h1 (i + 2) hi
    rw [List.getElem?_eq_getElem hi] at h2
    have := (List.getElem?_eq_some_iff.1 h2).1
    omega
  refine (mem_of s _).2 ⟨a + i, hlt, ?_⟩
  unfold tri
  rw [show a + i + 1 = a + (i + 1) by omega, show a + i + 2 = a + (i + 2) by omega, key i (by omega), key (i + 1) (by omega), key (i + 2) hi]
def ex0 : Rx := .mk 2 [] 0 0 [.mk 1 [(97, 97)] 0 0 [], .mk 4 [] 1 (-1) [.mk 1 [(98, 98)] 0 0 []], .mk 1 [(99, 99)] 0 0 []]
theorem ex_print : printS ex0 = ([97, 98, 43, 99], 0) := by decide +kernel
theorem ex_parse : parseS [97, 98, 43, 99] = (ex0, 0) := (print_back ex0 _ ex_print).1
theorem ex_yes : matchA ex0 [120, 97, 98, 98, 99] = true := by decide +kernel
theorem ex_no : matchA ex0 [97, 99] = false := by decide +kernel
theorem ex_all : (allP ex0 [120, 97, 98, 98, 99, 32, 97, 98, 99]).length = 2 := by decide +kernel
end Go.Proofs.YtlnbjdlooghpeaaGreatDoor
namespace Go.Proofs.YtlnbjdlooghpeaaGreatDoor
open Go.RowKit
set_option maxRecDepth 100000 in
set_option maxHeartbeats 6400000 in
theorem sound16 (C : Cs) {ok : Nat → Prop} {v : Value} {r : Rx} (hr : rightR r = 0) (s : ByteArray) (hs : s.size ≤ 60) (w : World) (hT : HasT w) (hv : RxV w ok v r) :
    Calls Tryz.prog 16 #[v, .string s] w fun e w' => e = .returned (.bool true) ∧ Below w.heap.size w w' := by
  obtain ⟨hn0, hs40, hd12⟩ := right_node hr
  obtain ⟨k, a, b, A', B, n, c, m, d, rfl⟩ := rxv_shape hv
  have hb1 := bel_alloc w (.cells #[.int .i64 k, .slice A' n c, .int .i64 a, .int .i64 b, .slice B m d] 25)
  have F := hide (five_new w (.int .i64 k) (.slice A' n c) (.int .i64 a) (.int .i64 b) (.slice B m d) 25)
  have V := hide (hv.kept hb1)
  have T0 := hide (hT.below hb1)
  have B1 := hide hb1
  have HO := hide (C.of_ V.out (by omega) (by omega))
  have hsz := need_szN r
  obtain ⟨qe, hqe⟩ : ∃ q, evalS (needS r) (ofS s.data.toList) = q := ⟨_, rfl⟩
  obtain ⟨qm, hqm⟩ : ∃ q, matchA r s.data.toList = q := ⟨_, rfl⟩
  have Hq := hide (show qm = true → qe = true from fun h => by rw [← hqe]; exact sound_of (hqm.trans h))
  have HE := hide (fun (W : World) (ok : Nat → Prop) (u : Value) (A : Option Addr) (n c : Nat) (h : NdV W ok u (needS r)) (h2 : Sl W A n c (numCells (ofS s.data.toList))) => C.eval h hsz (by have h1 := of_len s.data.toList; have h3 : s.data.toList.length = s.size := size_list s; omega) (ofS_wf _) h2 qe hqe)
  have HS := hide (fun (W : World) (xk xg : Int) (xB : Option Addr) (xm xd : Nat) (h : NdV W (fun _ => True) (.agg #[.int .i64 xk, .int .i64 xg, .slice xB xm xd]) (needS r)) => (C.simp h hsz).mono (R' := GotA W (needS r)) fun e w' h => by rw [need_own] at h; exact h)
  have HM := hide (fun (W : World) (h : RxV W ok (.agg #[.int .i64 k, .slice A' n c, .int .i64 a, .int .i64 b, .slice B m d]) r) (hT : HasT W) => (show Calls Tryz.prog 8 #[.agg #[.int .i64 k, .slice A' n c, .int .i64 a, .int .i64 b, .slice B m d], .string s] W fun e w' => e = .returned (.bool qm) ∧ Below W.heap.size W w' from by rw [← hqm]; exact match16 s hs r (by omega) (by omega) W ok _ h hT))
  have HR := hide (fun (W : World) (ok : Nat → Prop) (u : Value) (h : NdV W ok u (needS r)) => C.right h hsz true (need_right r))
  have HOf := hide (fun (W : World) => of25 s W (by omega))
  clear hv hb1 C hT hqe hqm
  go_enter Tryz.func16, Tryz.ntmps16
  obtain ⟨-, t0, t1, t2, t3, t4⟩ := F.out
  go_wp2_with fail
  with_reducible refine HO.out.mono ?_
  rintro e w2 ⟨v2, rfl, hx2, hb⟩
  obtain ⟨xk, xg, xB, xm, xd, rfl, -⟩ := ndv_shape hx2
  have hbx := bel_alloc w2 (.cells #[.int .i64 xk, .int .i64 xg, .slice xB xm xd] 32)
  have hg := tri3_new w2 (.int .i64 xk) (.int .i64 xg) (.slice xB xm xd) 32
  have G3 := hide hg
  have X3 := hide (hx2.kept hbx)
  have F3 := hide (F.out.keep (bgo hb hbx))
  have V3 := hide (V.out.kept (bgo hb hbx))
  have T3 := hide (T0.out.below (bgo hb hbx))
  have B3 := hide (bgo B1.out (bgo hb hbx))
  obtain ⟨-, y0, y1, y2⟩ := hg
  clear hx2 hb hbx HO F V T0 B1 t0 t1 t2 t3 t4
  go_wp2_with fail
  with_reducible refine (HR.out _ _ _ X3.out).mono ?_
  rintro e w4 ⟨rfl, hb⟩
  obtain ⟨p5, hp5⟩ : ∃ p5, w2.heap.size = p5 := ⟨_, rfl⟩
  rw [hp5] at G3 ⊢
  have G4 := hide (G3.out.keep hb)
  have X4 := hide (X3.out.kept hb)
  have F4 := hide (F3.out.keep hb)
  have V4 := hide (V3.out.kept hb)
  have T4 := hide (T3.out.below hb)
  have B4 := hide (bgo B3.out hb)
  clear hb HR G3 X3 F3 V3 T3 B3 y0 y1 y2 hp5
  go_wp2_with fail
  with_reducible refine (HOf.out w4).mono ?_
  rintro e w5 ⟨A5, n5, c5, rfl, hs5, hb⟩
  have G5 := hide (G4.out.keep hb)
  have X5 := hide (X4.out.kept hb)
  have F5 := hide (F4.out.keep hb)
  have V5 := hide (V4.out.kept hb)
  have T5 := hide (T4.out.below hb)
  have S5 := hide hs5
  have B5 := hide (bgo B4.out hb)
  clear hb HOf G4 X4 F4 V4 T4 B4 hs5
  go_upto_region 5 with fail
  obtain ⟨x, hx⟩ : ∃ x, x = w5 := ⟨_, rfl⟩
  subst hx
  have HK := hide (show ∀ X : World, Below x.heap.size x X → (X.cell? ⟨w.heap.size, 0, none⟩ = some (.int .i64 k) ∧ X.cell? ⟨w.heap.size, 1, none⟩ = some (.slice A' n c) ∧ X.cell? ⟨w.heap.size, 2, none⟩ = some (.int .i64 a) ∧ X.cell? ⟨w.heap.size, 3, none⟩ = some (.int .i64 b) ∧ X.cell? ⟨w.heap.size, 4, none⟩ = some (.slice B m d) ∧ X.cell? ⟨p5, 0, none⟩ = some (.int .i64 xk) ∧ X.cell? ⟨p5, 1, none⟩ = some (.int .i64 xg) ∧ X.cell? ⟨p5, 2, none⟩ = some (.slice xB xm xd)) ∧ Below x.heap.size x X from fun X hb => by
    obtain ⟨-, q0, q1, q2, q3, q4⟩ := F5.out.keep hb
    obtain ⟨-, r0, r1, r2⟩ := G5.out.keep hb
    exact ⟨⟨q0, q1, q2, q3, q4, r0, r1, r2⟩, hb⟩)
  have HS0 := hide (bel_drew x)
  have HKs := hide (show ∀ X Y : World, (X.cell? ⟨w.heap.size, 0, none⟩ = some (.int .i64 k) ∧ X.cell? ⟨w.heap.size, 1, none⟩ = some (.slice A' n c) ∧ X.cell? ⟨w.heap.size, 2, none⟩ = some (.int .i64 a) ∧ X.cell? ⟨w.heap.size, 3, none⟩ = some (.int .i64 b) ∧ X.cell? ⟨w.heap.size, 4, none⟩ = some (.slice B m d) ∧ X.cell? ⟨p5, 0, none⟩ = some (.int .i64 xk) ∧ X.cell? ⟨p5, 1, none⟩ = some (.int .i64 xg) ∧ X.cell? ⟨p5, 2, none⟩ = some (.slice xB xm xd)) ∧ Below x.heap.size x X → Below X.heap.size X Y → (Y.cell? ⟨w.heap.size, 0, none⟩ = some (.int .i64 k) ∧ Y.cell? ⟨w.heap.size, 1, none⟩ = some (.slice A' n c) ∧ Y.cell? ⟨w.heap.size, 2, none⟩ = some (.int .i64 a) ∧ Y.cell? ⟨w.heap.size, 3, none⟩ = some (.int .i64 b) ∧ Y.cell? ⟨w.heap.size, 4, none⟩ = some (.slice B m d) ∧ Y.cell? ⟨p5, 0, none⟩ = some (.int .i64 xk) ∧ Y.cell? ⟨p5, 1, none⟩ = some (.int .i64 xg) ∧ Y.cell? ⟨p5, 2, none⟩ = some (.slice xB xm xd)) ∧ Below x.heap.size x Y from fun X Y h hb => HK.out Y (bgo h.2 hb))
  have HKb := hide (show ∀ X : World, (X.cell? ⟨w.heap.size, 0, none⟩ = some (.int .i64 k) ∧ X.cell? ⟨w.heap.size, 1, none⟩ = some (.slice A' n c) ∧ X.cell? ⟨w.heap.size, 2, none⟩ = some (.int .i64 a) ∧ X.cell? ⟨w.heap.size, 3, none⟩ = some (.int .i64 b) ∧ X.cell? ⟨w.heap.size, 4, none⟩ = some (.slice B m d) ∧ X.cell? ⟨p5, 0, none⟩ = some (.int .i64 xk) ∧ X.cell? ⟨p5, 1, none⟩ = some (.int .i64 xg) ∧ X.cell? ⟨p5, 2, none⟩ = some (.slice xB xm xd)) ∧ Below x.heap.size x X → Below x.heap.size x X from fun X h => h.2)
  have HXv := hide (show ∀ X : World, (X.cell? ⟨w.heap.size, 0, none⟩ = some (.int .i64 k) ∧ X.cell? ⟨w.heap.size, 1, none⟩ = some (.slice A' n c) ∧ X.cell? ⟨w.heap.size, 2, none⟩ = some (.int .i64 a) ∧ X.cell? ⟨w.heap.size, 3, none⟩ = some (.int .i64 b) ∧ X.cell? ⟨w.heap.size, 4, none⟩ = some (.slice B m d) ∧ X.cell? ⟨p5, 0, none⟩ = some (.int .i64 xk) ∧ X.cell? ⟨p5, 1, none⟩ = some (.int .i64 xg) ∧ X.cell? ⟨p5, 2, none⟩ = some (.slice xB xm xd)) ∧ Below x.heap.size x X → NdV X (fun _ => True) (.agg #[.int .i64 xk, .int .i64 xg, .slice xB xm xd]) (needS r) from fun X h => X5.out.kept h.2)
  have HCo := hide (show ∀ X : World, (X.cell? ⟨w.heap.size, 0, none⟩ = some (.int .i64 k) ∧ X.cell? ⟨w.heap.size, 1, none⟩ = some (.slice A' n c) ∧ X.cell? ⟨w.heap.size, 2, none⟩ = some (.int .i64 a) ∧ X.cell? ⟨w.heap.size, 3, none⟩ = some (.int .i64 b) ∧ X.cell? ⟨w.heap.size, 4, none⟩ = some (.slice B m d) ∧ X.cell? ⟨p5, 0, none⟩ = some (.int .i64 xk) ∧ X.cell? ⟨p5, 1, none⟩ = some (.int .i64 xg) ∧ X.cell? ⟨p5, 2, none⟩ = some (.slice xB xm xd)) ∧ Below x.heap.size x X → Sl X A5 n5 c5 (numCells (ofS s.data.toList)) from fun X h => S5.out.below h.2)
  go_region_held3 (fun w' => (w'.cell? ⟨w.heap.size, 0, none⟩ = some (.int .i64 k) ∧ w'.cell? ⟨w.heap.size, 1, none⟩ = some (.slice A' n c) ∧ w'.cell? ⟨w.heap.size, 2, none⟩ = some (.int .i64 a) ∧ w'.cell? ⟨w.heap.size, 3, none⟩ = some (.int .i64 b) ∧ w'.cell? ⟨w.heap.size, 4, none⟩ = some (.slice B m d) ∧ w'.cell? ⟨p5, 0, none⟩ = some (.int .i64 xk) ∧ w'.cell? ⟨p5, 1, none⟩ = some (.int .i64 xg) ∧ w'.cell? ⟨p5, 2, none⟩ = some (.slice xB xm xd)) ∧ Below x.heap.size x w')
    (first | exact HK.out _ HS0.out | exact HKs.out _ _ (by assumption) hb4 | assumption)
    (first
      | (go_at_call 9; (with_reducible refine (HE.out _ _ _ _ _ _ (HXv.out _ ?_) (HCo.out _ ?_)).mono ?_); assumption; assumption; rintro e w6 ⟨rfl, hb4⟩)
      | (go_at_call 28; (with_reducible refine (HS.out _ _ _ _ _ _ (HXv.out _ ?_)).mono ?_); assumption; rintro e w6 ⟨va, rfl, hna, hb4⟩)
      | (go_at_call 9; (with_reducible refine (HE.out _ _ _ _ _ _ hna (HCo.out _ ?_)).mono ?_); assumption; rintro e w6 ⟨rfl, hb4⟩))
  have hX := HKb.out _ (by assumption)
  have B6 := hide (bgo B5.out hX)
  have V6 := hide (V5.out.kept hX)
  have T6 := hide (T5.out.below hX)
  obtain ⟨-, u0, u1, u2, u3, u4⟩ := F5.out.keep hX
  clear HK HS0 HKs HKb HXv HCo HE HS
  cases qe with
  | true =>
    go_wp2
    go_ret
    exact ⟨rfl, B6.out⟩
  | false =>
    cases qm with
    | true => exact absurd (Hq.out rfl) (by simp)
    | false =>
      go_wp2_with fail
      with_reducible refine (HM.out _ V6.out T6.out).mono ?_
      rintro e w7 ⟨rfl, hb⟩
      have B7 := hide (bgo B6.out hb)
      clear hb
      go_wp2
      go_ret
      exact ⟨rfl, B7.out⟩
end Go.Proofs.YtlnbjdlooghpeaaGreatDoor
namespace Go.Proofs.YtlnbjdlooghpeaaGreatDoor
open Go.RowKit
theorem plain_iff (c : UInt8) : plainC c = true ↔ c.toNat = 32 ∨ (48 ≤ c.toNat ∧ c.toNat ≤ 57) ∨ (97 ≤ c.toNat ∧ c.toNat ≤ 122) ∨ (65 ≤ c.toNat ∧ c.toNat ≤ 90) := by
  unfold plainC
  simp only [Bool.or_eq_true, Bool.and_eq_true, decide_eq_true_eq, UInt8.le_iff_toNat_le, ← UInt8.toNat_inj]
  simp only [show (32 : UInt8).toNat = 32 from rfl, show (48 : UInt8).toNat = 48 from rfl, show (57 : UInt8).toNat = 57 from rfl, show (97 : UInt8).toNat = 97 from rfl, show (122 : UInt8).toNat = 122 from rfl, show (65 : UInt8).toNat = 65 from rfl, show (90 : UInt8).toNat = 90 from rfl, or_assoc]
theorem plain_no {t : ByteArray} {k : Nat} (hk : k < t.size) (h : plainC t[k] = false) : t.data.toList.all plainC = false := by
  cases hq : t.data.toList.all plainC with
  | false => rfl
  | true =>
    have h1 := List.all_eq_true.1 hq t[k] (by simp [ByteArray.getElem_eq_getElem_data])
    rw [h] at h1
    cases h1
theorem plain_yes {t : ByteArray} (h : ∀ j (hj : j < t.size), plainC t[j] = true) : t.data.toList.all plainC = true := by
  rw [List.all_eq_true]
  intro c hc
  obtain ⟨j, hj, e⟩ := List.mem_iff_getElem.1 hc
  have h1 := h j (by simpa using hj)
  rw [← e]
  simpa [ByteArray.getElem_eq_getElem_data] using h1
set_option maxRecDepth 100000 in
set_option maxHeartbeats 6400000 in
theorem plain18 (t : ByteArray) (ht : t.size ≤ 1000) (w : World) : Calls Tryz.prog 18 #[.string t] w fun e w' => e = .returned (.bool (t.data.toList.all plainC)) ∧ w' = w := by
  obtain ⟨q, hq⟩ : ∃ q, t.data.toList.all plainC = q := ⟨_, rfl⟩
  rw [hq]
  have Hq := hide hq
  clear hq
  go_enter Tryz.func18, Tryz.ntmps18
  go_wp2
  go_loopw [3] (fun x wr => ∃ k : Nat, k ≤ t.size ∧ x = .int .i64 (k : Int) ∧ (∀ j (hj : j < t.size), j < k → plainC t[j] = true) ∧ wr = w) (fun x _ => t.size - (intOf x).toNat)
  case atStart => exact ⟨0, Nat.zero_le _, rfl, fun j _ h => by omega, rfl⟩
  case round =>
    obtain ⟨k, hk, rfl, hall, rfl⟩ := hrel
    have Hall := hide hall
    clear hall
    by_cases hlt : k < t.size
    · have hlt' : (k : Int) < (t.size : Int) := by omega
      have hk0 : (0 : Int) ≤ (k : Int) := by omega
      have Hp := hide (plain_iff t[k])
      have Hno := hide (fun h : plainC t[k] = false => (plain_no hlt h).symm.trans Hq.out)
      have Hnx := hide (fun h : plainC t[k] = true => show ∀ j (hj : j < t.size), j < k + 1 → plainC t[j] = true from fun j hj hjk => by
        by_cases e : j = k
        · subst e; exact h
        · exact Hall.out j hj (by omega))
      have hb := byte_lt t[k]
      by_cases c0 : t[k].toNat = 32
      · have Hx := hide (Hnx.out (Hp.out.2 (Or.inl c0)))
        have e0 : ((t[k].toNat : Int) != 32) = false := by simp; omega
        clear c0
        go_wp2
        go_roundw
        case rel => exact ⟨k + 1, by omega, by go_num, Hx.out, trivial⟩
        case measure => simp [intOf]; omega
      have e0 : ((t[k].toNat : Int) != 32) = true := by simp; omega
      by_cases c1 : t[k].toNat < 48
      · have l1 : (t[k].toNat : Int) < 48 := by omega
        have l3 : (t[k].toNat : Int) < 97 := by omega
        have l5 : (t[k].toNat : Int) < 65 := by omega
        have Hx := hide (Hno.out (by rw [Bool.eq_false_iff]; intro h; have := Hp.out.1 h; omega))
        clear c0 c1
        go_wp2
        go_ret
        exact ⟨by rw [← Hx.out]; rfl, rfl⟩
      have l1 : ¬ (t[k].toNat : Int) < 48 := by omega
      by_cases c2 : t[k].toNat ≤ 57
      · have l2 : ¬ (57 : Int) < (t[k].toNat : Int) := by omega
        have l2' : (t[k].toNat : Int) ≤ 57 := by omega
        have Hx := hide (Hnx.out (Hp.out.2 (Or.inr (Or.inl ⟨by omega, c2⟩))))
        clear c0 c1 c2
        go_wp2
        go_roundw
        case rel => exact ⟨k + 1, by omega, by go_num, Hx.out, trivial⟩
        case measure => simp [intOf]; omega
      have l2 : (57 : Int) < (t[k].toNat : Int) := by omega
      by_cases c3 : t[k].toNat < 65
      · have l3 : (t[k].toNat : Int) < 97 := by omega
        have l5 : (t[k].toNat : Int) < 65 := by omega
        have Hx := hide (Hno.out (by rw [Bool.eq_false_iff]; intro h; have := Hp.out.1 h; omega))
        clear c0 c1 c2 c3
        go_wp2
        go_ret
        exact ⟨by rw [← Hx.out]; rfl, rfl⟩
      have l5 : ¬ (t[k].toNat : Int) < 65 := by omega
      by_cases c4 : t[k].toNat ≤ 90
      · have l3 : (t[k].toNat : Int) < 97 := by omega
        have l6 : ¬ (90 : Int) < (t[k].toNat : Int) := by omega
        have l6' : (t[k].toNat : Int) ≤ 90 := by omega
        have Hx := hide (Hnx.out (Hp.out.2 (Or.inr (Or.inr (Or.inr ⟨by omega, c4⟩)))))
        clear c0 c1 c2 c3 c4
        go_wp2
        go_roundw
        case rel => exact ⟨k + 1, by omega, by go_num, Hx.out, trivial⟩
        case measure => simp [intOf]; omega
      have l6 : (90 : Int) < (t[k].toNat : Int) := by omega
      by_cases c5 : t[k].toNat < 97
      · have l3 : (t[k].toNat : Int) < 97 := by omega
        have Hx := hide (Hno.out (by rw [Bool.eq_false_iff]; intro h; have := Hp.out.1 h; omega))
        clear c0 c1 c2 c3 c4 c5
        go_wp2
        go_ret
        exact ⟨by rw [← Hx.out]; rfl, rfl⟩
      have l3 : ¬ (t[k].toNat : Int) < 97 := by omega
      by_cases c6 : t[k].toNat ≤ 122
      · have l4 : ¬ (122 : Int) < (t[k].toNat : Int) := by omega
        have l4' : (t[k].toNat : Int) ≤ 122 := by omega
        have Hx := hide (Hnx.out (Hp.out.2 (Or.inr (Or.inr (Or.inl ⟨by omega, c6⟩)))))
        clear c0 c1 c2 c3 c4 c5 c6
        go_wp2
        go_roundw
        case rel => exact ⟨k + 1, by omega, by go_num, Hx.out, trivial⟩
        case measure => simp [intOf]; omega
      · have l4 : (122 : Int) < (t[k].toNat : Int) := by omega
        have Hx := hide (Hno.out (by rw [Bool.eq_false_iff]; intro h; have := Hp.out.1 h; omega))
        clear c0 c1 c2 c3 c4 c5 c6
        go_wp2
        go_ret
        exact ⟨by rw [← Hx.out]; rfl, rfl⟩
    · have hlt' : ¬ (k : Int) < (t.size : Int) := by omega
      have Hx := hide ((plain_yes fun j hj => Hall.out j hj (by omega)).symm.trans Hq.out)
      go_wp2
      go_ret
      exact ⟨by rw [← Hx.out]; rfl, rfl⟩
end Go.Proofs.YtlnbjdlooghpeaaGreatDoor
