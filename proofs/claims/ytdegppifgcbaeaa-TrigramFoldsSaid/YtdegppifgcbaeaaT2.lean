/- Walks of layer 6's reference: SameInts, insert, Of; the law's has, within, others. -/
import Derived.Test.YtdegppifgcbaeaaT1
namespace Go.Proofs.Ytdegppifgcbaeaa
open Go.RowKit
open Go.Lib (byteCells)

theorem infoI : (Try.prog.info? 3).map (fun i => (i.zero, i.size, i.bytes)) = some (some (.int .i64 0), 1, 8) := by kernel_rfl
/-- Ints, new or old. -/
def GotI (w : World) (l : List Int) (e : Ending) (w' : World) : Prop := ∃ A n c, e = .returned (.slice A n c) ∧ Sl w' A n c (numCells l) ∧ Below w.heap.size w w'
theorem GrewI.got {w w' : World} {l : List Int} {e : Ending} (h : GrewI w l e w') : GotI w l e w' := by
  obtain ⟨A, m, c, rfl, _, hs, hb⟩ := h.sl
  exact ⟨A, m, c, rfl, hs, hb⟩

theorem put_skip : ∀ (l : List Int) (k : Nat) (m : Int), (∀ y ∈ l.take k, y < m) → putS l m = l.take k ++ putS (l.drop k) m
  | l, 0, m, _ => by simp
  | [], k + 1, m, _ => by simp
  | x :: l, k + 1, m, h => by
    have hx : x < m := h x (by simp)
    have ih := put_skip l k m fun y hy => h y (by simp [hy])
    show putS (x :: l) m = x :: (l.take k ++ putS (l.drop k) m)
    rw [← ih]
    conv => lhs; unfold putS
    rw [if_neg (by omega), if_neg (by omega)]
theorem put_gt (x m : Int) (l : List Int) (h : m < x) : putS (x :: l) m = m :: x :: l := by
  conv => lhs; unfold putS
  rw [if_pos h]
theorem put_eq (m : Int) (l : List Int) : putS (m :: l) m = m :: l := by
  conv => lhs; unfold putS
  rw [if_neg (by omega), if_pos rfl]
theorem drop_cons (l : List Int) (k : Nat) (z : Int) (h : l[k]? = some z) : l.drop k = z :: l.drop (k + 1) := by
  have hk := (List.getElem?_eq_some_iff.1 h).1
  rw [List.drop_eq_getElem_cons hk, (List.getElem?_eq_some_iff.1 h).2]
theorem take_at (l : List Int) (k : Nat) (z : Int) (h : l[k]? = some z) : l.take (k + 1) = l.take k ++ [z] := by
  rw [List.take_succ_eq_append_getElem (List.getElem?_eq_some_iff.1 h).1, (List.getElem?_eq_some_iff.1 h).2]
theorem ins_end (l : List Int) (m : Int) (h : ∀ y ∈ l.take l.length, y < m) : putS l m = l.take l.length ++ m :: l.drop l.length := by
  rw [put_skip l l.length m h, List.drop_length]
  rfl
theorem ins_mid (l : List Int) (k : Nat) (m z : Int) (hz : l[k]? = some z) (hgt : m < z) (h : ∀ y ∈ l.take k, y < m) : putS l m = l.take k ++ m :: l.drop k := by
  rw [put_skip l k m h, drop_cons l k z hz, put_gt z m _ hgt]
theorem ins_same (l : List Int) (k : Nat) (m : Int) (hz : l[k]? = some m) (h : ∀ y ∈ l.take k, y < m) : putS l m = l := by
  rw [put_skip l k m h, drop_cons l k m hz, put_eq, ← drop_cons l k m hz, List.take_append_drop]
theorem ins_less (l : List Int) (k : Nat) (m z : Int) (hz : l[k]? = some z) (hlt : z < m) (h : ∀ y ∈ l.take k, y < m) : ∀ y ∈ l.take (k + 1), y < m := by
  intro y hy
  rw [take_at l k z hz] at hy
  rcases List.mem_append.1 hy with hy | hy
  · exact h y hy
  · simp at hy; omega
theorem ins_push (l : List Int) (i j : Nat) (m y : Int) (h : l[i + j]? = some y) : numCells (l.take i ++ m :: (l.drop i).take j) ++ [.int .i64 y] = numCells (l.take i ++ m :: (l.drop i).take (j + 1)) := by
  have : (l.drop i)[j]? = some y := by rw [List.getElem?_drop]; exact h
  rw [take_at (l.drop i) j y this, show [Value.int .i64 y] = numCells [y] from rfl, ← num_app]
  simp

set_option maxRecDepth 20000 in
set_option maxHeartbeats 1600000 in
theorem rins30 (A : Option Addr) (n c : Nat) (l : List Int) (m : Int) (w : World) (h : Sl w A n c (numCells l)) (hn : n ≤ 100000000) :
    Calls Try.prog 30 #[.slice A n c, .int .i64 m] w (GotI w (putS l m)) := by
  obtain ⟨i0, hi, hz0, hz1, hz2⟩ := info_parts infoI
  have Hlen := hide h.nlen
  have H := hide h
  clear h
  go_enter Try.func30, Try.ntmps30
  go_wp2
  go_loop [5] (fun x => ∃ k : Nat, k ≤ n ∧ x = .int .i64 k ∧ ∀ y ∈ l.take k, y < m) (fun x => n - (intOf x).toNat)
  case atStart => exact ⟨0, Nat.zero_le _, rfl, by simp⟩
  case round =>
    obtain ⟨k, hk, rfl, hm⟩ := hrel
    have Hm := hide hm
    clear hm
    by_cases hlt : k < n
    · obtain ⟨ad, z, rfl, hz, hcell⟩ := num_cell H.out.reads hlt
      by_cases hzm : z < m
      · have Hs := hide (ins_less l k m z hz hzm Hm.out)
        clear hz
        go_wp2
        go_round
        case rel => exact ⟨k + 1, by omega, by go_num, Hs.out⟩
        case measure => simp [intOf]; omega
      · by_cases hmz : m < z
        · have Hput := hide (ins_mid l k m z hz hmz Hm.out)
          have hne : (z == m) = false := beq_eq_false_iff_ne.2 (by omega)
          clear hz Hm
          go_wp2
          go_loopw [6, 7] (fun u x w1 => ∃ i : Nat, i ≤ k ∧ x = .int .i64 i ∧ Own w1 w.heap.size 3 u (numCells (l.take i)) ∧ Below w.heap.size w w1) (fun _ x _ => k - (intOf x).toNat)
          case atStart => exact ⟨0, Nat.zero_le _, rfl, World.ownsRow_nil _ _ _ _, Below.refl _ _⟩
          case round =>
            obtain ⟨i, hik, rfl, hown, hbel⟩ := hrel
            have hsz := hbel.size
            by_cases hlt2 : i < k
            · obtain ⟨ad2, y2, eA, hy2, hc2⟩ := num_cell (H.out.below hbel).reads (k := i) (by omega)
              cases eA
              have E := hide (push_num l i y2 hy2)
              have hnl : (numCells (l.take i)).length ≤ n := by rw [num_len, List.length_take]; omega
              have Hown := hide hown
              have Hb := hide hbel
              clear hown hbel hy2
              go_wp2_with (at_builtin; refine wp_push_far rfl (.tmp 41) (.tmp 46) 29 rfl 3 i0 (.int .i64 0) 8 Try.underlying29 hi hz0 hz1 hz2 rfl w.heap.size _ (numCells (l.take i)) rfl _ _ rfl Hown.out hsz _ rfl rfl (by omega) (by unfold maxLen; omega) _ ?_)
              intro v' w' hown' hb' _
              rw [E.out] at hown'
              have Hown' := hide hown'
              have Hb' := hide (Hb.out.trans hb')
              clear hown' hb' Hown Hb
              go_wp2
              go_roundw
              case rel => exact ⟨i + 1, by omega, by go_num, Hown'.out, Hb'.out⟩
              case measure => simp [intOf]; omega
            · obtain rfl : i = k := by omega
              have hnl : (numCells (l.take i)).length ≤ n := by rw [num_len, List.length_take]; omega
              have Hown := hide hown
              have Hb := hide hbel
              clear hown hbel
              go_wp2_with (at_builtin; refine wp_push_far rfl (.tmp 48) (.tmp 50) 29 rfl 3 i0 (.int .i64 0) 8 Try.underlying29 hi hz0 hz1 hz2 rfl w.heap.size _ (numCells (l.take i)) rfl _ _ rfl Hown.out hsz _ rfl rfl (by omega) (by unfold maxLen; omega) _ ?_)
              intro v' w' hown' hb' _
              have E : numCells (l.take i) ++ [.int .i64 m] = numCells (l.take i ++ m :: (l.drop i).take 0) := by rw [num_app]; rfl
              rw [E] at hown'
              have Hown' := hide hown'
              have Hb' := hide (Hb.out.trans hb')
              clear hown' hb' E Hown Hb
              go_wp2
              go_loopw [6, 8] (fun u x w2 => ∃ j : Nat, i + j ≤ n ∧ x = .int .i64 ((i + j : Nat) : Int) ∧ Own w2 w.heap.size 3 u (numCells (l.take i ++ m :: (l.drop i).take j)) ∧ Below w.heap.size w w2) (fun _ x _ => n - (intOf x).toNat)
              case atStart => exact ⟨0, by omega, rfl, Hown'.out, Hb'.out⟩
              case round =>
                clear Hown' Hb'
                obtain ⟨j, hjn, rfl, hown, hbel⟩ := hrel
                have hsz := hbel.size
                obtain ⟨q, hq⟩ : ∃ q, i + j = q := ⟨_, rfl⟩
                rw [hq] at hjn ⊢
                by_cases hlt3 : q < n
                · obtain ⟨ad3, y3, eA, hy3, hc3⟩ := num_cell (H.out.below hbel).reads (k := q) hlt3
                  cases eA
                  have E : numCells (l.take i ++ m :: (l.drop i).take j) ++ [.int .i64 y3] = numCells (l.take i ++ m :: (l.drop i).take (j + 1)) := ins_push l i j m y3 (by rw [hq]; exact hy3)
                  have hnl : (numCells (l.take i ++ m :: (l.drop i).take j)).length ≤ n + n + 1 := by rw [num_len, List.length_append, List.length_cons, List.length_take, List.length_take]; omega
                  have Hq := hide hq
                  have E' := hide E
                  have Hown := hide hown
                  have Hb := hide hbel
                  clear hown hbel hy3 hq E
                  go_wp2_with (at_builtin; refine wp_push_far rfl (.tmp 59) (.tmp 64) 29 rfl 3 i0 (.int .i64 0) 8 Try.underlying29 hi hz0 hz1 hz2 rfl w.heap.size _ (numCells (l.take i ++ m :: (l.drop i).take j)) rfl _ _ rfl Hown.out hsz _ rfl rfl (by omega) (by unfold maxLen; omega) _ ?_)
                  intro v' w' hown' hb' _
                  rw [E'.out] at hown'
                  have Hown' := hide hown'
                  have Hb' := hide (Hb.out.trans hb')
                  clear hown' hb' Hown Hb
                  go_wp2
                  go_roundw
                  case rel => exact ⟨j + 1, by have := Hq.out; omega, by have := Hq.out; go_num, Hown'.out, Hb'.out⟩
                  case measure => simp [intOf]; omega
                · have hall : l.take i ++ m :: (l.drop i).take j = putS l m := by
                    rw [Hput.out, List.take_of_length_le (l := l.drop i) (by rw [List.length_drop, Hlen.out]; omega)]
                  rw [hall] at hown
                  have Hown := hide hown
                  have Hb := hide hbel
                  obtain rfl : q = n := by omega
                  clear hown hbel hall hq
                  go_wp2
                  go_ret
                  obtain ⟨A', n', c', rfl, -, hs⟩ := Hown.out.slI
                  exact ⟨A', n', c', rfl, hs, Hb.out⟩
        · obtain rfl : z = m := by omega
          have Hput := hide (ins_same l k z hz Hm.out)
          clear hz Hm
          go_wp2
          go_ret
          exact ⟨_, _, _, rfl, by rw [Hput.out]; exact H.out, Below.refl _ _⟩
    · have hput : putS l m = l.take k ++ m :: l.drop k := by
        have e : k = l.length := by rw [Hlen.out]; omega
        subst e
        exact ins_end l m Hm.out
      have Hput := hide hput
      clear Hm hput
      go_wp2
      go_loopw [6, 7] (fun u x w1 => ∃ i : Nat, i ≤ k ∧ x = .int .i64 i ∧ Own w1 w.heap.size 3 u (numCells (l.take i)) ∧ Below w.heap.size w w1) (fun _ x _ => k - (intOf x).toNat)
      case atStart => exact ⟨0, Nat.zero_le _, rfl, World.ownsRow_nil _ _ _ _, Below.refl _ _⟩
      case round =>
        obtain ⟨i, hik, rfl, hown, hbel⟩ := hrel
        have hsz := hbel.size
        by_cases hlt2 : i < k
        · obtain ⟨ad2, y2, eA, hy2, hc2⟩ := num_cell (H.out.below hbel).reads (k := i) (by omega)
          cases eA
          have E := hide (push_num l i y2 hy2)
          have hnl : (numCells (l.take i)).length ≤ n := by rw [num_len, List.length_take]; omega
          have Hown := hide hown
          have Hb := hide hbel
          clear hown hbel hy2
          go_wp2_with (at_builtin; refine wp_push_far rfl (.tmp 41) (.tmp 46) 29 rfl 3 i0 (.int .i64 0) 8 Try.underlying29 hi hz0 hz1 hz2 rfl w.heap.size _ (numCells (l.take i)) rfl _ _ rfl Hown.out hsz _ rfl rfl (by omega) (by unfold maxLen; omega) _ ?_)
          intro v' w' hown' hb' _
          rw [E.out] at hown'
          have Hown' := hide hown'
          have Hb' := hide (Hb.out.trans hb')
          clear hown' hb' Hown Hb
          go_wp2
          go_roundw
          case rel => exact ⟨i + 1, by omega, by go_num, Hown'.out, Hb'.out⟩
          case measure => simp [intOf]; omega
        · obtain rfl : i = k := by omega
          have hnl : (numCells (l.take i)).length ≤ n := by rw [num_len, List.length_take]; omega
          have Hown := hide hown
          have Hb := hide hbel
          clear hown hbel
          go_wp2_with (at_builtin; refine wp_push_far rfl (.tmp 48) (.tmp 50) 29 rfl 3 i0 (.int .i64 0) 8 Try.underlying29 hi hz0 hz1 hz2 rfl w.heap.size _ (numCells (l.take i)) rfl _ _ rfl Hown.out hsz _ rfl rfl (by omega) (by unfold maxLen; omega) _ ?_)
          intro v' w' hown' hb' _
          have E : numCells (l.take i) ++ [.int .i64 m] = numCells (l.take i ++ m :: (l.drop i).take 0) := by rw [num_app]; rfl
          rw [E] at hown'
          have Hown' := hide hown'
          have Hb' := hide (Hb.out.trans hb')
          clear hown' hb' E Hown Hb
          go_wp2
          go_loopw [6, 8] (fun u x w2 => ∃ j : Nat, i + j ≤ n ∧ x = .int .i64 ((i + j : Nat) : Int) ∧ Own w2 w.heap.size 3 u (numCells (l.take i ++ m :: (l.drop i).take j)) ∧ Below w.heap.size w w2) (fun _ x _ => n - (intOf x).toNat)
          case atStart => exact ⟨0, by omega, rfl, Hown'.out, Hb'.out⟩
          case round =>
            clear Hown' Hb'
            obtain ⟨j, hjn, rfl, hown, hbel⟩ := hrel
            have hsz := hbel.size
            obtain ⟨q, hq⟩ : ∃ q, i + j = q := ⟨_, rfl⟩
            rw [hq] at hjn ⊢
            by_cases hlt3 : q < n
            · obtain ⟨ad3, y3, eA, hy3, hc3⟩ := num_cell (H.out.below hbel).reads (k := q) hlt3
              cases eA
              have E : numCells (l.take i ++ m :: (l.drop i).take j) ++ [.int .i64 y3] = numCells (l.take i ++ m :: (l.drop i).take (j + 1)) := ins_push l i j m y3 (by rw [hq]; exact hy3)
              have hnl : (numCells (l.take i ++ m :: (l.drop i).take j)).length ≤ n + n + 1 := by rw [num_len, List.length_append, List.length_cons, List.length_take, List.length_take]; omega
              have Hq := hide hq
              have E' := hide E
              have Hown := hide hown
              have Hb := hide hbel
              clear hown hbel hy3 hq E
              go_wp2_with (at_builtin; refine wp_push_far rfl (.tmp 59) (.tmp 64) 29 rfl 3 i0 (.int .i64 0) 8 Try.underlying29 hi hz0 hz1 hz2 rfl w.heap.size _ (numCells (l.take i ++ m :: (l.drop i).take j)) rfl _ _ rfl Hown.out hsz _ rfl rfl (by omega) (by unfold maxLen; omega) _ ?_)
              intro v' w' hown' hb' _
              rw [E'.out] at hown'
              have Hown' := hide hown'
              have Hb' := hide (Hb.out.trans hb')
              clear hown' hb' Hown Hb
              go_wp2
              go_roundw
              case rel => exact ⟨j + 1, by have := Hq.out; omega, by have := Hq.out; go_num, Hown'.out, Hb'.out⟩
              case measure => simp [intOf]; omega
            · have hall : l.take i ++ m :: (l.drop i).take j = putS l m := by
                rw [Hput.out, List.take_of_length_le (l := l.drop i) (by rw [List.length_drop, Hlen.out]; omega)]
              rw [hall] at hown
              have Hown := hide hown
              have Hb := hide hbel
              obtain rfl : q = n := by omega
              clear hown hbel hall hq
              go_wp2
              go_ret
              obtain ⟨A', n', c', rfl, -, hs⟩ := Hown.out.slI
              exact ⟨A', n', c', rfl, hs, Hb.out⟩

set_option maxRecDepth 20000 in
set_option maxHeartbeats 800000 in
theorem rof16 (s : ByteArray) (w : World) (hs : s.size ≤ 100000000) :
    Calls Try.prog 16 #[.string s] w (GotI w (ofS s.data.toList)) := by
  obtain ⟨d, hd⟩ : ∃ d, s.data.toList = d := ⟨_, rfl⟩
  have Hd := hide hd
  have Hdl := hide (show d.length = s.size by rw [← hd, size_list])
  rw [hd]
  clear hd
  go_enter Try.func16, Try.ntmps16
  go_wp2
  go_loopw [3, 4] (fun u x wr => ∃ i : Nat, i ≤ s.size - 2 ∧ x = .int .i64 i ∧ ∃ A n c, u = .slice A n c ∧ Sl wr A n c (numCells (ofN d i)) ∧ Below w.heap.size w wr) (fun _ x _ => s.size - (intOf x).toNat)
  case atStart => exact ⟨0, Nat.zero_le _, rfl, none, 0, 0, rfl, Sl.nil _, Below.refl _ _⟩
  case round =>
    obtain ⟨i, hi, rfl, A, n, c, rfl, hsl, hb⟩ := hrel
    have hsz := hb.size
    by_cases hlt : i + 2 < s.size
    · have hn : n ≤ 100000000 := by
        have h1 := hsl.nlen
        have h2 := ofN_len d i
        omega
      have Hs := hide hsl
      have Hb := hide hb
      have Hst := hide (ofN_succ d i)
      clear hsl hb
      go_wp2_with fail
      refine (at27 s i (tri d i) _ hlt (by omega) (by rw [Hd.out])).mono ?_
      rintro e w1 ⟨rfl, hd1⟩
      have Hb1 := hide (hd1.below wr.heap.size)
      clear hd1
      go_wp2_with fail
      refine (rins30 A n c (ofN d i) (tri d i) _ (Hs.out.below Hb1.out) hn).mono ?_
      rintro e w2 ⟨A2, n2, c2, rfl, hs2, hb2⟩
      rw [← Hst.out] at hs2
      have Hs2 := hide hs2
      have Hb2 := hide (Hb.out.trans ((bgo Hb1.out hb2).mono hsz))
      clear hs2 hb2 Hs Hb Hb1
      go_wp2
      go_roundw
      case rel => exact ⟨i + 1, by omega, by go_num, A2, n2, c2, rfl, Hs2.out, Hb2.out⟩
      case measure => simp [intOf]; omega
    · have hall : ofN d i = ofS d := by
        rw [← ofN_all, Hdl.out]
        congr 1
        omega
      rw [hall] at hsl
      have Hs := hide hsl
      have Hb := hide hb
      clear hsl hb hall
      go_wp2
      go_ret
      exact ⟨_, _, _, rfl, Hs.out, Hb.out⟩

set_option maxRecDepth 20000 in
set_option maxHeartbeats 800000 in
theorem rsame14 (A A' : Option Addr) (n c n' c' : Nat) (xs : List Int) (w : World) (h : Sl w A n c (numCells xs)) (h' : Sl w A' n' c' (numCells xs)) :
    Calls Try.prog 14 #[.slice A n c, .slice A' n' c'] w fun e w' => e = .returned (.bool true) ∧ Drawn w w' := by
  have e : n' = n := by rw [← h.nlen, h'.nlen]
  subst e
  have hc := h.2.1
  have hnc := h.1
  have H := hide h
  have H' := hide h'
  clear h h'
  go_enter Try.func14, Try.ntmps14
  go_wp2
  go_loopw [5] (fun x wr => ∃ k : Nat, k ≤ n' ∧ x = .int .i64 k ∧ Drawn w wr) (fun x _ => n' - (intOf x).toNat)
  case atStart => exact ⟨0, Nat.zero_le _, rfl, Drawn.refl _⟩
  case round =>
    obtain ⟨k, hk, rfl, hd⟩ := hrel
    have Hd := hide hd
    have hbel := hd.below w.heap.size
    clear hd
    by_cases hlt : k < n'
    · obtain ⟨ad, z, rfl, hz, hcell⟩ := num_cell (H.out.below hbel).reads hlt
      obtain ⟨ad', z', rfl, hz', hcell'⟩ := num_cell (H'.out.below hbel).reads hlt
      rw [hz] at hz'
      cases hz'
      clear hz hbel
      go_wp2
      go_quiet (fail)
      go_wp2
      go_roundw
      case rel => exact ⟨k + 1, by omega, by go_num, Hd.out.more _⟩
      case measure => simp [intOf]; omega
    · clear hbel
      go_wp2
      go_ret
      exact ⟨rfl, Hd.out⟩

theorem notin_take (l : List Int) (k : Nat) (z m : Int) (h : m ∉ l.take k) (hz : l[k]? = some z) (hne : ¬ z = m) : m ∉ l.take (k + 1) := by
  rw [take_at l k z hz, List.mem_append]
  rintro (h1 | h1)
  · exact h h1
  · simp at h1; exact hne h1.symm

set_option maxRecDepth 20000 in
set_option maxHeartbeats 800000 in
theorem has33 (A : Option Addr) (n c : Nat) (l : List Int) (m : Int) (r : Bool) (hr : decide (m ∈ l) = r) (w : World) (h : Sl w A n c (numCells l)) :
    Calls Try.prog 33 #[.slice A n c, .int .i64 m] w fun e w' => e = .returned (.bool r) ∧ w = w' := by
  subst hr
  have hc := h.2.1
  have hnc := h.1
  have Hlen := hide h.nlen
  have H := hide h
  clear h
  go_enter Try.func33, Try.ntmps33
  go_wp2
  go_loop [5] (fun x => ∃ k : Nat, k ≤ n ∧ x = .int .i64 k ∧ m ∉ l.take k) (fun x => n - (intOf x).toNat)
  case atStart => exact ⟨0, Nat.zero_le _, rfl, by simp⟩
  case round =>
    obtain ⟨k, hk, rfl, hm⟩ := hrel
    have Hm := hide hm
    clear hm
    by_cases hlt : k < n
    · obtain ⟨ad, z, rfl, hz, hcell⟩ := num_cell H.out.reads hlt
      by_cases he : z = m
      · subst he
        have Hr := hide (show decide (z ∈ l) = true from decide_eq_true (List.mem_of_getElem? hz))
        clear hz
        go_wp2
        go_ret
        exact ⟨ret_bool Hr.out.symm, rfl⟩
      · have Hnx := hide (notin_take l k z m Hm.out hz he)
        have hb : (z == m) = false := beq_eq_false_iff_ne.2 he
        clear hz he
        go_wp2
        go_round
        case rel => exact ⟨k + 1, by omega, by go_num, Hnx.out⟩
        case measure => simp [intOf]; omega
    · have hm2 := Hm.out
      rw [List.take_of_length_le (by rw [Hlen.out]; omega)] at hm2
      have Hr := hide (decide_eq_false hm2)
      clear hm2
      go_wp2
      go_ret
      exact ⟨ret_bool Hr.out.symm, rfl⟩

set_option maxRecDepth 20000 in
set_option maxHeartbeats 800000 in
theorem within23 (A A' : Option Addr) (n c n' c' : Nat) (xs ys : List Int) (w : World) (h : Sl w A n c (numCells xs)) (h' : Sl w A' n' c' (numCells ys)) (hin : ∀ x ∈ xs, x ∈ ys) :
    Calls Try.prog 23 #[.slice A n c, .slice A' n' c'] w fun e w' => e = .returned (.bool true) ∧ w = w' := by
  have hc := h.2.1
  have hnc := h.1
  have Hin := hide hin
  have H := hide h
  have H' := hide h'
  clear h h' hin
  go_enter Try.func23, Try.ntmps23
  go_wp2
  go_loop [5] (fun x => ∃ k : Nat, k ≤ n ∧ x = .int .i64 k) (fun x => n - (intOf x).toNat)
  case atStart => exact ⟨0, Nat.zero_le _, rfl⟩
  case round =>
    obtain ⟨k, hk, rfl⟩ := hrel
    by_cases hlt : k < n
    · obtain ⟨ad, z, rfl, hz, hcell⟩ := num_cell H.out.reads hlt
      have Hr := hide (show decide (z ∈ ys) = true from decide_eq_true (Hin.out z (List.mem_of_getElem? hz)))
      clear hz
      go_wp2_with fail
      refine (has33 A' n' c' ys z true Hr.out _ H'.out).mono ?_
      rintro e w1 ⟨rfl, rfl⟩
      go_wp2
      go_round
      case rel => exact ⟨k + 1, by omega, by go_num⟩
      case measure => simp [intOf]; omega
    · go_wp2
      go_ret
      exact ⟨rfl, rfl⟩

theorem filt1 (p : Int → Bool) (z : Int) : ([z].filter p).length = if p z = true then 1 else 0 := by
  by_cases h : p z = true <;> simp [h]
theorem oth_at (l a b : List Int) (k : Nat) (z : Int) (h : l[k]? = some z) : (othersS (l.take (k + 1)) a b).length = (othersS (l.take k) a b).length + (if (!decide (z ∈ a) && !decide (z ∈ b)) = true then 1 else 0) := by
  unfold othersS
  rw [take_at l k z h, List.filter_append, List.length_append]
  rw [filt1]
theorem oth_le (l a b : List Int) : (othersS l a b).length ≤ l.length := List.length_filter_le _ _

set_option maxRecDepth 20000 in
set_option maxHeartbeats 800000 in
theorem others24 (A A1 A2 : Option Addr) (n c n1 c1 n2 c2 : Nat) (l xs ys : List Int) (w : World) (h : Sl w A n c (numCells l)) (h1 : Sl w A1 n1 c1 (numCells xs)) (h2 : Sl w A2 n2 c2 (numCells ys)) :
    Calls Try.prog 24 #[.slice A n c, .slice A1 n1 c1, .slice A2 n2 c2] w fun e w' => e = .returned (.int .i64 ((othersS l xs ys).length : Int)) ∧ w = w' := by
  have hc := h.2.1
  have hnc := h.1
  have Hlen := hide h.nlen
  have H := hide h
  have H1 := hide h1
  have H2 := hide h2
  clear h h1 h2
  go_enter Try.func24, Try.ntmps24
  go_wp2
  go_loop [7, 8] (fun u x => ∃ k t : Nat, k ≤ n ∧ x = .int .i64 k ∧ u = .int .i64 t ∧ t = (othersS (l.take k) xs ys).length) (fun _ x => n - (intOf x).toNat)
  case atStart => exact ⟨0, 0, Nat.zero_le _, rfl, rfl, by simp [othersS]⟩
  case round =>
    obtain ⟨k, t, hk, rfl, rfl, ht⟩ := hrel
    have htk : t ≤ k := by
      have := oth_le (l.take k) xs ys
      rw [List.length_take] at this
      omega
    have Ht := hide ht
    clear ht
    by_cases hlt : k < n
    · obtain ⟨ad, z, rfl, hz, hcell⟩ := num_cell H.out.reads hlt
      have Hst := hide (oth_at l xs ys k z hz)
      clear hz
      by_cases hx : z ∈ xs
      · have Hx := hide (decide_eq_true hx)
        have hst := Hst.out
        rw [Hx.out, ← Ht.out] at hst
        simp only [Bool.not_true, Bool.false_and, Bool.false_eq_true, if_false, Nat.add_zero] at hst
        have Hst' := hide hst
        clear hx hst Hst
        go_wp2_with fail
        refine (has33 A1 n1 c1 xs z true Hx.out _ H1.out).mono ?_
        rintro e w1 ⟨rfl, rfl⟩
        go_wp2
        go_round
        case rel => exact ⟨k + 1, t, by omega, by go_num, rfl, Hst'.out.symm⟩
        case measure => simp [intOf]; omega
      · have Hx := hide (decide_eq_false hx)
        by_cases hy : z ∈ ys
        · have Hy := hide (decide_eq_true hy)
          have hst := Hst.out
          rw [Hx.out, Hy.out, ← Ht.out] at hst
          simp only [Bool.not_true, Bool.and_false, Bool.false_eq_true, if_false, Nat.add_zero] at hst
          have Hst' := hide hst
          clear hx hy hst Hst
          go_wp2_with fail
          refine (has33 A1 n1 c1 xs z false Hx.out _ H1.out).mono ?_
          rintro e w1 ⟨rfl, rfl⟩
          go_wp2_with fail
          refine (has33 A2 n2 c2 ys z true Hy.out _ H2.out).mono ?_
          rintro e w1 ⟨rfl, rfl⟩
          go_wp2
          go_round
          case rel => exact ⟨k + 1, t, by omega, by go_num, rfl, Hst'.out.symm⟩
          case measure => simp [intOf]; omega
        · have Hy := hide (decide_eq_false hy)
          have hst := Hst.out
          rw [Hx.out, Hy.out, ← Ht.out] at hst
          simp only [Bool.not_false, Bool.and_true, if_true] at hst
          have Hst' := hide hst
          clear hx hy hst Hst
          go_wp2_with fail
          refine (has33 A1 n1 c1 xs z false Hx.out _ H1.out).mono ?_
          rintro e w1 ⟨rfl, rfl⟩
          go_wp2_with fail
          refine (has33 A2 n2 c2 ys z false Hy.out _ H2.out).mono ?_
          rintro e w1 ⟨rfl, rfl⟩
          go_wp2
          go_round
          case rel => exact ⟨k + 1, t + 1, by omega, by go_num, by go_num, Hst'.out.symm⟩
          case measure => simp [intOf]; omega
    · have hall := Ht.out
      rw [List.take_of_length_le (by rw [Hlen.out]; omega)] at hall
      have Hall := hide hall
      clear hall
      go_wp2
      go_ret
      exact ⟨ret_int (by rw [Hall.out]), rfl⟩

end Go.Proofs.Ytdegppifgcbaeaa
