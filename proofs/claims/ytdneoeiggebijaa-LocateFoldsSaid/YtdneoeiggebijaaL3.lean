/- Walks of layer 7's reference: Insert, Codes, Possible, at, follows. -/
import Derived.Test.YtdneoeiggebijaaL2
import Derived.Test.YtdneoeiggebijaaT3
namespace Go.Proofs.Ytdneoeiggebijaa
open Go.RowKit

/-- Insert, so far. -/
def insN (b : Bool) (l : List Int) (m : Int) : List Int := if b then putS l m else l

set_option maxRecDepth 20000 in
set_option maxHeartbeats 1600000 in
theorem insert30 (A : Option Addr) (n c : Nat) (l : List Int) (m : Int) (w : World) (h : Sl w A n c (numCells l)) (hu : Up l) (hn : n ≤ 1000000) :
    Calls Try.prog 30 #[.slice A n c, .int .i64 m] w (GotI w (putS l m)) := by
  obtain ⟨i0, hi, hz0, hz1, hz2⟩ := info_parts infoI
  have hlen := h.nlen
  have hnc := h.1
  have hcc := h.2.1
  by_cases hm : m ∈ l
  · have Hp := hide (put_there m l hu hm)
    have Hd := hide (decide_eq_true hm)
    have H := hide h
    clear h hu hm hlen
    go_enter Try.func30, Try.ntmps30
    go_wp2_with fail
    with_reducible refine (has32 A n c l m true Hd.out _ H.out).mono ?_
    rintro e w' ⟨rfl, rfl⟩
    go_wp2
    go_ret
    exact ⟨A, n, c, rfl, by rw [Hp.out]; exact H.out, Below.refl _ _⟩
  · have Hd := hide (decide_eq_false hm)
    have Hm := hide hm
    have Hu := hide hu
    have H := hide h
    have Hlen := hide hlen
    clear h hu hm hlen
    go_enter Try.func30, Try.ntmps30
    go_wp2_with fail
    with_reducible refine (has32 A n c l m false Hd.out _ H.out).mono ?_
    rintro e w' ⟨rfl, rfl⟩
    go_wp2
    go_loopw [5, 6, 7] (fun v y x wr => ∃ (i : Nat) (b : Bool), i ≤ n ∧ y = .bool b ∧ x = .int .i64 (i : Int) ∧ Own wr w.heap.size 3 v (numCells (insN b (l.take i) m)) ∧ (b = true → ∃ y ∈ l.take i, m ≤ y) ∧ (b = false → ∀ y ∈ l.take i, y < m) ∧ Below w.heap.size w wr) (fun _ _ x _ => n - (intOf x).toNat)
    case atStart => exact ⟨0, false, Nat.zero_le _, rfl, rfl, World.ownsRow_nil _ _ _ _, fun e => (by cases e), fun _ y hy => by simp at hy, Below.refl _ _⟩
    case round =>
      obtain ⟨i, b, hi1, rfl, rfl, ho, hyes, hno, hb⟩ := hrel
      obtain ⟨v, hvv⟩ : ∃ v, v = u5 := ⟨u5, rfl⟩
      subst hvv
      obtain ⟨w2, hw2⟩ : ∃ w2, w2 = wr := ⟨wr, rfl⟩
      subst hw2
      have hsz := hb.size
      have B := hide hb
      have O := hide ho
      by_cases hlt : i < n
      · obtain ⟨ad, z, rfl, hz, hcell⟩ := num_cell (H.out.below hb).reads hlt
        have htk := take_at l i z hz
        have hzm : z ≠ m := fun e => Hm.out (e ▸ List.mem_of_getElem? hz)
        have hzin : z ∈ l.take (i + 1) := by rw [htk]; simp
        have hll : (l.take i).length ≤ 1000000 := by rw [List.length_take, Hlen.out]; omega
        cases b with
        | true =>
          have hlb : (numCells (insN true (l.take i) m)).length ≤ 1000002 := by
            rw [num_len]
            have := put_len (l.take i) m
            show (putS (l.take i) m).length ≤ _
            omega
          have E := hide (show numCells (insN true (l.take i) m) ++ [.int .i64 z] = numCells (insN true (l.take (i + 1)) m) by
            show numCells (putS (l.take i) m) ++ _ = numCells (putS (l.take (i + 1)) m)
            rw [htk, put_snoc z m _ (hyes rfl), num_app]; rfl)
          have Y := hide (show ∃ y ∈ l.take (i + 1), m ≤ y by
            obtain ⟨y, hy, hle⟩ := hyes rfl
            exact ⟨y, by rw [htk]; simp [hy], hle⟩)
          clear hb ho hyes hno htk hz hzin hzm hll
          go_wp2_with (first
            | (at_builtin; refine wp_push rfl (.tmp 32) (.tmp 37) 24 rfl 3 i0 (.int .i64 0) 8 Try.underlying24 hi hz0 hz1 hz2 rfl w.heap.size _ (numCells (insN true (l.take i) m)) rfl _ _ rfl O.out.src hsz _ rfl rfl (by omega) (by unfold maxLen; omega) ?_; intro v' w5 ho5 hb5)
            | fail)
          rw [E.out] at ho5
          have O5 := hide ho5
          have B5 := hide (B.out.trans hb5)
          clear ho5 hb5
          go_roundw
          case rel => exact ⟨i + 1, true, by omega, rfl, by go_num, O5.out, fun _ => Y.out, fun e => (by cases e), B5.out⟩
          case measure => simp [intOf]; omega
        | false =>
          have hlb : (numCells (insN false (l.take i) m)).length ≤ 1000000 := by rw [num_len]; exact hll
          by_cases hlt2 : m < z
          · have E1 := hide (show numCells (insN false (l.take i) m) ++ [.int .i64 m] = numCells (l.take i ++ [m]) by
              show numCells (l.take i) ++ _ = _
              rw [num_app]; rfl)
            have E2 := hide (show numCells (l.take i ++ [m]) ++ [.int .i64 z] = numCells (insN true (l.take (i + 1)) m) by
              show _ = numCells (putS (l.take (i + 1)) m)
              rw [htk, put_last z m hlt2 _ (hno rfl), num_app (l.take i ++ [m])]; rfl)
            have hl2 : (numCells (l.take i ++ [m])).length ≤ 1000002 := by rw [num_len, List.length_append]; simp; omega
            have Y := hide (show ∃ y ∈ l.take (i + 1), m ≤ y from ⟨z, hzin, by omega⟩)
            have hgt : decide (m < z) = true := decide_eq_true hlt2
            clear hb ho hyes hno htk hz hzin hzm hll
            go_wp2_with (at_builtin; refine wp_push rfl (.tmp 28) (.tmp 30) 24 rfl 3 i0 (.int .i64 0) 8 Try.underlying24 hi hz0 hz1 hz2 rfl w.heap.size _ (numCells (insN false (l.take i) m)) rfl _ _ rfl O.out.src hsz _ rfl rfl (by omega) (by unfold maxLen; omega) ?_)
            intro v' w5 ho5 hb5
            rw [E1.out] at ho5
            have hcell5 := (hb5.mono (Nat.zero_le _) : Below 0 w2 w5)
            have O5 := hide ho5
            have B5 := hide (B.out.trans hb5)
            have hsz5 := B5.out.size
            obtain ⟨ad', z', e', hz', hc5⟩ := num_cell (H.out.below B5.out).reads hlt
            cases e'
            have hzz : z' = z := by
              have h1 : w5.cell? (ad.add i) = some (.int .i64 z) := by
                obtain ⟨ad2, z2, e2, hz2', hc2⟩ := num_cell (H.out).reads hlt
                cases e2
                have h3 := (hb5.cell (World.block_lt_of_cell? _ _ hc2)).trans ((B.out.cell (World.block_lt_of_cell? _ _ hc2)))
                rw [h3, hc2]
                have h4 := (B.out.cell (World.block_lt_of_cell? _ _ hc2)).symm.trans hcell
                rw [hc2] at h4
                exact h4
              rw [hc5] at h1
              injection h1 with h1
              injection h1
            subst hzz
            clear ho5 hb5 hcell hcell5 hz'
            go_wp2_with (at_builtin; refine wp_push rfl (.tmp 32) (.tmp 37) 24 rfl 3 i0 (.int .i64 0) 8 Try.underlying24 hi hz0 hz1 hz2 rfl w.heap.size _ (numCells (l.take i ++ [m])) rfl _ _ rfl O5.out.src hsz5 _ rfl rfl (by omega) (by unfold maxLen; omega) ?_)
            intro v2 w6 ho6 hb6
            rw [E2.out] at ho6
            have O6 := hide ho6
            have B6 := hide (B5.out.trans hb6)
            clear ho6 hb6
            go_wp2
            go_roundw
            case rel => exact ⟨i + 1, true, by omega, rfl, by go_num, O6.out, fun _ => Y.out, fun e => (by cases e), B6.out⟩
            case measure => simp [intOf]; omega
          · have E := hide (show numCells (insN false (l.take i) m) ++ [.int .i64 z] = numCells (insN false (l.take (i + 1)) m) by
              show numCells (l.take i) ++ _ = numCells (l.take (i + 1))
              rw [htk, num_app]; rfl)
            have N := hide (show ∀ y ∈ l.take (i + 1), y < m from fun y hy => by
              rw [htk, List.mem_append, List.mem_singleton] at hy
              rcases hy with hy | rfl
              · exact hno rfl y hy
              · omega)
            have hgt : decide (m < z) = false := decide_eq_false hlt2
            clear hb ho hyes hno htk hz hzin hzm hll
            go_wp2_with (at_builtin; refine wp_push rfl (.tmp 32) (.tmp 37) 24 rfl 3 i0 (.int .i64 0) 8 Try.underlying24 hi hz0 hz1 hz2 rfl w.heap.size _ (numCells (insN false (l.take i) m)) rfl _ _ rfl O.out.src hsz _ rfl rfl (by omega) (by unfold maxLen; omega) ?_)
            intro v' w5 ho5 hb5
            rw [E.out] at ho5
            have O5 := hide ho5
            have B5 := hide (B.out.trans hb5)
            clear ho5 hb5
            go_wp2
            go_roundw
            case rel => exact ⟨i + 1, false, by omega, rfl, by go_num, O5.out, fun e => (by cases e), fun _ => N.out, B5.out⟩
            case measure => simp [intOf]; omega
      · have hall : l.take i = l := List.take_of_length_le (by rw [Hlen.out]; omega)
        rw [hall] at ho hno
        cases b with
        | true =>
          have O2 := hide (show Own w2 w.heap.size 3 v (numCells (putS l m)) from ho)
          clear hb ho hyes hno hall
          go_wp2
          go_ret
          exact GrewI.got ⟨v, rfl, O2.out, B.out⟩
        | false =>
          have O2 := hide (show Own w2 w.heap.size 3 v (numCells l) from ho)
          have E := hide (show numCells l ++ [.int .i64 m] = numCells (putS l m) by rw [put_end m l (hno rfl), num_app]; rfl)
          have hll : (numCells l).length ≤ 1000000 := by rw [num_len, Hlen.out]; exact hn
          clear hb ho hyes hno hall
          go_wp2_with (at_builtin; refine wp_push rfl (.tmp 41) (.tmp 43) 24 rfl 3 i0 (.int .i64 0) 8 Try.underlying24 hi hz0 hz1 hz2 rfl w.heap.size _ (numCells l) rfl _ _ rfl O2.out.src hsz _ rfl rfl (by omega) (by unfold maxLen; omega) ?_)
          intro v' w5 ho5 hb5
          rw [E.out] at ho5
          have O5 := hide ho5
          have B5 := hide (B.out.trans hb5)
          clear ho5 hb5
          go_wp2
          go_ret
          exact GrewI.got ⟨v', rfl, O5.out, B5.out⟩

theorem up_ofN (d : List UInt8) (n : Nat) : Up (ofN d n) := up_fold _ _ up_nil

set_option maxRecDepth 20000 in
set_option maxHeartbeats 800000 in
theorem rcodes17 (s : ByteArray) (w : World) (hs : s.size ≤ 1000000) :
    Calls Try.prog 17 #[.string s] w (GotI w (ofS s.data.toList)) := by
  obtain ⟨d, hd⟩ : ∃ d, s.data.toList = d := ⟨_, rfl⟩
  have Hd := hide hd
  have Hdl := hide (show d.length = s.size by rw [← hd, size_list])
  rw [hd]
  clear hd
  go_enter Try.func17, Try.ntmps17
  go_wp2
  go_loopw [3, 4] (fun u x wr => ∃ i : Nat, i ≤ s.size - 2 ∧ x = .int .i64 i ∧ ∃ A n c, u = .slice A n c ∧ Sl wr A n c (numCells (ofN d i)) ∧ Below w.heap.size w wr) (fun _ x _ => s.size - (intOf x).toNat)
  case atStart => exact ⟨0, Nat.zero_le _, rfl, none, 0, 0, rfl, Sl.nil _, Below.refl _ _⟩
  case round =>
    obtain ⟨i, hi, rfl, A, n, c, rfl, hsl, hb⟩ := hrel
    have hsz := hb.size
    by_cases hlt : i + 2 < s.size
    · have hn : n ≤ 1000000 := by
        have h1 := hsl.nlen
        have h2 := ofN_len d i
        omega
      have Hs := hide hsl
      have Hb := hide hb
      have Hst := hide (ofN_succ d i)
      clear hsl hb
      go_wp2_with fail
      refine (at31 s i (tri d i) _ hlt (by omega) (by rw [Hd.out])).mono ?_
      rintro e w1 ⟨rfl, hd1⟩
      have Hb1 := hide (hd1.below wr.heap.size)
      clear hd1
      go_wp2_with fail
      refine (insert30 A n c (ofN d i) (tri d i) _ (Hs.out.below Hb1.out) (up_ofN d i) hn).mono ?_
      rintro e w2 ⟨A2, n2, c2, rfl, hs2, hb2⟩
      rw [← Hst.out] at hs2
      have Hs2 := hide hs2
      have Hb2 := hide (Hb.out.trans ((bgo Hb1.out hb2).mono hsz))
      clear hs2 hb2 Hs Hb Hb1
      go_wp2
      go_roundw
      case rel => exact ⟨i + 1, by omega, by go_num, A2, n2, c2, rfl, Hs2.out, Hb2.out⟩
      case measure => simp [intOf]; omega
    · have hall : ofN d i = ofS d := by
        rw [← ofN_all, Hdl.out]
        congr 1
        omega
      rw [hall] at hsl
      have Hs := hide hsl
      have Hb := hide hb
      clear hsl hb hall
      go_wp2
      go_ret
      exact ⟨_, _, _, rfl, Hs.out, Hb.out⟩

theorem all_next {cs L : List Int} {k : Nat} {z : Int} (hz : L[k]? = some z) (h : ∀ y ∈ L.take k, y ∈ cs) (hm : z ∈ cs) : ∀ y ∈ L.take (k + 1), y ∈ cs := fun y hy => by
  rw [take_at L k z hz, List.mem_append, List.mem_singleton] at hy
  rcases hy with hy | rfl
  · exact h y hy
  · exact hm
theorem poss_yes {cs : List Int} {e : List UInt8} (h : ∀ y ∈ ofS e, y ∈ cs) : possS cs e = true := by
  unfold possS
  rw [List.all_eq_true]
  exact fun y hy => decide_eq_true (h y hy)
theorem poss_no {cs : List Int} {e : List UInt8} {z : Int} (h : z ∈ ofS e) (hm : z ∉ cs) : possS cs e = false := by
  cases hp : possS cs e with
  | false => rfl
  | true =>
    unfold possS at hp
    rw [List.all_eq_true] at hp
    exact absurd (of_decide_eq_true (hp z h)) hm

set_option maxRecDepth 20000 in
set_option maxHeartbeats 800000 in
theorem rposs19 (A : Option Addr) (n c : Nat) (cs : List Int) (t : ByteArray) (w : World) (h : Sl w A n c (numCells cs)) (ht : t.size ≤ 1000000) :
    Calls Try.prog 19 #[.slice A n c, .string t] w fun e w' => e = .returned (.bool (possS cs t.data.toList)) ∧ Below w.heap.size w w' := by
  have hcod := rcodes17 t w ht
  obtain ⟨L, hL⟩ : ∃ L, ofS t.data.toList = L := ⟨_, rfl⟩
  rw [hL] at hcod
  obtain ⟨p, hp⟩ : ∃ p, possS cs t.data.toList = p := ⟨_, rfl⟩
  have Hyes := hide (show (∀ y ∈ L, y ∈ cs) → p = true from fun h => by rw [← hp]; exact poss_yes (by rw [hL]; exact h))
  have Hno := hide (show ∀ z ∈ L, z ∉ cs → p = false from fun z h1 h2 => by rw [← hp]; exact poss_no (by rw [hL]; exact h1) h2)
  rw [hp]
  have H := hide h
  clear hL hp h
  go_enter Try.func19, Try.ntmps19
  go_wp2_with fail
  refine hcod.mono ?_
  rintro e w1 ⟨A1, n1, c1, rfl, hs1, hb1⟩
  have Hlen := hide hs1.nlen
  have hnc := hs1.1
  have hcc := hs1.2.1
  have H1 := hide (H.out.below hb1)
  have S1 := hide hs1
  have B1 := hide hb1
  clear hs1 hb1 hcod
  go_wp2
  go_loop [6] (fun x => ∃ k : Nat, k ≤ n1 ∧ x = .int .i64 (k : Int) ∧ ∀ y ∈ L.take k, y ∈ cs) (fun x => n1 - (intOf x).toNat)
  case atStart => exact ⟨0, Nat.zero_le _, rfl, fun y hy => by simp at hy⟩
  case round =>
    obtain ⟨k, hk, rfl, hm⟩ := hrel
    by_cases hlt : k < n1
    · obtain ⟨ad, z, rfl, hz, hcell⟩ := num_cell S1.out.reads hlt
      by_cases hin : z ∈ cs
      · have Hd := hide (decide_eq_true hin)
        have Hm := hide (all_next hz hm hin)
        clear hm hz hin
        go_wp2_with fail
        with_reducible refine (has32 A n c cs z true Hd.out _ H1.out).mono ?_
        rintro e w' ⟨rfl, rfl⟩
        go_wp2
        go_round
        case rel => exact ⟨k + 1, by omega, by go_num, Hm.out⟩
        case measure => simp [intOf]; omega
      · have Hd := hide (decide_eq_false hin)
        have Hp := hide (Hno.out z (List.mem_of_getElem? hz) hin)
        clear hm hz hin
        go_wp2_with fail
        with_reducible refine (has32 A n c cs z false Hd.out _ H1.out).mono ?_
        rintro e w' ⟨rfl, rfl⟩
        go_wp2
        go_ret
        exact ⟨ret_bool Hp.out.symm, B1.out⟩
    · rw [List.take_of_length_le (by rw [Hlen.out]; omega)] at hm
      have Hp := hide (Hyes.out hm)
      clear hm
      go_wp2
      go_ret
      exact ⟨ret_bool Hp.out.symm, B1.out⟩

end Go.Proofs.Ytdneoeiggebijaa
