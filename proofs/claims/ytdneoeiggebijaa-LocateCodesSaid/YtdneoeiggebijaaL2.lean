/- Walks of layer 7's reference: Occurs, Find, Count. -/
import Derived.Test.YtdneoeiggebijaaL1
import Derived.Test.YtdneoeiggebijaaLoc
namespace Go.Proofs.Ytdneoeiggebijaa
open Go.RowKit

theorem fb_at (s : ByteArray) (k : Nat) (h : k < s.size) : fb false s.data.toList k = s[k].toNat := by
  unfold fb
  rw [if_neg (by simp), getD_byte s k h]
theorem fb_up (s : ByteArray) (k : Nat) (h : k < s.size) : fb true s.data.toList k = (fld s[k]).toNat := by
  unfold fb
  rw [if_pos rfl, fat_at s k h]

theorem occ_all {f : Bool} {d e : List UInt8} {k n : Nat} (h : k + e.length ≤ d.length) (hn : e.length ≤ n) (h' : ∀ i, i < n → fb f d (k + i) = fb f e i) : occB f d e k = true := occ_yes h fun i hi => h' i (by omega)
theorem fb_next {f : Bool} {d e : List UInt8} {k i : Nat} (h : ∀ j, j < i → fb f d (k + j) = fb f e j) (hi : fb f d (k + i) = fb f e i) : ∀ j, j < i + 1 → fb f d (k + j) = fb f e j := fun j hj => by
  by_cases e' : j = i
  · rw [e']; exact hi
  · exact h j (by omega)

set_option maxRecDepth 20000 in
set_option maxHeartbeats 1600000 in
theorem occ28 (s t : ByteArray) (k : Nat) (f : Bool) (r : Bool) (w : World) (hs : s.size ≤ 100000) (ht : t.size ≤ 100000) (hk : k ≤ s.size) (hr : occB f s.data.toList t.data.toList k = r) :
    Calls Try.prog 28 #[.string s, .string t, .int .i64 (k : Int), .bool f] w fun e w' => e = .returned (.bool r) ∧ w = w' := by
  subst hr
  have ls := size_list s
  have lt := size_list t
  by_cases hfar : s.size < k + t.size
  · have Hr := hide (occ_far (f := f) (d := s.data.toList) (e := t.data.toList) (k := k) (by omega))
    have hg : decide ((s.size : Int) - (k : Int) < (t.size : Int)) = true := decide_eq_true (by omega)
    clear ls lt
    go_enter Try.func28, Try.ntmps28
    go_wp2
    go_ret
    exact ⟨ret_bool Hr.out.symm, rfl⟩
  · have hg : decide ((s.size : Int) - (k : Int) < (t.size : Int)) = false := decide_eq_false (by omega)
    have Hall := hide (show ∀ n, t.size ≤ n → (∀ i, i < n → fb f s.data.toList (k + i) = fb f t.data.toList i) → occB f s.data.toList t.data.toList k = true from fun n h1 h2 => occ_all (by omega) (by omega) h2)
    have Hdiff := hide (show ∀ i, i < t.size → fb f s.data.toList (k + i) ≠ fb f t.data.toList i → occB f s.data.toList t.data.toList k = false from fun i h1 h2 => occ_diff i (by omega) h2)
    clear ls lt
    go_enter Try.func28, Try.ntmps28
    go_wp2
    go_loop [9] (fun x => ∃ i : Nat, i ≤ t.size ∧ x = .int .i64 (i : Int) ∧ ∀ j, j < i → fb f s.data.toList (k + j) = fb f t.data.toList j) (fun x => t.size - (intOf x).toNat)
    case atStart => exact ⟨0, Nat.zero_le _, rfl, fun j hj => by omega⟩
    case round =>
      obtain ⟨i, hi, rfl, hm⟩ := hrel
      have Hm := hide hm
      clear hm
      by_cases hlt : i < t.size
      · have h1 : k + i < s.size := by omega
        have h2 : (0 : Int) ≤ (k : Int) + (i : Int) := by omega
        have h3 : (k : Int) + (i : Int) < (s.size : Int) := by omega
        cases f with
        | false =>
          have e1 := fb_at s (k + i) h1
          have e2 := fb_at t i hlt
          by_cases he : s[k + i].toNat = t[i].toNat
          · have Hn := hide (fb_next Hm.out (by rw [e1, e2]; exact he))
            have hne : ((s[k + i].toNat : Int) != (t[i].toNat : Int)) = false := by rw [he]; simp
            clear e1 e2 he
            go_wp2
            go_round
            case rel => exact ⟨i + 1, by omega, by go_num, Hn.out⟩
            case measure => simp [intOf]; omega
          · have Hn := hide (Hdiff.out i hlt (by rw [e1, e2]; exact he))
            have hne : ((s[k + i].toNat : Int) != (t[i].toNat : Int)) = true := by rw [bne_iff_ne]; omega
            clear e1 e2 he
            go_wp2
            go_ret
            exact ⟨ret_bool Hn.out.symm, rfl⟩
        | true =>
          have e1 := fb_up s (k + i) h1
          have e2 := fb_up t i hlt
          obtain ⟨x, hx⟩ : ∃ x, (fld s[k + i]).toNat = x := ⟨_, rfl⟩
          obtain ⟨y, hy⟩ : ∃ y, (fld t[i]).toNat = y := ⟨_, rfl⟩
          rw [hx] at e1
          rw [hy] at e2
          have Hx := hide hx
          have Hy := hide hy
          clear hx hy
          by_cases he : x = y
          · have Hn := hide (fb_next Hm.out (by rw [e1, e2]; exact he))
            have hne : ((x : Int) != (y : Int)) = false := by rw [he]; simp
            clear e1 e2 he
            go_wp2_with fail
            with_reducible refine (fold23 s[k + i] x Hx.out _).mono ?_
            rintro e w' ⟨rfl, rfl⟩
            go_wp2_with fail
            with_reducible refine (fold23 t[i] y Hy.out _).mono ?_
            rintro e w' ⟨rfl, rfl⟩
            go_wp2
            go_round
            case rel => exact ⟨i + 1, by omega, by go_num, Hn.out⟩
            case measure => simp [intOf]; omega
          · have Hn := hide (Hdiff.out i hlt (by rw [e1, e2]; exact he))
            have hne : ((x : Int) != (y : Int)) = true := by rw [bne_iff_ne]; omega
            clear e1 e2 he
            go_wp2_with fail
            with_reducible refine (fold23 s[k + i] x Hx.out _).mono ?_
            rintro e w' ⟨rfl, rfl⟩
            go_wp2_with fail
            with_reducible refine (fold23 t[i] y Hy.out _).mono ?_
            rintro e w' ⟨rfl, rfl⟩
            go_wp2
            go_ret
            exact ⟨ret_bool Hn.out.symm, rfl⟩
      · have Hn := hide (Hall.out i (by omega) Hm.out)
        go_wp2
        go_ret
        exact ⟨ret_bool Hn.out.symm, rfl⟩

set_option maxRecDepth 20000 in
set_option maxHeartbeats 1600000 in
theorem rfind13 (s t : ByteArray) (f : Bool) (w : World) (hs : s.size ≤ 100000) (ht : t.size ≤ 100000) :
    Calls Try.prog 13 #[.string s, .string t, .bool f] w (GotI w (findS f s.data.toList t.data.toList)) := by
  obtain ⟨i0, hi, hz0, hz1, hz2⟩ := info_parts infoI
  obtain ⟨d, hd⟩ : ∃ d, s.data.toList = d := ⟨_, rfl⟩
  obtain ⟨e, he⟩ : ∃ e, t.data.toList = e := ⟨_, rfl⟩
  have ls := size_list s
  have Hocc := hide (show ∀ (k : Nat) (r : Bool) (w : World), k ≤ s.size → occB f d e k = r → Calls Try.prog 28 #[.string s, .string t, .int .i64 (k : Int), .bool f] w fun e w' => e = .returned (.bool r) ∧ w = w' from fun k r w h1 h2 => occ28 s t k f r w hs ht h1 (by rw [hd, he]; exact h2))
  have Hend := hide (show findN f d e (s.size + 1) = findS f d e by unfold findS; rw [← hd, ls])
  rw [hd, he]
  clear hd he ls
  go_enter Try.func13, Try.ntmps13
  go_wp2
  go_loopw [7, 8] (fun v x wr => ∃ k : Nat, k ≤ s.size + 1 ∧ x = .int .i64 (k : Int) ∧ Own wr w.heap.size 3 v (numCells (findN f d e k)) ∧ Below w.heap.size w wr) (fun _ x _ => s.size + 1 - (intOf x).toNat)
  case atStart => exact ⟨0, Nat.zero_le _, rfl, World.ownsRow_nil _ _ _ _, Below.refl _ _⟩
  case round =>
    obtain ⟨k, hk, rfl, ho, hb⟩ := hrel
    obtain ⟨v, hvv⟩ : ∃ v, v = u7 := ⟨u7, rfl⟩
    subst hvv
    have Ho := hide ho
    have B := hide hb
    have hsz := hb.size
    clear ho hb
    by_cases hlt : k ≤ s.size
    · have hl : (numCells (findN f d e k)).length ≤ 1000000 := by rw [num_len]; have := findN_len f d e k; omega
      cases hoc : occB f d e k with
      | true =>
        have Hoc := hide hoc
        have E := hide (show numCells (findN f d e k) ++ [.int .i64 (k : Int)] = numCells (findN f d e (k + 1)) by rw [findN_yes f d e k hoc, num_app]; rfl)
        clear hoc
        go_wp2_with (first
          | (go_at_call 28; refine (Hocc.out k true _ hlt Hoc.out).mono ?_; rintro e w' ⟨rfl, rfl⟩)
          | (at_builtin; refine wp_push rfl (.tmp 20) (.tmp 22) 24 rfl 3 i0 (.int .i64 0) 8 Try.underlying24 hi hz0 hz1 hz2 rfl w.heap.size _ (numCells (findN f d e k)) rfl _ _ rfl Ho.out.src hsz _ rfl rfl (by omega) (by unfold maxLen; omega) ?_; intro v' w5 ho5 hb5)
          | fail)
        rw [E.out] at ho5
        have O5 := hide ho5
        have B5 := hide (B.out.trans hb5)
        clear ho5 hb5
        go_roundw
        case rel => exact ⟨k + 1, by omega, by go_num, O5.out, B5.out⟩
        case measure => simp [intOf]; omega
      | false =>
        have Hoc := hide hoc
        have E := hide (findN_no f d e k hoc)
        clear hoc
        go_wp2_with (first
          | (go_at_call 28; refine (Hocc.out k false _ hlt Hoc.out).mono ?_; rintro e w' ⟨rfl, rfl⟩)
          | fail)
        go_roundw
        case rel => exact ⟨k + 1, by omega, by go_num, by rw [E.out]; exact Ho.out, B.out⟩
        case measure => simp [intOf]; omega
    · obtain rfl : k = s.size + 1 := by omega
      have O := Ho.out
      rw [Hend.out] at O
      have HO := hide O
      clear O
      go_wp2
      go_ret
      exact GrewI.got ⟨v, rfl, HO.out, B.out⟩

set_option maxRecDepth 20000 in
set_option maxHeartbeats 1600000 in
theorem rcount15 (s t : ByteArray) (f : Bool) (w : World) (hs : s.size ≤ 100000) (ht : t.size ≤ 100000) :
    Calls Try.prog 15 #[.string s, .string t, .bool f] w fun e w' => e = .returned (.int .i64 (countS f s.data.toList t.data.toList : Nat)) ∧ w = w' := by
  obtain ⟨d, hd⟩ : ∃ d, s.data.toList = d := ⟨_, rfl⟩
  obtain ⟨e, he⟩ : ∃ e, t.data.toList = e := ⟨_, rfl⟩
  have ls := size_list s
  have lt := size_list t
  have Hocc := hide (show ∀ (k : Nat) (r : Bool) (w : World), k ≤ s.size → occB f d e k = r → Calls Try.prog 28 #[.string s, .string t, .int .i64 (k : Int), .bool f] w fun e w' => e = .returned (.bool r) ∧ w = w' from fun k r w h1 h2 => occ28 s t k f r w hs ht h1 (by rw [hd, he]; exact h2))
  rw [hd, he]
  rw [hd] at ls
  rw [he] at lt
  clear hd he
  by_cases h0 : t.size = 0
  · have Hc := hide (count_empty f d e (by omega))
    have Hls := hide ls
    have hb : ((t.size : Int) == 0) = true := by rw [h0]; rfl
    clear ls lt h0
    go_enter Try.func15, Try.ntmps15
    go_wp2
    go_ret
    exact ⟨ret_int (by rw [Hc.out, Hls.out]; omega), rfl⟩
  · have hb : ((t.size : Int) == 0) = false := beq_eq_false_iff_ne.2 (by omega)
    have Hst := hide (show stp e = t.size by unfold stp; omega)
    have Hend := hide (show ∀ k, s.size < k → cntK f d e k = 0 from fun k h => cntK_end f d e k (by omega))
    have hcl := count_le f d e
    rw [ls] at hcl
    clear ls lt
    obtain ⟨c, hc⟩ : ∃ c, countS f d e = c := ⟨_, rfl⟩
    rw [hc] at hcl ⊢
    have Hc0 := hide (show cntK f d e 0 = c from hc)
    clear hc
    go_enter Try.func15, Try.ntmps15
    go_wp2
    go_loop [7, 8] (fun x y => ∃ n k : Nat, n ≤ c ∧ k ≤ s.size + t.size ∧ x = .int .i64 (n : Int) ∧ y = .int .i64 (k : Int) ∧ n + cntK f d e k = c) (fun _ y => s.size + t.size + 1 - (intOf y).toNat)
    case atStart => exact ⟨0, 0, Nat.zero_le _, Nat.zero_le _, rfl, rfl, by rw [Hc0.out]; omega⟩
    case round =>
      obtain ⟨n, k, hn, hk, rfl, rfl, hm⟩ := hrel
      have Hm := hide hm
      clear hm
      by_cases hlt : k ≤ s.size
      · cases hoc : occB f d e k with
        | true =>
          have Hoc := hide hoc
          have hy := cntK_yes f d e k hoc
          rw [Hst.out] at hy
          have hm := Hm.out
          rw [hy] at hm
          have Hm2 := hide (show n + 1 + cntK f d e (k + t.size) = c by omega)
          have hn1 : n + 1 ≤ c := by omega
          clear hoc hy hm
          go_wp2_with (first
            | (go_at_call 28; refine (Hocc.out k true _ hlt Hoc.out).mono ?_; rintro e w' ⟨rfl, rfl⟩)
            | fail)
          go_round
          case rel => exact ⟨n + 1, k + t.size, by omega, by omega, by go_num, by go_num, Hm2.out⟩
          case measure => simp [intOf]; omega
        | false =>
          have Hoc := hide hoc
          have hm := Hm.out
          rw [cntK_no f d e k hoc] at hm
          have Hm2 := hide hm
          clear hoc hm
          go_wp2_with (first
            | (go_at_call 28; refine (Hocc.out k false _ hlt Hoc.out).mono ?_; rintro e w' ⟨rfl, rfl⟩)
            | fail)
          go_round
          case rel => exact ⟨n, k + 1, by omega, by omega, by go_num, by go_num, Hm2.out⟩
          case measure => simp [intOf]; omega
      · have hm := Hm.out
        rw [Hend.out k (by omega), Nat.add_zero] at hm
        have Hm2 := hide hm
        clear hm
        go_wp2
        go_ret
        exact ⟨ret_int (by rw [Hm2.out]), rfl⟩

end Go.Proofs.Ytdneoeiggebijaa
