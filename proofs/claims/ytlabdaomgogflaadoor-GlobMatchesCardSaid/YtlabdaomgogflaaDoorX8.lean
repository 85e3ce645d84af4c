/- The reference: Right and Prefix; the walk of the law on checks. -/
import Derived.Test.YtlabdaomgogflaaDoorX7
import Derived.Test.YtlabdaomgogflaaDoorWF
namespace Go.Proofs.YtlabdaomgogflaaDoor
open Go.RowKit

theorem el37_no (s : ByteArray) (w : World) (hs : s.size ≤ 100000) (h : elems s.data.toList = none) : Calls Tryd.prog 37 #[.string s] w fun e w' => e = .returned (.tuple #[.slice none 0 0, .bool false]) ∧ Below w.heap.size w w' :=
  (el37 s w hs).mono fun _ _ ⟨h1, _, h3⟩ => ⟨h1 h, h3⟩
theorem el37_yes (s : ByteArray) (es : List (List UInt8)) (n : Nat) (hn : es.length = n) (w : World) (hs : s.size ≤ 100000) (h : elems s.data.toList = some es) : Calls Tryd.prog 37 #[.string s] w fun e w' => (∃ ao cap vs, e = .returned (.tuple #[.slice ao n cap, .bool true]) ∧ RdS w' ao n cap 4 vs ∧ EAt w' w.heap.size es vs) ∧ Below w.heap.size w w' := by
  subst hn
  refine (el37 s w hs).mono ?_
  rintro e w' ⟨_, h2, h3⟩
  obtain ⟨v, vs, rfl, hown, hat⟩ := h2 es h
  obtain ⟨ao, cap, rfl, hr⟩ := (Rd.of_owns hown).s
  exact ⟨⟨ao, cap, vs, rfl, hr, hat⟩, h3⟩

set_option maxHeartbeats 1600000 in
theorem right23 (s : ByteArray) (w : World) (hs : s.size ≤ 100000) : Calls Tryd.prog 23 #[.string s] w fun e w' => e = .returned (.int .i64 (right s.data.toList)) ∧ Below w.heap.size w w' := by
  by_cases hbig : 60 < s.size
  · rw [right_big s hbig]
    go_enter Tryd.func23, Tryd.ntmps23
    go_wp2
    go_ret
    exact ⟨rfl, Below.refl _ _⟩
  have hbad := right_bad s hbig
  have hlast := right_last s hbig
  have Hbad := hide hbad
  have Hlast := hide hlast
  clear hbad hlast
  go_enter Tryd.func23, Tryd.ntmps23
  go_wp2
  go_loop [3] (fun i => ∃ k : Nat, k ≤ s.size ∧ i = .int .i64 k ∧ (s.data.toList.take k).all (fun c => !badByte c) = true) (fun i => s.size - (intOf i).toNat)
  case atStart => exact ⟨0, Nat.zero_le _, rfl, rfl⟩
  case round =>
    obtain ⟨k, hk, rfl, hall⟩ := hrel
    have Hall := hide hall
    clear hall
    by_cases hlt : k < s.size
    · have hbb : s[k].toNat < 256 := UInt8.toNat_lt _
      have hstep := take_all_snoc s k hlt (fun c => !badByte c)
      rw [Hall.out, Bool.true_and] at hstep
      have Hstep := hide hstep
      clear hstep
      rcases (show s[k].toNat < 33 ∨ (33 ≤ s[k].toNat ∧ s[k].toNat ≤ 126) ∨ (33 ≤ s[k].toNat ∧ 126 < s[k].toNat) from by omega) with h | ⟨h, h'⟩ | ⟨h, h'⟩
      · have hres := Hbad.out k hlt (by unfold badByte; exact decide_eq_true (Or.inl h))
        have Hres := hide hres
        clear hres
        go_wp2
        go_ret
        exact ⟨ret_int Hres.out.symm, Below.refl _ _⟩
      · have hres : (s.data.toList.take (k + 1)).all (fun c => !badByte c) = true := by
          rw [Hstep.out]
          unfold badByte
          rw [decide_eq_false (by omega)]
          rfl
        have Hres := hide hres
        clear hres
        go_wp2
        go_round
        case rel => exact ⟨k + 1, by omega, by go_num, Hres.out⟩
        case measure => simp [intOf]; omega
      · have hres := Hbad.out k hlt (by unfold badByte; exact decide_eq_true (Or.inr h'))
        have Hres := hide hres
        clear hres
        go_wp2
        go_ret
        exact ⟨ret_int Hres.out.symm, Below.refl _ _⟩
    · have hres := Hlast.out k (by omega) Hall.out
      cases hel : elems s.data.toList with
      | none =>
        rw [hel] at hres
        have Hres := hide hres
        have Hel := hide hel
        clear hres hel
        go_wp2_with (go_at_call 37; refine (el37_no s _ hs Hel.out).mono ?_; rintro e w1 ⟨rfl, hb1⟩)
        go_ret
        exact ⟨ret_int Hres.out.symm, hb1⟩
      | some es =>
        rw [hel] at hres
        have Hres := hide hres
        have Hel := hide hel
        clear hres hel
        go_wp2_with (go_at_call 37; refine (el37_yes s es _ rfl _ hs Hel.out).mono ?_; rintro e w1 ⟨⟨ao, cap, vs, rfl, _, _⟩, hb1⟩)
        go_ret
        exact ⟨ret_int Hres.out.symm, hb1⟩
theorem r23 (g : ByteArray) (r : Int) (hb : right g.data.toList = r) (w : World) (hg : g.size ≤ 100000) : Calls Tryd.prog 23 #[.string g] w fun e w' => e = .returned (.int .i64 r) ∧ Below w.heap.size w w' := by
  subst hb; exact right23 g w hg

theorem takeWhile_stop {α : Type} (p : α → Bool) : ∀ (l : List α) (k : Nat) (h : k < l.length), (l.take k).all p = true → p l[k] = false → l.takeWhile p = l.take k
  | a :: l, 0, _, _, h => by
    rw [List.takeWhile_cons]
    have : p a = false := h
    rw [this]; rfl
  | a :: l, k + 1, hk, ha, h => by
    rw [List.take_succ_cons, List.all_cons, Bool.and_eq_true] at ha
    rw [List.takeWhile_cons, if_pos ha.1, List.take_succ_cons, takeWhile_stop p l k (by simpa using hk) ha.2 h]
theorem takeWhile_full {α : Type} (p : α → Bool) : ∀ (l : List α), l.all p = true → l.takeWhile p = l
  | [], _ => rfl
  | a :: l, ha => by
    rw [List.all_cons, Bool.and_eq_true] at ha
    rw [List.takeWhile_cons, if_pos ha.1, takeWhile_full p l ha.2]
theorem pfxB_stop (s : ByteArray) (k : Nat) (h : k < s.size) (ha : (s.data.toList.take k).all plain = true) (hp : plain s[k] = false) : s.extract 0 k = pfxB s := by
  apply ba_ext
  rw [toList_extract0, pfxB_data]
  unfold pfx
  exact (takeWhile_stop plain _ k (by rw [size_list]; exact h) ha hp).symm
theorem pfxB_full (s : ByteArray) (k : Nat) (h : k = s.size) (ha : (s.data.toList.take k).all plain = true) : s = pfxB s := by
  apply ba_ext
  rw [pfxB_data]
  unfold pfx
  rw [List.take_of_length_le (by rw [size_list]; omega)] at ha
  exact (takeWhile_full plain _ ha).symm
theorem plain_no {c : UInt8} (h : c = 42 ∨ c = 63 ∨ c = 91) : plain c = false := by
  rcases h with rfl | rfl | rfl <;> decide
theorem plain_yes {c : UInt8} (h1 : c ≠ 42) (h2 : c ≠ 63) (h3 : c ≠ 91) : plain c = true := by
  unfold plain; simp [h1, h2, h3]

set_option maxHeartbeats 1600000 in
theorem prefix25 (s : ByteArray) (w : World) (hs : s.size ≤ 100000) : Calls Tryd.prog 25 #[.string s] w fun e w' => e = .returned (.string (pfxB s)) ∧ Below w.heap.size w w' := by
  have hstop := pfxB_stop s
  have hfull := pfxB_full s
  have Hstop := hide hstop
  have Hfull := hide hfull
  clear hstop hfull
  go_enter Tryd.func25, Tryd.ntmps25
  go_wp2
  go_loop [3] (fun i => ∃ k : Nat, k ≤ s.size ∧ i = .int .i64 k ∧ (s.data.toList.take k).all plain = true) (fun i => s.size - (intOf i).toNat)
  case atStart => exact ⟨0, Nat.zero_le _, rfl, rfl⟩
  case round =>
    obtain ⟨k, hk, rfl, hall⟩ := hrel
    have Hall := hide hall
    clear hall
    by_cases hlt : k < s.size
    · have hbb : s[k].toNat < 256 := UInt8.toNat_lt _
      have hstep := take_all_snoc s k hlt plain
      rw [Hall.out, Bool.true_and] at hstep
      have Hstep := hide hstep
      clear hstep
      by_cases h42 : s[k] = 42
      · have e42 : ((s[k].toNat : Int) == 42) = true := u8t h42
        have hres := Hstop.out k hlt Hall.out (plain_no (Or.inl h42))
        have Hres := hide hres
        clear hres h42
        go_wp2
        go_ret
        exact ⟨ret_str Hres.out, Below.refl _ _⟩
      · have e42 : ((s[k].toNat : Int) == 42) = false := u8f h42
        by_cases h63 : s[k] = 63
        · have e63 : ((s[k].toNat : Int) == 63) = true := u8t h63
          have hres := Hstop.out k hlt Hall.out (plain_no (Or.inr (Or.inl h63)))
          have Hres := hide hres
          clear hres h42 h63
          go_wp2
          go_ret
          exact ⟨ret_str Hres.out, Below.refl _ _⟩
        · have e63 : ((s[k].toNat : Int) == 63) = false := u8f h63
          by_cases h91 : s[k] = 91
          · have e91 : ((s[k].toNat : Int) == 91) = true := u8t h91
            have hres := Hstop.out k hlt Hall.out (plain_no (Or.inr (Or.inr h91)))
            have Hres := hide hres
            clear hres h42 h63 h91
            go_wp2
            go_ret
            exact ⟨ret_str Hres.out, Below.refl _ _⟩
          · have e91 : ((s[k].toNat : Int) == 91) = false := u8f h91
            have hres : (s.data.toList.take (k + 1)).all plain = true := by
              rw [Hstep.out]; exact plain_yes h42 h63 h91
            have Hres := hide hres
            clear hres h42 h63 h91
            go_wp2
            go_round
            case rel => exact ⟨k + 1, by omega, by go_num, Hres.out⟩
            case measure => simp [intOf]; omega
    · have hres := Hfull.out k (by omega) Hall.out
      have Hres := hide hres
      clear hres
      go_wp2
      go_ret
      exact ⟨ret_str Hres.out, Below.refl _ _⟩
theorem prefix25' (s x : ByteArray) (hx : pfxB s = x) (w : World) (hs : s.size ≤ 100000) : Calls Tryd.prog 25 #[.string s] w fun e w' => e = .returned (.string x) ∧ Below w.heap.size w w' := by
  subst hx; exact prefix25 s w hs

set_option maxHeartbeats 1600000 in
theorem law4 (g : ByteArray) (w : World) (hm : HasM w) (hg : g.size ≤ 9223372036854775807) : Calls Tryd.prog 4 #[.string g] w fun e w' => e = .returned (.bool true) ∧ Below w.heap.size w w' := by
  by_cases h1 : g.size ≤ 200
  · obtain ⟨r, hr⟩ : ∃ r, right g.data.toList = r := ⟨_, rfl⟩
    have hrr := right_range g.data.toList
    rw [hr] at hrr
    obtain ⟨hr0, hr4⟩ := hrr
    obtain ⟨x, hx⟩ : ∃ x, pfxB g = x := ⟨_, rfl⟩
    have hxx : (x.toList == x.toList) = true := beq_self_eq_true _
    have Hr := hide hr
    have Hx := hide hx
    clear hr hx
    go_enter Tryd.func4, Tryd.ntmps4
    go_wp2_with fail
    refine (alive10 _ hm).mono ?_
    rintro e w1 ⟨rfl, hb1⟩
    have H1 := hide hb1
    clear hb1
    go_wp2_with fail
    refine (short_t g h1 _).mono ?_
    rintro e w' ⟨rfl, rfl⟩
    go_wp2_with fail
    refine (r22 g r Hr.out _ (by omega)).mono ?_
    rintro e w2 ⟨rfl, hb2⟩
    have H2 := hide (bgo H1.out hb2)
    clear hb2 H1
    go_wp2_with fail
    refine (r23 g r Hr.out _ (by omega)).mono ?_
    rintro e w3 ⟨rfl, hb3⟩
    have H3 := hide (bgo H2.out hb3)
    clear hb3 H2
    go_wp2_with fail
    refine (prefix24' g x Hx.out _ (by omega)).mono ?_
    rintro e w4 ⟨rfl, hb4⟩
    have H4 := hide (bgo H3.out hb4)
    clear hb4 H3
    go_wp2_with fail
    refine (prefix25' g x Hx.out _ (by omega)).mono ?_
    rintro e w5 ⟨rfl, hb5⟩
    have H5 := hide (bgo H4.out hb5)
    clear hb5 H4
    go_wp2
    go_ret
    exact ⟨rfl, H5.out⟩
  · go_enter Tryd.func4, Tryd.ntmps4
    go_wp2_with fail
    refine (alive10 _ hm).mono ?_
    rintro e w1 ⟨rfl, hb1⟩
    go_wp2_with fail
    refine (short_f g h1 _ hg).mono ?_
    rintro e w' ⟨rfl, rfl⟩
    go_wp2
    go_ret
    exact ⟨rfl, hb1⟩

end Go.Proofs.YtlabdaomgogflaaDoor
