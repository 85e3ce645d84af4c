/- Walks of layer 8's laws: size, small. -/
import Derived.Test.YtmiegjefmebpdaaGreatDoorK5
namespace Go.Proofs.YtmiegjefmebpdaaGreatDoor
open Go.RowKit

/-- The law's size: at most so many levels. -/
def lawSz : Nat → Rx → Nat
  | 0, _ => 1000
  | n + 1, .mk _ set _ _ l => if 50 < set.length ∨ 100 < l.length then 1000 else l.foldl (fun acc x => if acc < 1000 then acc + lawSz n x else acc) 1
def lawSt (n : Nat) (acc : Nat) (x : Rx) : Nat := if acc < 1000 then acc + lawSz n x else acc
theorem lawSz_zero (r : Rx) : lawSz 0 r = 1000 := by cases r; rfl
theorem lawSz_big {n : Nat} {k a b : Int} {s : List (UInt8 × UInt8)} {l : List Rx} (h : 50 < s.length ∨ 100 < l.length) : lawSz (n + 1) (.mk k s a b l) = 1000 := by
  show (if 50 < s.length ∨ 100 < l.length then 1000 else _) = 1000
  rw [if_pos h]
theorem lawSz_in {n : Nat} {k a b : Int} {s : List (UInt8 × UInt8)} {l : List Rx} (h : ¬ (50 < s.length ∨ 100 < l.length)) : lawSz (n + 1) (.mk k s a b l) = l.foldl (lawSt n) 1 := by
  show (if 50 < s.length ∨ 100 < l.length then 1000 else _) = _
  rw [if_neg h]
  rfl
theorem lawSt_le (n : Nat) (l : List Rx) : ∀ acc, acc ≤ l.foldl (lawSt n) acc := by
  induction l with
  | nil => intro acc; exact Nat.le_refl _
  | cons x l ih =>
    intro acc
    have := ih (lawSt n acc x)
    have h2 : acc ≤ lawSt n acc x := by unfold lawSt; split <;> omega
    rw [List.foldl_cons]
    omega
theorem lawSt_top (n M : Nat) (l : List Rx) (h : ∀ x ∈ l, lawSz n x ≤ M) : ∀ acc, acc ≤ 999 + M → l.foldl (lawSt n) acc ≤ 999 + M := by
  induction l with
  | nil => intro acc ha; exact ha
  | cons x l ih =>
    intro acc ha
    rw [List.foldl_cons]
    refine ih (fun y hy => h y (by simp [hy])) _ ?_
    have := h x (by simp)
    unfold lawSt
    split <;> omega
theorem lawSz_top (n : Nat) : ∀ (r : Rx), lawSz n r ≤ 1000 * (n + 1) := by
  induction n with
  | zero => intro r; rw [lawSz_zero]; omega
  | succ n ih =>
    intro r
    obtain ⟨k, s, a, b, l⟩ := r
    by_cases h : 50 < s.length ∨ 100 < l.length
    · rw [lawSz_big h]; omega
    · rw [lawSz_in h]
      obtain ⟨M, hM⟩ : ∃ M, 1000 * (n + 1) = M := ⟨_, rfl⟩
      have e : 1000 * (n + 1 + 1) = M + 1000 := by omega
      rw [hM] at ih
      rw [e]
      exact Nat.le_trans (lawSt_top n M l (fun x _ => ih x) 1 (by omega)) (by omega)
/-- No set of more than 256 ranges. -/
inductive Tame : Rx → Prop
  | mk (k a b : Int) (s : List (UInt8 × UInt8)) (l : List Rx) (hs : s.length ≤ 256) (hl : ∀ x ∈ l, Tame x) : Tame (.mk k s a b l)
theorem lawSz_ok : ∀ (n : Nat) (r : Rx), lawSz n r ≤ 100 → sizeR r ≤ lawSz n r ∧ depthR r ≤ n ∧ Tame r
  | 0, r, h => by rw [lawSz_zero] at h; omega
  | n + 1, .mk k s a b l, h => by
    by_cases hb : 50 < s.length ∨ 100 < l.length
    · rw [lawSz_big hb] at h; omega
    · rw [lawSz_in hb] at h ⊢
      have key : ∀ (m : List Rx) (acc : Nat), m.foldl (lawSt n) acc ≤ 100 → (acc + sizeL m ≤ m.foldl (lawSt n) acc ∧ depthL m ≤ n ∧ ∀ x ∈ m, Tame x) := by
        intro m
        induction m with
        | nil => intro acc h; exact ⟨by simp [sizeL], by simp [depthL], fun x hx => by simp at hx⟩
        | cons x m ih =>
          intro acc h
          rw [List.foldl_cons] at h ⊢
          have h1 := lawSt_le n m (lawSt n acc x)
          have hlt : acc < 1000 := by
            refine Nat.lt_of_not_le fun hge => ?_
            have h3 : lawSt n acc x = acc := by unfold lawSt; rw [if_neg (by omega)]
            rw [h3] at h1 h
            omega
          have e : lawSt n acc x = acc + lawSz n x := by unfold lawSt; rw [if_pos hlt]
          rw [e] at h1
          obtain ⟨a1, a2, a3⟩ := ih _ h
          obtain ⟨b1, b2, b3⟩ := lawSz_ok n x (by omega)
          refine ⟨by simp only [sizeL]; omega, by simp only [depthL]; omega, fun y hy => ?_⟩
          rcases List.mem_cons.1 hy with rfl | hy
          · exact b3
          · exact a3 y hy
      obtain ⟨a1, a2, a3⟩ := key l 1 h
      exact ⟨by simp only [sizeR]; omega, by simp only [depthR]; omega, .mk k a b s l (by omega) a3⟩

set_option maxRecDepth 100000 in
set_option maxHeartbeats 6400000 in
theorem size30 : ∀ (r : Rx) (W : World) (ok : Nat → Prop) (v : Value) (n : Nat), RxV W ok v r → n ≤ 1000 → Calls Tryz.prog 30 #[v, .int .i64 (n : Int)] W fun e w' => e = .returned (.int .i64 (lawSz n r : Nat)) ∧ Below W.heap.size W w' := by
  intro r
  induction r using Rx.ind with
  | h k s a b l ih =>
    intro W ok v n hv hn
    cases hv with
    | mk _ _ _ A B p c m d _ vs _ hset hvs hlen hk ha hb hr =>
    have hmd := hvs.1
    have hdd := hvs.2.1
    have hpc := hset.1
    have hcc := hset.2.1
    have hsl := hset.2.2.1
    have Hvs := hide hvs
    have Hlen := hide hlen
    have Hr := hide hr
    have hB := bnew (Below.refl _ W) (.cells #[.int .i64 k, .slice A p c, .int .i64 a, .int .i64 b, .slice B m d] 25)
    have BB := hide hB
    have F := hide (five_new W (.int .i64 k) (.slice A p c) (.int .i64 a) (.int .i64 b) (.slice B m d) 25)
    match n, hn with
    | 0, _ =>
      have Hz := hide (lawSz_zero (.mk k s a b l))
      clear hset hvs hr hB hlen hsl
      go_enter Tryz.func30, Tryz.ntmps30
      go_wp2_with fail
      go_ret
      exact ⟨ret_int (by rw [Hz.out]; rfl), BB.out⟩
    | n + 1, hn =>
      have hne : (((n + 1 : Nat) : Int) == 0) = false := beq_eq_false_iff_ne.2 (by omega)
      obtain ⟨N, hN⟩ : ∃ N, n + 1 = N := ⟨_, rfl⟩
      rw [hN] at hne ⊢
      have hN1 : 1 ≤ N := by omega
      have hN2 : N ≤ 1000 := by omega
      have hNi : (N : Int) - 1 = (n : Int) := by omega
      by_cases h50 : 50 < p
      · have Hz := hide (show lawSz N (.mk k s a b l) = 1000 by rw [← hN]; exact lawSz_big (Or.inl (by rw [hsl]; exact h50)))
        clear hset hvs hr hB hlen hsl hN hNi
        go_enter Tryz.func30, Tryz.ntmps30
        go_wp2_with fail
        go_ret
        exact ⟨ret_int (by rw [Hz.out]; rfl), BB.out⟩
      · by_cases h100 : 100 < m
        · have Hz := hide (show lawSz N (.mk k s a b l) = 1000 by rw [← hN]; exact lawSz_big (Or.inr (by rw [hlen]; exact h100)))
          clear hset hvs hr hB hlen hsl hN hNi
          go_enter Tryz.func30, Tryz.ntmps30
          go_wp2_with fail
          go_ret
          exact ⟨ret_int (by rw [Hz.out]; rfl), BB.out⟩
        · have Hz := hide (show lawSz N (.mk k s a b l) = l.foldl (lawSt n) 1 by rw [← hN]; exact lawSz_in (by rw [hsl, hlen]; omega))
          have HNi := hide hNi
          have htop := hide (fun i => lawSt_top n (1000 * (n + 1)) (l.take i) (fun x _ => lawSz_top n x) 1 (by omega))
          clear hset hvs hr hB hlen hsl hN hNi
          go_enter Tryz.func30, Tryz.ntmps30
          go_wp2_with fail
          go_loopw [5, 6] (fun y x wr => ∃ (i z : Nat), i ≤ m ∧ x = .int .i64 (i : Int) ∧ y = .int .i64 (z : Int) ∧ (l.take i).foldl (lawSt n) 1 = z ∧ Below (W.alloc (.cells #[.int .i64 k, .slice A p c, .int .i64 a, .int .i64 b, .slice B m d] 25)).heap.size (W.alloc (.cells #[.int .i64 k, .slice A p c, .int .i64 a, .int .i64 b, .slice B m d] 25)) wr) (fun _ x _ => m - (intOf x).toNat)
          case atStart => exact ⟨0, 1, Nat.zero_le _, rfl, rfl, rfl, Below.refl _ _⟩
          case round =>
            obtain ⟨i, z, hi, rfl, rfl, hz, hbel⟩ := hrel
            obtain ⟨w3, hw3⟩ : ∃ w3, w3 = wr := ⟨wr, rfl⟩
            subst hw3
            obtain ⟨_, t0, t1, t2, t3, t4⟩ := F.out.keep hbel
            have B3 := hide hbel
            have B4 := hide (bgo BB.out hbel)
            have hzt := htop.out i
            rw [hz] at hzt
            have hzb : z ≤ 2000000 := by omega
            have Hzz := hide hz
            clear hz hzt
            by_cases hlt : i < m
            · by_cases hz1 : z < 1000
              · obtain ⟨g, o, c0, c1, c2, c3, c4, rfl, hx, x0, x1, x2, x3, x4⟩ := (Hvs.out.below B4.out).at_ hlt
                have hil : i < l.length := by rw [Hlen.out]; exact hlt
                have hxl := List.getElem?_eq_getElem hil
                have rx := Hr.out i _ _ hx hxl
                obtain ⟨x, hxe⟩ : ∃ x, l[i] = x := ⟨_, rfl⟩
                rw [hxe] at hxl rx
                have hmem : x ∈ l := List.mem_of_getElem? hxl
                obtain ⟨y, hy⟩ : ∃ y, lawSz n x = y := ⟨_, rfl⟩
                have hyb := lawSz_top n x
                rw [hy] at hyb
                have HC := ih x hmem w3 ok _ n (rx.kept B4.out) (by omega)
                rw [hy, ← HNi.out] at HC
                have HC := hide HC
                have hyb2 : y ≤ 2000000 := by omega
                have Hn := hide (show (l.take (i + 1)).foldl (lawSt n) 1 = z + y by
                  rw [rx_take hxl, List.foldl_append, Hzz.out]
                  show lawSt n z x = _
                  unfold lawSt
                  rw [if_pos hz1, hy])
                clear hx hxl rx hxe hmem hy hbel hyb
                go_wp2_with fail
                with_reducible refine HC.out.mono ?_
                rintro e w4 ⟨rfl, hb4⟩
                have B6 := hide (B3.out.trans (hb4.mono B3.out.size))
                clear hb4
                go_wp2
                go_roundw
                case rel => exact ⟨i + 1, z + y, by omega, by go_num, by go_num, Hn.out, B6.out⟩
                case measure => simp [intOf]; omega
              · have hstay : ∀ (m : List Rx), m.foldl (lawSt n) z = z := by
                  intro m
                  induction m with
                  | nil => rfl
                  | cons x m ih => rw [List.foldl_cons]; have : lawSt n z x = z := (by unfold lawSt; rw [if_neg hz1]); rw [this, ih]
                have Hn := hide (show (z : Int) = ((lawSz N (.mk k s a b l) : Nat) : Int) by
                  rw [Hz.out, ← List.take_append_drop i l, List.foldl_append, Hzz.out, hstay])
                clear hbel hstay
                go_wp2_with fail
                go_ret
                exact ⟨ret_int Hn.out, B4.out⟩
            · have hall := Hzz.out
              rw [List.take_of_length_le (by rw [Hlen.out]; omega)] at hall
              have Hn := hide (show (z : Int) = ((lawSz N (.mk k s a b l) : Nat) : Int) by rw [Hz.out, hall])
              clear hall hbel
              go_wp2_with fail
              go_ret
              exact ⟨ret_int Hn.out, B4.out⟩

theorem small11 {W : World} {ok : Nat → Prop} {v : Value} {r : Rx} (hv : RxV W ok v r) : Calls Tryz.prog 11 #[v] W fun e w' => e = .returned (.bool (decide (lawSz 30 r ≤ 100))) ∧ Below W.heap.size W w' := by
  have hv0 := hv
  cases hv with
  | mk k a b A B p c m d s vs l hset hvs hlen hk ha hb hr =>
  have hB := bnew (Below.refl _ W) (.cells #[.int .i64 k, .slice A p c, .int .i64 a, .int .i64 b, .slice B m d] 25)
  have BB := hide hB
  have V := hv0.kept hB
  obtain ⟨r, hr'⟩ : ∃ r, Rx.mk k s a b l = r := ⟨_, rfl⟩
  rw [hr'] at V ⊢
  clear hset hvs hlen hk ha hb hr hv0 hB hr'
  obtain ⟨z, hz⟩ : ∃ z, lawSz 30 r = z := ⟨_, rfl⟩
  have HC := size30 r _ ok _ 30 V (by decide)
  rw [hz] at HC
  have HC := hide (show Calls Tryz.prog 30 #[.agg #[.int .i64 k, .slice A p c, .int .i64 a, .int .i64 b, .slice B m d], .int .i64 30] (W.alloc (.cells #[.int .i64 k, .slice A p c, .int .i64 a, .int .i64 b, .slice B m d] 25)) fun e w' => e = .returned (.int .i64 (z : Nat)) ∧ Below (W.alloc (.cells #[.int .i64 k, .slice A p c, .int .i64 a, .int .i64 b, .slice B m d] 25)).heap.size (W.alloc (.cells #[.int .i64 k, .slice A p c, .int .i64 a, .int .i64 b, .slice B m d] 25)) w' from HC)
  rw [hz]
  have hzt := lawSz_top 30 r
  rw [hz] at hzt
  clear hz V
  go_enter Tryz.func11, Tryz.ntmps11
  go_wp2_with fail
  with_reducible refine HC.out.mono ?_
  rintro e w' ⟨rfl, hb⟩
  have B' := hide (bgo BB.out hb)
  clear hb
  go_wp2
  go_ret
  exact ⟨ret_bool (decide_eq_decide.2 (by omega)), B'.out⟩

end Go.Proofs.YtmiegjefmebpdaaGreatDoor
