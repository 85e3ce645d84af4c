/- Walks of layer 8's reference: node, Size, Depth, Right. -/
import Derived.Test.YtmiegjefmebpdaaGreatDoorK3
namespace Go.Proofs.YtmiegjefmebpdaaGreatDoor
open Go.RowKit

theorem rx_take {l : List Rx} {i : Nat} {x : Rx} (h : l[i]? = some x) : l.take (i + 1) = l.take i ++ [x] := by
  obtain ⟨h1, e⟩ := List.getElem?_eq_some_iff.1 h
  rw [List.take_succ_eq_append_getElem h1, e]
theorem nodeL_all : ∀ {l : List Rx}, (∀ x ∈ l, nodeR x = 0) → nodeL l = 0
  | [], _ => rfl
  | x :: l, h => by unfold nodeL; rw [if_pos (h x (by simp))]; exact nodeL_all fun y hy => h y (by simp [hy])
theorem nodeL_at : ∀ {l : List Rx} {i : Nat} {x : Rx}, l[i]? = some x → (∀ y ∈ l.take i, nodeR y = 0) → nodeR x ≠ 0 → nodeL l = nodeR x
  | [], i, x, h, _, _ => by simp at h
  | y :: l, 0, x, h, _, hx => by
    simp at h
    subst h
    unfold nodeL
    rw [if_neg hx]
  | y :: l, i + 1, x, h, hm, hx => by
    simp at h
    unfold nodeL
    rw [if_pos (hm y (by simp))]
    exact nodeL_at h (fun z hz => hm z (by simp [hz])) hx
theorem sizeL_app (a : List Rx) (x : Rx) : sizeL (a ++ [x]) = sizeL a + sizeR x := by
  induction a with
  | nil => simp [sizeL]
  | cons y a ih => simp only [List.cons_append, sizeL]; rw [ih]; omega
theorem depthL_app (a : List Rx) (x : Rx) : depthL (a ++ [x]) = max (depthL a) (depthR x) := by
  induction a with
  | nil => simp [depthL]
  | cons y a ih => simp only [List.cons_append, depthL]; rw [ih]; omega
theorem sizeL_mem {l : List Rx} {x : Rx} (h : x ∈ l) : sizeR x ≤ sizeL l := by
  induction l with
  | nil => simp at h
  | cons y l ih =>
    unfold sizeL
    rcases List.mem_cons.1 h with rfl | h
    · omega
    · have := ih h; omega
theorem sizeL_take (l : List Rx) (i : Nat) : sizeL (l.take i) ≤ sizeL l := by
  induction l generalizing i with
  | nil => simp [sizeL]
  | cons y l ih =>
    cases i with
    | zero => simp [sizeL]
    | succ i => simp only [List.take_succ_cons, sizeL]; have := ih i; omega
theorem depthL_mem {l : List Rx} {x : Rx} (h : x ∈ l) : depthR x ≤ depthL l := by
  induction l with
  | nil => simp at h
  | cons y l ih =>
    unfold depthL
    rcases List.mem_cons.1 h with rfl | h
    · omega
    · have := ih h; omega
theorem depthL_take (l : List Rx) (i : Nat) : depthL (l.take i) ≤ depthL l := by
  induction l generalizing i with
  | nil => simp [depthL]
  | cons y l ih =>
    cases i with
    | zero => simp [depthL]
    | succ i => simp only [List.take_succ_cons, depthL]; have := ih i; omega
theorem node_range (r : Rx) : nodeR r = 0 ∨ nodeR r = 1 ∨ nodeR r = 2 := by
  induction r using Rx.ind with
  | h k s a b l ih =>
    have : ∀ m : List Rx, (∀ x ∈ m, nodeR x = 0 ∨ nodeR x = 1 ∨ nodeR x = 2) → nodeL m = 0 ∨ nodeL m = 1 ∨ nodeL m = 2 := by
      intro m
      induction m with
      | nil => intro _; exact Or.inl rfl
      | cons x m ihm =>
        intro h
        unfold nodeL
        split
        · exact ihm fun y hy => h y (by simp [hy])
        · exact h x (by simp)
    unfold nodeR
    split
    · exact Or.inr (Or.inl rfl)
    · split
      · exact Or.inr (Or.inr rfl)
      · exact this l ih

set_option maxRecDepth 100000 in
set_option maxHeartbeats 6400000 in
theorem size34 : ∀ (r : Rx) (W : World) (ok : Nat → Prop) (v : Value), RxV W ok v r → sizeR r ≤ 1000000 → Calls Tryz.prog 34 #[v] W fun e w' => e = .returned (.int .i64 (sizeR r : Nat)) ∧ Below W.heap.size W w' := by
  intro r
  induction r using Rx.ind with
  | h k s a b l ih =>
    intro W ok v hv hsz
    cases hv with
    | mk _ _ _ A B n c m d _ vs _ hset hvs hlen hk ha hb hr =>
    have hmd := hvs.1
    have hdd := hvs.2.1
    have Hvs := hide hvs
    have Hlen := hide hlen
    have Hr := hide hr
    have hB := bnew (Below.refl _ W) (.cells #[.int .i64 k, .slice A n c, .int .i64 a, .int .i64 b, .slice B m d] 25)
    have BB := hide hB
    have F := hide (five_new W (.int .i64 k) (.slice A n c) (.int .i64 a) (.int .i64 b) (.slice B m d) 25)
    have hl : sizeL l ≤ 1000000 := by unfold sizeR at hsz; omega
    have Hres := hide (show sizeR (.mk k s a b l) = 1 + sizeL l from rfl)
    have hml : m ≤ 1000000 := by
      have : ∀ l : List Rx, l.length ≤ sizeL l := by
        intro l
        induction l with
        | nil => simp
        | cons x l ih => simp only [sizeL, List.length_cons]; have : 1 ≤ sizeR x := (by cases x; unfold sizeR; omega); omega
      have := this l
      omega
    clear hset hvs hr hB hlen hsz
    go_enter Tryz.func34, Tryz.ntmps34
    go_wp2
    go_loopw [3, 4] (fun y x wr => ∃ (i z : Nat), i ≤ m ∧ x = .int .i64 (i : Int) ∧ y = .int .i64 (z : Int) ∧ z = 1 + sizeL (l.take i) ∧ Below (W.alloc (.cells #[.int .i64 k, .slice A n c, .int .i64 a, .int .i64 b, .slice B m d] 25)).heap.size (W.alloc (.cells #[.int .i64 k, .slice A n c, .int .i64 a, .int .i64 b, .slice B m d] 25)) wr) (fun _ x _ => m - (intOf x).toNat)
    case atStart => exact ⟨0, 1, Nat.zero_le _, rfl, rfl, rfl, Below.refl _ _⟩
    case round =>
      obtain ⟨i, z, hi, rfl, rfl, hz, hbel⟩ := hrel
      obtain ⟨w3, hw3⟩ : ∃ w3, w3 = wr := ⟨wr, rfl⟩
      subst hw3
      obtain ⟨_, t0, t1, t2, t3, t4⟩ := F.out.keep hbel
      have B3 := hide hbel
      have B4 := hide (bgo BB.out hbel)
      have htk := sizeL_take l i
      have hzb : z ≤ 1000001 := by omega
      have Hz := hide hz
      clear hz htk
      by_cases hlt : i < m
      · obtain ⟨g, o, c0, c1, c2, c3, c4, rfl, hx, x0, x1, x2, x3, x4⟩ := (Hvs.out.below B4.out).at_ hlt
        have hil : i < l.length := by rw [Hlen.out]; exact hlt
        have hxl := List.getElem?_eq_getElem hil
        have rx := Hr.out i _ _ hx hxl
        obtain ⟨x, hxe⟩ : ∃ x, l[i] = x := ⟨_, rfl⟩
        rw [hxe] at hxl rx
        have hmem : x ∈ l := List.mem_of_getElem? hxl
        have hxs := sizeL_mem hmem
        obtain ⟨y, hy⟩ : ∃ y, sizeR x = y := ⟨_, rfl⟩
        have HC := hide (ih x hmem w3 ok _ (rx.kept B4.out) (by omega))
        rw [hy] at HC
        have hyb : y ≤ 1000000 := by omega
        have Hn := hide (show z + y = 1 + sizeL (l.take (i + 1)) by rw [rx_take hxl, sizeL_app, hy, Hz.out]; omega)
        clear hx hxl rx hxe hmem hxs hy hbel
        go_wp2_with fail
        with_reducible refine HC.out.mono ?_
        rintro e w4 ⟨rfl, hb4⟩
        have B6 := hide (B3.out.trans (hb4.mono B3.out.size))
        clear hb4
        go_wp2
        go_roundw
        case rel => exact ⟨i + 1, z + y, by omega, by go_num, by go_num, Hn.out, B6.out⟩
        case measure => simp [intOf]; omega
      · have hall := Hz.out
        rw [List.take_of_length_le (by rw [Hlen.out]; omega)] at hall
        have Hn := hide (show (z : Int) = ((sizeR (.mk k s a b l) : Nat) : Int) by rw [Hres.out, hall])
        clear hall hbel
        go_wp2
        go_ret
        exact ⟨ret_int Hn.out, B4.out⟩

set_option maxRecDepth 100000 in
set_option maxHeartbeats 6400000 in
theorem depth35 : ∀ (r : Rx) (W : World) (ok : Nat → Prop) (v : Value), RxV W ok v r → depthR r ≤ 1000000 → Calls Tryz.prog 35 #[v] W fun e w' => e = .returned (.int .i64 (depthR r : Nat)) ∧ Below W.heap.size W w' := by
  intro r
  induction r using Rx.ind with
  | h k s a b l ih =>
    intro W ok v hv hsz
    cases hv with
    | mk _ _ _ A B n c m d _ vs _ hset hvs hlen hk ha hb hr =>
    have hmd := hvs.1
    have hdd := hvs.2.1
    have Hvs := hide hvs
    have Hlen := hide hlen
    have Hr := hide hr
    have hB := bnew (Below.refl _ W) (.cells #[.int .i64 k, .slice A n c, .int .i64 a, .int .i64 b, .slice B m d] 25)
    have BB := hide hB
    have F := hide (five_new W (.int .i64 k) (.slice A n c) (.int .i64 a) (.int .i64 b) (.slice B m d) 25)
    have hl : depthL l ≤ 1000000 := by unfold depthR at hsz; omega
    have Hres := hide (show depthR (.mk k s a b l) = depthL l + 1 from rfl)
    clear hset hvs hr hB hlen hsz
    go_enter Tryz.func35, Tryz.ntmps35
    go_wp2
    go_loopw [3, 4] (fun y x wr => ∃ (i z : Nat), i ≤ m ∧ x = .int .i64 (i : Int) ∧ y = .int .i64 (z : Int) ∧ z = depthL (l.take i) ∧ Below (W.alloc (.cells #[.int .i64 k, .slice A n c, .int .i64 a, .int .i64 b, .slice B m d] 25)).heap.size (W.alloc (.cells #[.int .i64 k, .slice A n c, .int .i64 a, .int .i64 b, .slice B m d] 25)) wr) (fun _ x _ => m - (intOf x).toNat)
    case atStart => exact ⟨0, 0, Nat.zero_le _, rfl, rfl, rfl, Below.refl _ _⟩
    case round =>
      obtain ⟨i, z, hi, rfl, rfl, hz, hbel⟩ := hrel
      obtain ⟨w3, hw3⟩ : ∃ w3, w3 = wr := ⟨wr, rfl⟩
      subst hw3
      obtain ⟨_, t0, t1, t2, t3, t4⟩ := F.out.keep hbel
      have B3 := hide hbel
      have B4 := hide (bgo BB.out hbel)
      have htk := depthL_take l i
      have hzb : z ≤ 1000001 := by omega
      have Hz := hide hz
      clear hz htk
      by_cases hlt : i < m
      · obtain ⟨g, o, c0, c1, c2, c3, c4, rfl, hx, x0, x1, x2, x3, x4⟩ := (Hvs.out.below B4.out).at_ hlt
        have hil : i < l.length := by rw [Hlen.out]; exact hlt
        have hxl := List.getElem?_eq_getElem hil
        have rx := Hr.out i _ _ hx hxl
        obtain ⟨x, hxe⟩ : ∃ x, l[i] = x := ⟨_, rfl⟩
        rw [hxe] at hxl rx
        have hmem : x ∈ l := List.mem_of_getElem? hxl
        have hxs := depthL_mem hmem
        obtain ⟨y, hy⟩ : ∃ y, depthR x = y := ⟨_, rfl⟩
        have HC := hide (ih x hmem w3 ok _ (rx.kept B4.out) (by omega))
        rw [hy] at HC
        have hyb : y ≤ 1000000 := by omega
        have Hn := hide (show max z y = depthL (l.take (i + 1)) by rw [rx_take hxl, depthL_app, hy, Hz.out])
        clear hx hxl rx hxe hmem hxs hy hbel
        by_cases hgt : z < y
        · have Hn2 := hide (show y = depthL (l.take (i + 1)) by rw [← Hn.out]; omega)
          go_wp2_with fail
          with_reducible refine HC.out.mono ?_
          rintro e w4 ⟨rfl, hb4⟩
          have B6 := hide (B3.out.trans (hb4.mono B3.out.size))
          clear hb4
          go_wp2
          go_roundw
          case rel => exact ⟨i + 1, y, by omega, by go_num, rfl, Hn2.out, B6.out⟩
          case measure => simp [intOf]; omega
        · have Hn2 := hide (show z = depthL (l.take (i + 1)) by rw [← Hn.out]; omega)
          go_wp2_with fail
          with_reducible refine HC.out.mono ?_
          rintro e w4 ⟨rfl, hb4⟩
          have B6 := hide (B3.out.trans (hb4.mono B3.out.size))
          clear hb4
          go_wp2
          go_roundw
          case rel => exact ⟨i + 1, z, by omega, by go_num, rfl, Hn2.out, B6.out⟩
          case measure => simp [intOf]; omega
      · have hall := Hz.out
        rw [List.take_of_length_le (by rw [Hlen.out]; omega)] at hall
        have Hn := hide (show (z : Int) + 1 = ((depthR (.mk k s a b l) : Nat) : Int) by rw [Hres.out, hall]; omega)
        clear hall hbel
        go_wp2
        go_ret
        exact ⟨ret_int Hn.out, B4.out⟩

end Go.Proofs.YtmiegjefmebpdaaGreatDoor
