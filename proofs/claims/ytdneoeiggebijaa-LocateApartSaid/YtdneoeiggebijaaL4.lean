/- Walks of layer 7's reference: at, follows, Candidates. -/
import Derived.Test.YtdneoeiggebijaaL3
namespace Go.Proofs.Ytdneoeiggebijaa
open Go.RowKit

theorem atS_drop_hit (gs : List (Int × List Int)) (k : Nat) (z : Int) (l : List Int) (h : gs[k]? = some (z, l)) : atS (gs.drop k) z = l := by
  obtain ⟨hk, e⟩ := List.getElem?_eq_some_iff.1 h
  rw [List.drop_eq_getElem_cons hk, e]
  show (if z = z then l else _) = l
  rw [if_pos rfl]
theorem atS_drop_miss (gs : List (Int × List Int)) (k : Nat) (z c : Int) (l : List Int) (h : gs[k]? = some (z, l)) (hne : ¬ z = c) : atS (gs.drop k) c = atS (gs.drop (k + 1)) c := by
  obtain ⟨hk, e⟩ := List.getElem?_eq_some_iff.1 h
  rw [List.drop_eq_getElem_cons hk, e]
  show (if z = c then l else _) = _
  rw [if_neg hne]

/-- The slice that at returns, the same one in every world behind. -/
def AtR (w : World) (A : Option Addr) (n : Nat) (gs : List (Int × List Int)) (code : Int) (k : Nat) (A' : Option Addr) (n' c' : Nat) : Prop :=
  Sl w A' n' c' (numCells (atS (gs.drop k) code)) ∧
  ((∃ j g o l, k ≤ j ∧ j < n ∧ A = some ⟨g, o, none⟩ ∧ gs[j]? = some (code, l) ∧ w.cell? ⟨g, o + j * 2, none⟩ = some (.int .i64 code) ∧ w.cell? ⟨g, o + j * 2 + 1, none⟩ = some (.slice A' n' c') ∧ ∀ i x, k ≤ i → i < j → gs[i]? = some x → x.1 ≠ code) ∨
    ((∀ i x, k ≤ i → gs[i]? = some x → x.1 ≠ code) ∧ A' = none ∧ n' = 0 ∧ c' = 0))
theorem atR_is {w : World} {A : Option Addr} {n c : Nat} {gs : List (Int × List Int)} (h : GrS w A n c gs) (code : Int) : ∀ m k, m + k = n → ∃ A' n' c', AtR w A n gs code k A' n' c'
  | 0, k, hk => ⟨none, 0, 0, by rw [List.drop_of_length_le (by rw [h.2.2.1]; omega)]; exact Sl.nil w, Or.inr ⟨fun i x hi hx => by
      have := (List.getElem?_eq_some_iff.1 hx).1
      rw [h.2.2.1] at this
      omega, rfl, rfl, rfl⟩⟩
  | m + 1, k, hk => by
    obtain ⟨g, o, z, l, A1, n1, c1, hA, hz, h0, h1, hs⟩ := h.at_ (k := k) (by omega)
    by_cases he : z = code
    · subst he
      exact ⟨A1, n1, c1, by rw [atS_drop_hit gs k z l hz]; exact hs, Or.inl ⟨k, g, o, l, Nat.le_refl _, by omega, hA, hz, h0, h1, fun i x h1 h2 => by omega⟩⟩
    · obtain ⟨A', n', c', hs', hr⟩ := atR_is h code m (k + 1) (by omega)
      refine ⟨A', n', c', by rw [atS_drop_miss gs k z code l hz he]; exact hs', ?_⟩
      rcases hr with ⟨j, g', o', l', hj, hj', hA', hx, c0, c1', hb⟩ | ⟨hb, e⟩
      · refine Or.inl ⟨j, g', o', l', by omega, hj', hA', hx, c0, c1', fun i x h1 h2 h3 => ?_⟩
        by_cases hik : i = k
        · subst hik; rw [hz] at h3; cases h3; exact he
        · exact hb i x (by omega) h2 h3
      · refine Or.inr ⟨fun i x h1 h3 => ?_, e⟩
        by_cases hik : i = k
        · subst hik; rw [hz] at h3; cases h3; exact he
        · exact hb i x (by omega) h3

set_option maxRecDepth 20000 in
set_option maxHeartbeats 800000 in
theorem rat36 {w w' : World} {A : Option Addr} {n c : Nat} {gs : List (Int × List Int)} {code : Int} {A' : Option Addr} {n' c' : Nat} (h : GrS w A n c gs) (hr : AtR w A n gs code 0 A' n' c') (hb : Below w.heap.size w w') :
    Calls Try.prog 36 #[.slice A n c, .int .i64 code] w' fun e w'' => e = .returned (.slice A' n' c') ∧ w' = w'' := by
  have hnc := h.1
  have hcc := h.2.1
  have H := hide (h.below hb)
  rcases hr.2 with ⟨j, g, o, l, -, hj, rfl, hx, c0, c1, hbf⟩ | ⟨hbf, rfl, rfl, rfl⟩
  · have d0 := (hb.cell (World.block_lt_of_cell? _ _ c0)).trans c0
    have d1 := (hb.cell (World.block_lt_of_cell? _ _ c1)).trans c1
    have Hb := hide hbf
    clear h hr hb c0 c1 hbf hx
    go_enter Try.func36, Try.ntmps36
    go_wp2
    go_loop [5] (fun x => ∃ k : Nat, k ≤ j ∧ x = .int .i64 (k : Int)) (fun x => n - (intOf x).toNat)
    case atStart => exact ⟨0, Nat.zero_le _, rfl⟩
    case round =>
      obtain ⟨k, hk, rfl⟩ := hrel
      by_cases he : k = j
      · subst he
        go_wp2
        go_ret
        exact ⟨rfl, rfl⟩
      · obtain ⟨g', o', z, l', A1, n1, c1, e', hz, h0, h1, hs⟩ := H.out.at_ (k := k) (by omega)
        cases e'
        have hne := Hb.out k _ (Nat.zero_le _) (by omega) hz
        have hbq : (z == code) = false := beq_eq_false_iff_ne.2 hne
        have hkn : k < n := by omega
        clear hz hs hne
        go_wp2
        go_round
        case rel => exact ⟨k + 1, by omega, by go_num⟩
        case measure => simp [intOf]; omega
  · have Hb := hide hbf
    clear h hr hb hbf
    go_enter Try.func36, Try.ntmps36
    go_wp2
    go_loop [5] (fun x => ∃ k : Nat, k ≤ n ∧ x = .int .i64 (k : Int)) (fun x => n - (intOf x).toNat)
    case atStart => exact ⟨0, Nat.zero_le _, rfl⟩
    case round =>
      obtain ⟨k, hk, rfl⟩ := hrel
      by_cases hlt : k < n
      · obtain ⟨g', o', z, l', A1, n1, c1, rfl, hz, h0, h1, hs⟩ := H.out.at_ hlt
        have hne := Hb.out k _ (Nat.zero_le _) hz
        have hbq : (z == code) = false := beq_eq_false_iff_ne.2 hne
        clear hz hs hne
        go_wp2
        go_round
        case rel => exact ⟨k + 1, by omega, by go_num⟩
        case measure => simp [intOf]; omega
      · go_wp2
        go_ret
        exact ⟨rfl, rfl⟩

/-- Numbers as Go's int has them. -/
def In64 (l : List Int) : Prop := ∀ z ∈ l, -9223372036854775808 ≤ z ∧ z ≤ 9223372036854775807

set_option maxRecDepth 20000 in
set_option maxHeartbeats 800000 in
theorem follows37 (A : Option Addr) (n c : Nat) (l : List Int) (z : Int) (i : Nat) (r : Bool) (w : World) (h : Sl w A n c (numCells l)) (hw : In64 l) (hz0 : 0 ≤ z) (hz1 : z ≤ 9223372036854775807) (hi : i ≤ 1000000) (hr : decide (z + (i : Int) ∈ l) = r) :
    Calls Try.prog 37 #[.slice A n c, .int .i64 z, .int .i64 (i : Int)] w fun e w' => e = .returned (.bool r) ∧ w = w' := by
  have hnc := h.1
  have hcc := h.2.1
  have Hlen := hide h.nlen
  have H := hide h
  have Hyes := hide (show z + (i : Int) ∈ l → r = true from fun h => by rw [← hr]; exact decide_eq_true h)
  have Hno := hide (show z + (i : Int) ∉ l → r = false from fun h => by rw [← hr]; exact decide_eq_false h)
  have Hw := hide hw
  clear h hr hw
  go_enter Try.func37, Try.ntmps37
  go_wp2
  go_loop [7] (fun x => ∃ k : Nat, k ≤ n ∧ x = .int .i64 (k : Int) ∧ z + (i : Int) ∉ l.take k) (fun x => n - (intOf x).toNat)
  case atStart => exact ⟨0, Nat.zero_le _, rfl, by simp⟩
  case round =>
    obtain ⟨k, hk, rfl, hm⟩ := hrel
    by_cases hlt : k < n
    · obtain ⟨ad, y, rfl, hy, hcell⟩ := num_cell H.out.reads hlt
      have hyw := Hw.out y (List.mem_of_getElem? hy)
      by_cases hge : (i : Int) ≤ y
      · by_cases he : y = z + (i : Int)
        · have Hr := hide (Hyes.out (he ▸ List.mem_of_getElem? hy))
          have hq : (y - (i : Int) == z) = true := by rw [beq_iff_eq]; omega
          clear hm hy he
          go_wp2
          go_ret
          exact ⟨ret_bool Hr.out.symm, rfl⟩
        · have Hm := hide (notin_take l k y _ hm hy he)
          have hq : (y - (i : Int) == z) = false := by rw [beq_eq_false_iff_ne]; omega
          clear hm hy he
          go_wp2
          go_round
          case rel => exact ⟨k + 1, by omega, by go_num, Hm.out⟩
          case measure => simp [intOf]; omega
      · have Hm := hide (notin_take l k y _ hm hy (by omega))
        clear hm hy
        go_wp2
        go_round
        case rel => exact ⟨k + 1, by omega, by go_num, Hm.out⟩
        case measure => simp [intOf]; omega
    · rw [List.take_of_length_le (by rw [Hlen.out]; omega)] at hm
      have Hr := hide (Hno.out hm)
      clear hm
      go_wp2
      go_ret
      exact ⟨ret_bool Hr.out.symm, rfl⟩

/-- A list and a bool. -/
def GotIB (w : World) (l : List Int) (b : Bool) (e : Ending) (w' : World) : Prop := ∃ A n c, e = .returned (.tuple #[.slice A n c, .bool b]) ∧ Sl w' A n c (numCells l) ∧ Below w.heap.size w w'

theorem atS_len {gs : List (Int × List Int)} {m : Nat} (h : ∀ g ∈ gs, g.2.length ≤ m) (c : Int) : (atS gs c).length ≤ m := by
  induction gs with
  | nil => simp [atS]
  | cons g gs ih =>
    unfold atS
    split
    · exact h g (by simp)
    · exact ih fun x hx => h x (by simp [hx])
theorem atS_in {gs : List (Int × List Int)} (h : ∀ g ∈ gs, In64 g.2) (c : Int) : In64 (atS gs c) := by
  induction gs with
  | nil => intro z hz; simp [atS] at hz
  | cons g gs ih =>
    unfold atS
    split
    · exact h g (by simp)
    · exact ih fun x hx => h x (by simp [hx])

set_option maxRecDepth 20000 in
set_option maxHeartbeats 3200000 in
theorem rcand21 (A : Option Addr) (n c : Nat) (gs : List (Int × List Int)) (t : ByteArray) (w : World) (h : GrS w A n c gs) (hl : ∀ g ∈ gs, g.2.length ≤ 100000) (hw : ∀ g ∈ gs, In64 g.2) (ht : t.size ≤ 100000) :
    Calls Try.prog 21 #[.slice A n c, .string t] w (GotIB w (candS gs t.data.toList) (decide (3 ≤ t.size))) := by
  obtain ⟨d, hd⟩ : ∃ d, t.data.toList = d := ⟨_, rfl⟩
  have hdl : d.length = t.size := by rw [← hd, size_list]
  have Hcode := hide (show ∀ (k : Nat) (w : World), k + 2 < t.size → Calls Try.prog 31 #[.string t, .int .i64 (k : Int)] w fun e w' => e = .returned (.int .i64 (tri d k)) ∧ Drawn w w' from fun k w h1 => at31 t k (tri d k) w h1 (by omega) (by rw [hd]))
  rw [hd]
  clear hd
  have hnc := h.1
  have hcc := h.2.1
  by_cases h3 : t.size < 3
  · have Hc := hide (show candS gs d = [] by unfold candS; rw [if_pos (by omega)])
    have Hd := hide (decide_eq_false (show ¬ 3 ≤ t.size by omega))
    have hg : decide ((t.size : Int) < 3) = true := decide_eq_true (by omega)
    clear h hl hw hdl
    go_enter Try.func21, Try.ntmps21
    go_wp2
    go_ret2
    exact ⟨none, 0, 0, by rw [Hd.out]; rfl, by rw [Hc.out]; exact Sl.nil _, Below.refl _ _⟩
  · have hg : decide ((t.size : Int) < 3) = false := decide_eq_false (by omega)
    have Hc := hide (cand_is gs d (by omega))
    have Hd := hide (decide_eq_true (show 3 ≤ t.size by omega))
    obtain ⟨A0, n0, c0, hr0⟩ := atR_is h (tri d 0) n 0 rfl
    obtain ⟨F, hF⟩ : ∃ F, atS gs (tri d 0) = F := ⟨_, rfl⟩
    have hFl := atS_len hl (tri d 0)
    have hFw := atS_in hw (tri d 0)
    have hs0 := hr0.1
    rw [List.drop_zero] at hs0
    rw [hF] at hFl hFw hs0
    have hc' := Hc.out
    rw [hF] at hc'
    have HcF := hide hc'
    have H := hide h
    have R0 := hide hr0
    have HFw := hide hFw
    have S0 := hide hs0
    have hn0 := hs0.1
    have hc0 := hs0.2.1
    have HFlen := hide hs0.nlen
    have hFn : n0 ≤ 100000 := by have := hs0.nlen; omega
    have Hgood := hide (show goodN gs d = fun z k => goodN gs d z k from rfl)
    have Hgd := hide (show ∀ z, goodN gs d z (t.size - 2) = goodS gs d z from fun z => by unfold goodS; rw [hdl])
    have Hat := hide (show ∀ k, ∃ A' n' c', AtR w A n gs (tri d k) 0 A' n' c' from fun k => atR_is h (tri d k) n 0 rfl)
    have Hin := hide (show ∀ k, In64 (atS gs (tri d k)) from fun k => atS_in hw (tri d k))
    clear h hl hw hF hc' hs0 hr0 hFl hFw hdl Hc
    have Hcode0 := hide (show ∀ w : World, Calls Try.prog 31 #[.string t, .int .i64 0] w fun e w' => e = .returned (.int .i64 (tri d 0)) ∧ Drawn w w' from fun w => Hcode.out 0 w (by omega))
    go_enter Try.func21, Try.ntmps21
    go_wp2_with fail
    with_reducible refine (Hcode0.out _).mono ?_
    rintro e w1 ⟨rfl, hd1⟩
    have B1 := hide (hd1.below w.heap.size)
    clear hd1
    go_wp2_with fail
    with_reducible refine (rat36 H.out R0.out B1.out).mono ?_
    rintro e w2 ⟨rfl, rfl⟩
    go_wp2
    go_loopw [6, 8, 9, 10] (fun u x _ _ wr => ∃ k : Nat, k ≤ n0 ∧ x = .int .i64 (k : Int) ∧ (∃ A2 n2 c2, u = .slice A2 n2 c2 ∧ Sl wr A2 n2 c2 (numCells (candN gs d (F.take k)))) ∧ Below w.heap.size w wr) (fun _ x _ _ _ => n0 - (intOf x).toNat)
    case atStart => exact ⟨0, Nat.zero_le _, rfl, ⟨none, 0, 0, rfl, Sl.nil _⟩, B1.out⟩
    case round =>
      obtain ⟨k, hk, rfl, ⟨A2, n2, c2, rfl, hs2⟩, hb2⟩ := hrel
      obtain ⟨w3, hw3⟩ : ∃ w3, w3 = wr := ⟨wr, rfl⟩
      subst hw3
      have B2 := hide hb2
      have S2 := hide hs2
      have hsz2 := hb2.size
      have Hn2 := hide hs2.nlen
      by_cases hlt : k < n0
      · obtain ⟨ad, z, rfl, hz, hcell⟩ := num_cell (S0.out.below hb2).reads hlt
        have hzw := HFw.out z (List.mem_of_getElem? hz)
        have Htk := hide (take_at F k z hz)
        clear hb2 hs2 hz
        go_wp2
        go_loopw [9, 10] (fun b y wr => ∃ i : Nat, i ≤ t.size - 2 ∧ b = .bool (goodN gs d z i) ∧ y = .int .i64 (i : Int) ∧ Drawn w3 wr) (fun _ y _ => t.size - (intOf y).toNat)
        case atStart => exact ⟨0, Nat.zero_le _, by rw [goodN_zero], rfl, Drawn.refl _⟩
        case round =>
          obtain ⟨i, hi, rfl, rfl, hdr⟩ := hrel
          obtain ⟨w4, hw4⟩ : ∃ w4, w4 = wr := ⟨wr, rfl⟩
          subst hw4
          have hbd := hdr.below w3.heap.size
          have Dr := hide hdr
          by_cases hlt2 : i + 2 < t.size
          · have hc4 := (hbd.cell (World.block_lt_of_cell? _ _ hcell)).trans hcell
            have Hb4 := hide (B2.out.trans (hbd.mono hsz2))
            have Hsucc := hide (goodN_succ gs d z i)
            cases hgi : goodN gs d z i with
            | false =>
              have Hn := hide (show goodN gs d z (i + 1) = false by rw [Hsucc.out, hgi]; rfl)
              clear hgi hdr hbd
              go_wp2
              go_quiet (fail)
              go_wp2
              go_roundw
              case rel => exact ⟨i + 1, by omega, by rw [Hn.out], by go_num, Dr.out.more _⟩
              case measure => simp [intOf]; omega
            | true =>
              have hz0 : 0 ≤ z := by
                unfold goodN at hgi
                simp only [Bool.and_eq_true, decide_eq_true_eq] at hgi
                exact hgi.1
              obtain ⟨q, hq⟩ : ∃ q, decide (z + (i : Int) ∈ atS gs (tri d i)) = q := ⟨_, rfl⟩
              have Hn := hide (show goodN gs d z (i + 1) = q by rw [Hsucc.out, hgi, ← hq]; rfl)
              obtain ⟨A3, n3, c3, hr3⟩ := Hat.out i
              have R3 := hide hr3
              have hs3 := hr3.1
              rw [List.drop_zero] at hs3
              have S3 := hide hs3
              have Hq := hide hq
              clear hgi hq hr3 hs3 hdr hbd
              go_wp2
              go_quiet (first | (go_at_call 31; exact quiet_drawn (Hcode.out i _ hlt2)) | (go_at_call 36; exact quiet_left (rat36 H.out R3.out (Hb4.out.trans (Drawn.below ⟨_, rfl⟩ _)))) | (go_at_call 37; exact quiet_left (follows37 A3 n3 c3 _ z i q _ (S3.out.below (Hb4.out.trans (Drawn.below ⟨_, rfl⟩ _))) (Hin.out i) hz0 hzw.2 (by omega) Hq.out)))
              go_wp2
              go_roundw
              case rel => exact ⟨i + 1, by omega, by rw [Hn.out], by go_num, Dr.out.more _⟩
              case measure => simp [intOf]; omega
          · have hgs := Hgd.out z
            rw [show t.size - 2 = i by omega] at hgs
            have Hgs := hide hgs
            have hc4 := (hbd.cell (World.block_lt_of_cell? _ _ hcell)).trans hcell
            have Hb4 := hide (B2.out.trans (hbd.mono hsz2))
            have S4 := hide (S2.out.below hbd)
            have hn2 : n2 ≤ 1000000 := by
              have h1 := candN_len gs d (F.take k)
              have h2 := Hn2.out
              rw [List.length_take] at h1
              omega
            cases hgi : goodS gs d z with
            | true =>
              have Hy := hide (show goodN gs d z i = true by rw [Hgs.out, hgi])
              have Hst := hide (show candN gs d (F.take (k + 1)) = putS (candN gs d (F.take k)) z by rw [Htk.out]; exact candN_yes gs d _ z hgi)
              have hsz4 := Hb4.out.size
              have Hbg := hide Hy.out
              rw [Hy.out]
              clear hgi hgs hdr hbd
              go_wp2_with fail
              with_reducible refine (insert30 A2 n2 c2 _ z _ S4.out (up_candN gs d _) hn2).mono ?_
              rintro e w5 ⟨A5, n5, c5, rfl, hs5, hb5⟩
              rw [← Hst.out] at hs5
              have S5 := hide hs5
              have B5 := hide (Hb4.out.trans (hb5.mono hsz4))
              clear hs5 hb5
              go_wp2
              go_roundw
              case rel => exact ⟨k + 1, by omega, by go_num, ⟨A5, n5, c5, rfl, S5.out⟩, B5.out⟩
              case measure => simp [intOf]; omega
            | false =>
              have Hy := hide (show goodN gs d z i = false by rw [Hgs.out, hgi])
              have Hst := hide (show candN gs d (F.take (k + 1)) = candN gs d (F.take k) by rw [Htk.out]; exact candN_no gs d _ z hgi)
              rw [Hy.out]
              clear hgi hgs hdr hbd
              go_wp2
              go_roundw
              case rel => exact ⟨k + 1, by omega, by go_num, ⟨A2, n2, c2, rfl, by rw [Hst.out]; exact S4.out⟩, Hb4.out⟩
              case measure => simp [intOf]; omega
      · have S3 := S2.out
        rw [List.take_of_length_le (by rw [HFlen.out]; omega), ← HcF.out] at S3
        have S4 := hide S3
        clear hs2 hb2 S3
        go_wp2
        go_ret2
        exact ⟨A2, n2, c2, by rw [Hd.out]; rfl, S4.out, B2.out⟩

end Go.Proofs.Ytdneoeiggebijaa
