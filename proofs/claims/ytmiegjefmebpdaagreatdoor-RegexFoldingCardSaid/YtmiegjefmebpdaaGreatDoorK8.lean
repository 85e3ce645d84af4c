/- Walks of layer 8's reference: writable, inText, quoted, digits, suffix. -/
import Derived.Test.YtmiegjefmebpdaaGreatDoorK7
namespace Go.Proofs.YtmiegjefmebpdaaGreatDoor
open Go.RowKit
open Go.Lib (byteCells)

/-- A list of bytes as a string. -/
def bs (l : List UInt8) : ByteArray := ⟨l.toArray⟩
theorem bs_list (l : List UInt8) : (bs l).data.toList = l := by simp [bs]
theorem bs_size (l : List UInt8) : (bs l).size = l.length := by show l.toArray.size = _; simp
theorem bs_app (a b : List UInt8) : bs a ++ bs b = bs (a ++ b) := by
  apply ba_ext
  rw [bs_list]
  simp [bs]
theorem byte_eq (a : UInt8) (n : Nat) (h : n < 256) : ((a.toNat : Int) == (n : Int)) = decide (a = UInt8.ofNat n) := by
  rw [Bool.eq_iff_iff, beq_iff_eq, decide_eq_true_eq]
  constructor
  · intro e
    apply UInt8.toNat_inj.1
    simp
    omega
  · intro e
    subst e
    simp
    omega

theorem writ82 (c : UInt8) (q : Bool) (hq : writable c = q) (w : World) : Calls Tryz.prog 82 #[.int .u8 (c.toNat : Int)] w fun e w' => e = .returned (.bool q) ∧ w = w' := by
  have h9 : ((c.toNat : Int) == 9) = decide (c = 9) := byte_eq c 9 (by decide)
  have h10 : ((c.toNat : Int) == 10) = decide (c = 10) := byte_eq c 10 (by decide)
  have hl : c.toNat < 256 := c.toNat_lt
  have e1 : decide ((32 : UInt8) ≤ c) = decide (32 ≤ c.toNat) := decide_eq_decide.2 (by rw [UInt8.le_iff_toNat_le]; exact Iff.rfl)
  have e2 : decide (c ≤ (126 : UInt8)) = decide (c.toNat ≤ 126) := decide_eq_decide.2 (by rw [UInt8.le_iff_toNat_le]; exact Iff.rfl)
  unfold writable at hq
  rw [e1, e2] at hq
  subst hq
  obtain ⟨p9, hp9⟩ : ∃ p, decide (c = 9) = p := ⟨_, rfl⟩
  obtain ⟨p10, hp10⟩ : ∃ p, decide (c = 10) = p := ⟨_, rfl⟩
  rw [hp9] at h9 ⊢
  rw [hp10] at h10 ⊢
  clear hp9 hp10 e1 e2
  go_enter Tryz.func82, Tryz.ntmps82
  cases p9 with
  | true =>
    go_wp2
    go_ret
    exact ⟨ret_bool (by simp), rfl⟩
  | false =>
    cases p10 with
    | true =>
      go_wp2
      go_ret
      exact ⟨ret_bool (by simp), rfl⟩
    | false =>
      by_cases a1 : 32 ≤ c.toNat
      · by_cases a2 : c.toNat ≤ 126
        · go_wp2
          go_ret
          exact ⟨ret_bool (by simp [a1, a2]; omega), rfl⟩
        · go_wp2
          go_ret
          exact ⟨ret_bool (by simp [a2]; omega), rfl⟩
      · go_wp2
        go_ret
        exact ⟨ret_bool (by simp), rfl⟩

theorem mem_take {l : List UInt8} {k : Nat} {x c : UInt8} (h : l[k]? = some x) (hm : c ∉ l.take k) (hne : x ≠ c) : c ∉ l.take (k + 1) := by
  obtain ⟨h1, e⟩ := List.getElem?_eq_some_iff.1 h
  rw [List.take_succ_eq_append_getElem h1, e, List.mem_append, List.mem_singleton]
  rintro (h | h)
  · exact hm h
  · exact hne h.symm
theorem intext99 (s : ByteArray) (c : UInt8) (q : Bool) (hq : decide (c ∈ s.data.toList) = q) (w : World) (hs : s.size ≤ 100000) : Calls Tryz.prog 99 #[.string s, .int .u8 (c.toNat : Int)] w fun e w' => e = .returned (.bool q) ∧ w = w' := by
  have hl := size_list s
  have Hyes := hide (show c ∈ s.data.toList → q = true from fun h => by rw [← hq]; exact decide_eq_true h)
  have Hno := hide (show c ∉ s.data.toList → q = false from fun h => by rw [← hq]; exact decide_eq_false h)
  have Hl := hide hl
  clear hq hl
  go_enter Tryz.func99, Tryz.ntmps99
  go_wp2
  go_loop [5] (fun x => ∃ k : Nat, k ≤ s.size ∧ x = .int .i64 (k : Int) ∧ c ∉ s.data.toList.take k) (fun x => s.size - (intOf x).toNat)
  case atStart => exact ⟨0, Nat.zero_le _, rfl, by simp⟩
  case round =>
    obtain ⟨k, hk, rfl, hm⟩ := hrel
    by_cases hlt : k < s.size
    · have hx : s.data.toList[k]? = some s[k] := by
        rw [List.getElem?_eq_getElem (by rw [Hl.out]; exact hlt)]
        rfl
      by_cases he : s[k] = c
      · have hq1 : ((s[k].toNat : Int) == (c.toNat : Int)) = true := by rw [he]; simp
        have Hy := hide (Hyes.out (he ▸ List.mem_of_getElem? hx))
        clear hm hx he
        go_wp2
        go_ret
        exact ⟨ret_bool Hy.out.symm, rfl⟩
      · have hq1 : ((s[k].toNat : Int) == (c.toNat : Int)) = false := by
          rw [beq_eq_false_iff_ne]
          intro e
          exact he (UInt8.toNat_inj.1 (by omega))
        have Hn := hide (mem_take hx hm he)
        clear hm hx he
        go_wp2
        go_round
        case rel => exact ⟨k + 1, by omega, by go_num, Hn.out⟩
        case measure => simp [intOf]; omega
    · rw [List.take_of_length_le (by rw [Hl.out]; omega)] at hm
      have Hn := hide (Hno.out hm)
      clear hm
      go_wp2
      go_ret
      exact ⟨ret_bool Hn.out.symm, rfl⟩

theorem conv1 (w : World) (z : Int) (c : UInt8) (h : z = (c.toNat : Int)) :
    (convert 91 9 (.slice (some ⟨w.heap.size, 0, none⟩) 1 1)).run Tryz.prog (w.alloc (.cells #[.int .u8 z] 5)) = .ok (.string (bs [c])) (w.alloc (.cells #[.int .u8 z] 5)) := by
  subst h
  have hr := (lit_sl w #[.int .u8 (c.toNat : Int)] 5 (byteCells [c]) 1 rfl rfl (by decide)).reads
  exact conv_run hr 91 9 5 Tryz.underlying91 Tryz.underlying5 Tryz.underlying9 (fun e => by cases e)

set_option maxHeartbeats 800000 in
theorem quoted83 (c : UInt8) (s : ByteArray) (w : World) (hs : s.size ≤ 100000) : Calls Tryz.prog 83 #[.int .u8 (c.toNat : Int), .string s] w fun e w' => e = .returned (.string (bs (quoted c s.data.toList))) ∧ Below w.heap.size w w' := by
  by_cases h9 : c = 9
  · have e9 : ((c.toNat : Int) == 9) = true := by rw [h9]; rfl
    have Hr := hide (show quoted c s.data.toList = [92, 116] by unfold quoted; rw [if_pos h9])
    clear h9
    go_enter Tryz.func83, Tryz.ntmps83
    go_wp2
    go_ret
    exact ⟨by rw [Hr.out]; rfl, Below.refl _ _⟩
  · have e9 : ((c.toNat : Int) == 9) = false := by rw [show ((9 : Int)) = ((9 : Nat) : Int) from rfl, byte_eq c 9 (by decide)]; exact decide_eq_false h9
    by_cases h10 : c = 10
    · have e10 : ((c.toNat : Int) == 10) = true := by rw [h10]; rfl
      have Hr := hide (show quoted c s.data.toList = [92, 110] by unfold quoted; rw [if_neg h9, if_pos h10])
      clear h9 h10
      go_enter Tryz.func83, Tryz.ntmps83
      go_wp2
      go_ret
      exact ⟨by rw [Hr.out]; rfl, Below.refl _ _⟩
    · have e10 : ((c.toNat : Int) == 10) = false := by rw [show ((10 : Int)) = ((10 : Nat) : Int) from rfl, byte_eq c 10 (by decide)]; exact decide_eq_false h10
      have k1 := conv1 w (c.toNat : Int) c rfl
      by_cases hin : c ∈ s.data.toList
      · have Hr := hide (show bs (quoted c s.data.toList) = (⟨#[92]⟩ : ByteArray) ++ bs [c] by
          unfold quoted
          rw [if_neg h9, if_neg h10, if_pos hin]
          exact (bs_app [92] [c]).symm)
        have Hd := hide (decide_eq_true hin)
        have hz1 : (bs [c]).size = 1 := bs_size [c]
        clear h9 h10 hin
        go_enter Tryz.func83, Tryz.ntmps83
        go_wp2_with fail
        with_reducible refine (intext99 s c true Hd.out _ hs).mono ?_
        rintro e w' ⟨rfl, rfl⟩
        go_wp2
        go_ret
        exact ⟨by rw [Hr.out]; rfl, bnew (Below.refl _ _) _⟩
      · have Hr := hide (show bs (quoted c s.data.toList) = bs [c] by
          unfold quoted
          rw [if_neg h9, if_neg h10, if_neg hin])
        have Hd := hide (decide_eq_false hin)
        clear h9 h10 hin
        go_enter Tryz.func83, Tryz.ntmps83
        go_wp2_with fail
        with_reducible refine (intext99 s c false Hd.out _ hs).mono ?_
        rintro e w' ⟨rfl, rfl⟩
        go_wp2
        go_ret
        exact ⟨by rw [Hr.out]; rfl, bnew (Below.refl _ _) _⟩

set_option maxHeartbeats 800000 in
theorem digits85 (n : Nat) (w : World) (hn : n ≤ 9) : Calls Tryz.prog 85 #[.int .i64 (n : Int)] w fun e w' => e = .returned (.string (bs (digitsS (n : Int)))) ∧ Below w.heap.size w w' := by
  have hr : digitsS (n : Int) = [UInt8.ofNat (48 + n)] := by
    unfold digitsS
    rw [if_neg (by omega)]
    simp
  obtain ⟨x, hx⟩ : ∃ x, UInt8.ofNat (48 + n) = x := ⟨_, rfl⟩
  have Hr := hide (show bs (digitsS (n : Int)) = bs [x] by rw [hr, hx])
  have hg : ¬ (10 : Int) ≤ (n : Int) := by omega
  have k1 := conv1 w (48 + (n : Int)) x (by rw [← hx]; simp; omega)
  clear hr hx
  go_enter Tryz.func85, Tryz.ntmps85
  go_wp2
  go_ret
  exact ⟨by rw [Hr.out]; rfl, bnew (Below.refl _ _) _⟩

set_option maxRecDepth 20000 in
set_option maxHeartbeats 3200000 in
theorem suffix62 (a b : Int) (h : boundsR a b = true) (w : World) : Calls Tryz.prog 62 #[.int .i64 a, .int .i64 b] w fun e w' => e = .returned (.string (bs (suffixS a b))) ∧ Below w.heap.size w w' := by
  unfold boundsR at h
  rw [decide_eq_true_eq] at h
  obtain ⟨h0, h8, h⟩ := h
  obtain ⟨m, rfl⟩ : ∃ m : Nat, a = (m : Int) := ⟨a.toNat, by omega⟩
  have hm : m ≤ 8 := by omega
  obtain ⟨R, hR⟩ : ∃ R, bs (suffixS (m : Int) b) = R := ⟨_, rfl⟩
  have dm := digits85 m
  obtain ⟨D, hD⟩ : ∃ D, bs (digitsS (m : Int)) = D := ⟨_, rfl⟩
  have hDs : D.size = 1 := by
    rw [← hD, bs_size]
    unfold digitsS
    rw [if_neg (by omega)]
    rfl
  rw [hD] at dm
  have Dm := hide dm
  rw [hR]
  have hR' := hR
  unfold suffixS at hR
  by_cases hb1 : b = -1
  · have eb : (b == -1) = true := by rw [hb1]; rfl
    by_cases m0 : m = 0
    · have e0 : ((m : Int) == 0) = true := by rw [m0]; rfl
      rw [if_pos ⟨by omega, hb1⟩] at hR
      have Hr := hide hR
      clear h hR hR' hb1 m0 dm
      go_enter Tryz.func62, Tryz.ntmps62
      go_wp2_with fail
      go_ret
      exact ⟨by rw [← Hr.out]; rfl, Below.refl _ _⟩
    · have e0 : ((m : Int) == 0) = false := beq_eq_false_iff_ne.2 (by omega)
      by_cases m1 : m = 1
      · have e1 : ((m : Int) == 1) = true := by rw [m1]; rfl
        rw [if_neg (by omega), if_pos ⟨by omega, hb1⟩] at hR
        have Hr := hide hR
        clear h hR hR' hb1 m0 m1 dm
        go_enter Tryz.func62, Tryz.ntmps62
        go_wp2_with fail
        go_ret
        exact ⟨by rw [← Hr.out]; rfl, Below.refl _ _⟩
      · have e1 : ((m : Int) == 1) = false := beq_eq_false_iff_ne.2 (by omega)
        have em : (b == (m : Int)) = false := beq_eq_false_iff_ne.2 (by omega)
        rw [if_neg (by omega), if_neg (by omega), if_neg (by omega), if_neg (by omega), if_pos hb1] at hR
        have Hr := hide (show (⟨#[123]⟩ : ByteArray) ++ D ++ (⟨#[44, 125]⟩ : ByteArray) = R by
          rw [← hR, ← hD, show (⟨#[123]⟩ : ByteArray) = bs [123] from rfl, show (⟨#[44, 125]⟩ : ByteArray) = bs [44, 125] from rfl, bs_app, bs_app]
          rfl)
        clear h hR hR' hb1 m0 m1 dm hD
        go_enter Tryz.func62, Tryz.ntmps62
        go_wp2_with fail
        with_reducible refine (Dm.out _ (by omega)).mono ?_
        rintro e w2 ⟨rfl, hb2⟩
        have B2 := hide hb2
        clear hb2
        go_wp2_with fail
        go_ret
        exact ⟨by rw [← Hr.out]; rfl, B2.out⟩
  · have eb : (b == -1) = false := beq_eq_false_iff_ne.2 hb1
    obtain ⟨k, rfl⟩ : ∃ k : Nat, b = (k : Int) := ⟨b.toNat, by omega⟩
    have hk : k ≤ 8 := by omega
    have hk1 : 1 ≤ k := by omega
    have hmk : m ≤ k := by omega
    have dk := digits85 k
    obtain ⟨E, hE⟩ : ∃ E, bs (digitsS (k : Int)) = E := ⟨_, rfl⟩
    have hEs : E.size = 1 := by
      rw [← hE, bs_size]
      unfold digitsS
      rw [if_neg (by omega)]
      rfl
    rw [hE] at dk
    have Dk := hide dk
    by_cases h01 : m = 0 ∧ k = 1
    · have e0 : ((m : Int) == 0) = true := by rw [h01.1]; rfl
      have e1 : ((k : Int) == 1) = true := by rw [h01.2]; rfl
      have e2 : ((m : Int) == 1) = false := by rw [h01.1]; rfl
      rw [if_neg (by omega), if_neg (by omega), if_pos ⟨by omega, by omega⟩] at hR
      have Hr := hide hR
      clear h hR hR' hb1 dm dk h01
      go_enter Tryz.func62, Tryz.ntmps62
      go_wp2_with fail
      go_ret
      exact ⟨by rw [← Hr.out]; rfl, Below.refl _ _⟩
    · by_cases hkm : k = m
      · have em : ((k : Int) == (m : Int)) = true := by rw [hkm]; simp
        rw [if_neg (by omega), if_neg (by omega), if_neg (by omega), if_pos (by omega)] at hR
        have Hr := hide (show (⟨#[123]⟩ : ByteArray) ++ D ++ (⟨#[125]⟩ : ByteArray) = R by
          rw [← hR, ← hD, show (⟨#[123]⟩ : ByteArray) = bs [123] from rfl, show (⟨#[125]⟩ : ByteArray) = bs [125] from rfl, bs_app, bs_app]
          rfl)
        have hm1 : ((m : Int) == 0) = false := beq_eq_false_iff_ne.2 (by omega)
        obtain ⟨q, hq⟩ : ∃ q, ((m : Int) == 1) = q := ⟨_, rfl⟩
        clear h hR hR' hb1 dm dk hD hE h01 hkm
        go_enter Tryz.func62, Tryz.ntmps62
        cases q
        all_goals
          go_wp2_with fail
          with_reducible refine (Dm.out _ (by omega)).mono ?_
          rintro e w2 ⟨rfl, hb2⟩
          have B2 := hide hb2
          clear hb2
          go_wp2_with fail
          go_ret
          exact ⟨by rw [← Hr.out]; rfl, B2.out⟩
      · have em : ((k : Int) == (m : Int)) = false := beq_eq_false_iff_ne.2 (by omega)
        rw [if_neg (by omega), if_neg (by omega), if_neg (by omega), if_neg (by omega), if_neg (by omega)] at hR
        have Hr := hide (show (⟨#[123]⟩ : ByteArray) ++ D ++ (⟨#[44]⟩ : ByteArray) ++ E ++ (⟨#[125]⟩ : ByteArray) = R by
          rw [← hR, ← hD, ← hE, show (⟨#[123]⟩ : ByteArray) = bs [123] from rfl, show (⟨#[44]⟩ : ByteArray) = bs [44] from rfl, show (⟨#[125]⟩ : ByteArray) = bs [125] from rfl, bs_app, bs_app, bs_app, bs_app]
          simp)
        have hcase : (((m : Int) == 0) = true ∧ ((m : Int) == 1) = false ∧ ((k : Int) == 1) = false) ∨ (((m : Int) == 0) = false ∧ ((m : Int) == 1) = true) ∨ (((m : Int) == 0) = false ∧ ((m : Int) == 1) = false) := by
          by_cases m0 : m = 0
          · exact Or.inl ⟨by rw [m0]; rfl, by rw [m0]; rfl, beq_eq_false_iff_ne.2 (by omega)⟩
          · by_cases m1 : m = 1
            · exact Or.inr (Or.inl ⟨beq_eq_false_iff_ne.2 (by omega), by rw [m1]; rfl⟩)
            · exact Or.inr (Or.inr ⟨beq_eq_false_iff_ne.2 (by omega), beq_eq_false_iff_ne.2 (by omega)⟩)
        clear h hR hR' hb1 dm dk hD hE h01 hkm
        go_enter Tryz.func62, Tryz.ntmps62
        rcases hcase with ⟨c1, c2, c3⟩ | ⟨c1, c2⟩ | ⟨c1, c2⟩
        all_goals
          go_wp2_with fail
          with_reducible refine (Dm.out _ (by omega)).mono ?_
          rintro e w2 ⟨rfl, hb2⟩
          have B2 := hide hb2
          clear hb2
          go_wp2_with fail
          with_reducible refine (Dk.out _ (by omega)).mono ?_
          rintro e w3 ⟨rfl, hb3⟩
          have B3 := hide (bgo B2.out hb3)
          clear hb3
          go_wp2_with fail
          go_ret
          exact ⟨by rw [← Hr.out]; rfl, B3.out⟩

end Go.Proofs.YtmiegjefmebpdaaGreatDoor
