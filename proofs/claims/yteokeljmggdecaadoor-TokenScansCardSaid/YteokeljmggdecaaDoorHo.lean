/- Walks of layer 11's program: tokens as results in boxes; whole, mark, content, variable. -/
import Derived.Test.YteokeljmggdecaaDoorHl
import Derived.Laws.ResultCell
namespace Go.Proofs.YteokeljmggdecaaDoor
open Go.RowKit

theorem load_four {W : World} {b : Nat} {c0 c1 c2 c3 : Value} (h : Four W b c0 c1 c2 c3) : (loadVar 33 ⟨b, 0, none⟩).run Tryd.prog W = .ok (.agg #[c0, c1, c2, c3]) W := by
  obtain ⟨h0, h1, h2, h3, h4⟩ := h
  go_simp
/-- A result in a box alone. -/
theorem res_box {fn : Func} {p : Tmp} (h : fn.results = #[.cell p 33]) (tmps : Array Value) (W : World) (b : Nat) (c0 c1 c2 c3 : Value) (hp : tmps.getD p undef = .pointer (some ⟨b, 0, none⟩)) (hf : Four W b c0 c1 c2 c3) :
    (results fn tmps).run Tryd.prog W = .ok (.agg #[c0, c1, c2, c3]) W := by
  have hp' : tmps[p]?.getD undef = .pointer (some ⟨b, 0, none⟩) := by simpa using hp
  simp [results, h, hp', asAddr, load_four hf]
/-- A result in a box and a number beside it. -/
theorem res_two {fn : Func} {p u : Tmp} (h : fn.results = #[.cell p 33, .tmp u]) (tmps : Array Value) (W : World) (b : Nat) (c0 c1 c2 c3 z : Value) (hp : tmps.getD p undef = .pointer (some ⟨b, 0, none⟩)) (hu : tmps.getD u undef = z) (hf : Four W b c0 c1 c2 c3) :
    (results fn tmps).run Tryd.prog W = .ok (.tuple #[.agg #[c0, c1, c2, c3], z]) W := by
  rw [results_cell_tmp h, hp, hu]
  simp [asAddr, load_four hf, Result.andThen]
/-- Four cells stored. -/
def put4 (w : World) (b : Nat) (u0 u1 u2 u3 : Value) : World := (((w.setCell ⟨b, 0, none⟩ u0).setCell ⟨b, 1, none⟩ u1).setCell ⟨b, 2, none⟩ u2).setCell ⟨b, 3, none⟩ u3
theorem set_off (w : World) (b j k : Nat) (u : Value) (h : j ≠ k) : (w.setCell ⟨b, j, none⟩ u).cell? ⟨b, k, none⟩ = w.cell? ⟨b, k, none⟩ := World.cell?_setCell_other _ _ _ _ (fun e => h (congrArg Addr.off e))
theorem put4_four {w : World} {b : Nat} {c0 c1 c2 c3 : Value} (h : Four w b c0 c1 c2 c3) (u0 u1 u2 u3 : Value) : Four (put4 w b u0 u1 u2 u3) b u0 u1 u2 u3 := by
  obtain ⟨h0, h1, h2, h3, h4⟩ := h
  unfold put4
  refine ⟨by simpa [World.setCell] using h0, ?_, ?_, ?_, ?_⟩
  · rw [set_off _ _ _ _ _ (by decide), set_off _ _ _ _ _ (by decide), set_off _ _ _ _ _ (by decide)]
    exact World.cell?_setCell_same _ _ _ h1
  · rw [set_off _ _ _ _ _ (by decide), set_off _ _ _ _ _ (by decide)]
    exact World.cell?_setCell_same _ _ _ (by rw [set_off _ _ _ _ _ (by decide)]; exact h2)
  · rw [set_off _ _ _ _ _ (by decide)]
    exact World.cell?_setCell_same _ _ _ (by rw [set_off _ _ _ _ _ (by decide), set_off _ _ _ _ _ (by decide)]; exact h3)
  · exact World.cell?_setCell_same _ _ _ (by rw [set_off _ _ _ _ _ (by decide), set_off _ _ _ _ _ (by decide), set_off _ _ _ _ _ (by decide)]; exact h4)
theorem put4_below {B b : Nat} {w w' : World} {u0 u1 u2 u3 : Value} (h : Below B w w') (hb : B ≤ b) : Below B w (put4 w' b u0 u1 u2 u3) :=
  (((h.setCell (by exact hb) _).setCell (by exact hb) _).setCell (by exact hb) _).setCell (by exact hb) _

/-- What begins a string: its kind, its text, its length; where it is does not matter. -/
def GotK (w : World) (x : Int × List UInt8 × Nat) (e : Ending) (w' : World) : Prop :=
  e = .returned (.agg #[.int .i64 x.1, .string (bs x.2.1), .int .i64 0, .int .i64 (x.2.2 : Int)]) ∧ Below w.heap.size w w'

set_option maxRecDepth 20000 in
theorem pwhole (k : Int) (s : ByteArray) (w : World) : Calls Tryd.prog 38 #[.int .i64 k, .string s] w (GotK w (k, s.data.toList, s.size)) := by
  have HF := hide (four_new w (.int .i64 k) (.string s) (.int .i64 0) (.int .i64 (s.size : Int)) 33)
  have HB := hide (bnew (Below.refl w.heap.size w) (.cells #[.int .i64 k, .string s, .int .i64 0, .int .i64 (s.size : Int)] 33))
  have Hs := hide (bs_self s)
  go_enter Tryd.func38, Tryd.ntmps38
  go_wp2
  exact bodyPost_ret (res_box rfl _ _ w.heap.size _ _ _ _ rfl HF.out) rfl ⟨by rw [Hs.out], HB.out⟩

/-- The mark at the beginning, or the first byte. -/
def markS (r : List UInt8) : List UInt8 := if 2 ≤ r.length ∧ isMk (r.take 2) = true then r.take 2 else r.take 1
set_option maxRecDepth 20000 in
set_option maxHeartbeats 1600000 in
theorem pmark (s : ByteArray) (h0 : 0 < s.size) (hs : s.size ≤ 1000000) (w : World) : Calls Tryd.prog 42 #[.string s] w fun e w' => e = .returned (.string (bs (markS s.data.toList))) ∧ w = w' := by
  have HM := fun W => pismark (s.extract 0 2) _ rfl W
  rw [bs_take, bs_list] at HM
  obtain ⟨q, hq⟩ : ∃ q, isMk (s.data.toList.take 2) = q := ⟨_, rfl⟩
  rw [hq, ← bs_take] at HM
  have HM := hide HM
  have h1 : (1 : Int) ≤ (s.size : Int) := by omega
  by_cases h2 : 2 ≤ s.size
  · have h2' : (2 : Int) ≤ (s.size : Int) := by omega
    cases q with
    | true =>
      have Hy := hide (show s.extract 0 2 = bs (markS s.data.toList) by
        unfold markS
        rw [if_pos ⟨by rw [size_list]; exact h2, hq⟩, bs_take])
      clear hq
      go_enter Tryd.func42, Tryd.ntmps42
      go_wp2_with fail
      with_reducible refine (HM.out _).mono ?_
      rintro e w1 ⟨rfl, rfl⟩
      go_wp2
      go_ret
      exact ⟨ret_str Hy.out, rfl⟩
    | false =>
      have Hy := hide (show s.extract 0 1 = bs (markS s.data.toList) by
        unfold markS
        rw [if_neg (fun h => by rw [hq] at h; cases h.2), bs_take])
      clear hq
      go_enter Tryd.func42, Tryd.ntmps42
      go_wp2_with fail
      with_reducible refine (HM.out _).mono ?_
      rintro e w1 ⟨rfl, rfl⟩
      go_wp2
      go_ret
      exact ⟨ret_str Hy.out, rfl⟩
  · have h2' : ¬ (2 : Int) ≤ (s.size : Int) := by omega
    have Hy := hide (show s.extract 0 1 = bs (markS s.data.toList) by
      unfold markS
      rw [if_neg (fun h => h2 (by rw [size_list] at h; exact h.1)), bs_take])
    clear hq
    go_enter Tryd.func42, Tryd.ntmps42
    go_wp2
    go_ret
    exact ⟨ret_str Hy.out, rfl⟩

/-! ### what means a byte in a literal -/
def conS : List UInt8 → UInt8 × Nat
  | [] => (0, 0)
  | c :: r => if c = 92 then (match r with
      | [] => (0, 0)
      | e :: _ => if e = 34 ∨ e = 92 then (e, 2) else if e = 110 then (10, 2) else (0, 0))
    else if visB c then (c, 1) else (0, 0)
theorem con_bad {r : List UInt8} (h : (conS r).2 = 0) (h34 : ¬ r.head? = some 34) : litS r = none := by
  cases r with
  | nil => rfl
  | cons c r =>
    have hc : ¬ c = 34 := fun e => h34 (by rw [e]; rfl)
    by_cases h92 : c = 92
    · subst h92
      cases r with
      | nil => exact litS_last
      | cons e x =>
        by_cases he : e = 34 ∨ e = 92
        · simp [conS, he] at h
        · by_cases hn : e = 110
          · simp [conS, hn] at h
          · exact litS_no e x he hn
    · cases hv : visB c with
      | true => simp [conS, h92, hv] at h
      | false => exact litS_bad c r hc h92 hv
theorem con_good {r : List UInt8} (h : ¬ (conS r).2 = 0) (h34 : ¬ r.head? = some 34) :
    litS r = (litS (r.drop (conS r).2)).map (fun x => ((conS r).1 :: x.1, x.2 + (conS r).2)) ∧ 1 ≤ (conS r).2 ∧ (conS r).2 ≤ r.length := by
  cases r with
  | nil => exact absurd rfl h
  | cons c r =>
    have hc : ¬ c = 34 := fun e => h34 (by rw [e]; rfl)
    by_cases h92 : c = 92
    · subst h92
      cases r with
      | nil => exact absurd rfl h
      | cons e x =>
        by_cases he : e = 34 ∨ e = 92
        · have : conS (92 :: e :: x) = (e, 2) := by simp [conS, he]
          rw [this]
          exact ⟨litS_esc e x he, Nat.le_succ 1, by simp⟩
        · by_cases hn : e = 110
          · subst hn
            have : conS (92 :: 110 :: x) = (10, 2) := by simp [conS]
            rw [this]
            exact ⟨litS_feed x, by decide, by simp⟩
          · have : conS (92 :: e :: x) = (0, 0) := by simp [conS, he, hn]
            rw [this] at h
            exact absurd rfl h
    · cases hv : visB c with
      | true =>
        have : conS (c :: r) = (c, 1) := by simp [conS, h92, hv]
        rw [this]
        exact ⟨litS_plain c r hc h92 hv, Nat.le_refl 1, by simp⟩
      | false =>
        have : conS (c :: r) = (0, 0) := by simp [conS, h92, hv]
        rw [this] at h
        exact absurd rfl h
theorem pre2 (a b : UInt8) (l : List UInt8) : Lib.hasPrefix l [a, b] = match l with | x :: y :: _ => decide (x = a) && decide (y = b) | _ => false := by
  unfold Lib.hasPrefix
  match l with
  | [] => rfl
  | [x] => simp [List.isPrefixOf]
  | x :: y :: r =>
    simp only [List.isPrefixOf, Bool.and_true]
    rw [Bool.eq_iff_iff]
    simp only [Bool.and_eq_true, beq_iff_eq, decide_eq_true_eq]
    exact ⟨fun h => ⟨h.1.symm, h.2.symm⟩, fun h => ⟨h.1.symm, h.2.symm⟩⟩
theorem con_cases (c : UInt8) (r : List UInt8) : conS (c :: r) = if Lib.hasPrefix (c :: r) [92, 34] = true then (34, 2) else if Lib.hasPrefix (c :: r) [92, 92] = true then (92, 2) else if Lib.hasPrefix (c :: r) [92, 110] = true then (10, 2)
    else if ¬ c = 92 ∧ visB c = true then (c, 1) else (0, 0) := by
  rw [pre2, pre2, pre2]
  by_cases h92 : c = 92
  · subst h92
    cases r with
    | nil => simp [conS]
    | cons e x =>
      by_cases h1 : e = 34
      · simp [conS, h1]
      · by_cases h2 : e = 92
        · simp [conS, h2]
        · by_cases h3 : e = 110
          · simp [conS, h3]
          · simp [conS, h1, h2, h3]
  · cases r with
    | nil => simp [conS, h92]
    | cons e x => simp [conS, h92]
set_option maxRecDepth 20000 in
set_option maxHeartbeats 3200000 in
theorem pcontentS (s : ByteArray) (h0 : 0 < s.size) (z : UInt8 × Nat) (hz : conS s.data.toList = z) (w : World) :
    Calls Tryd.prog 59 #[.string s] w fun e w' => e = .returned (.tuple #[.int .u8 (z.1.toNat : Int), .int .i64 (z.2 : Int)]) ∧ w = w' := by
  have H1 := fun W => Tryd.strings_HasPrefix s ⟨#[92, 34]⟩ W
  have H2 := fun W => Tryd.strings_HasPrefix s ⟨#[92, 92]⟩ W
  have H3 := fun W => Tryd.strings_HasPrefix s ⟨#[92, 110]⟩ W
  have hh := head_of h0
  rw [hh, con_cases] at hz
  rw [show (⟨#[92, 34]⟩ : ByteArray).data.toList = [92, 34] from rfl, hh] at H1
  rw [show (⟨#[92, 92]⟩ : ByteArray).data.toList = [92, 92] from rfl, hh] at H2
  rw [show (⟨#[92, 110]⟩ : ByteArray).data.toList = [92, 110] from rfl, hh] at H3
  obtain ⟨b1, e1⟩ : ∃ b, Lib.hasPrefix (s[0] :: s.data.toList.drop 1) [92, 34] = b := ⟨_, rfl⟩
  obtain ⟨b2, e2⟩ : ∃ b, Lib.hasPrefix (s[0] :: s.data.toList.drop 1) [92, 92] = b := ⟨_, rfl⟩
  obtain ⟨b3, e3⟩ : ∃ b, Lib.hasPrefix (s[0] :: s.data.toList.drop 1) [92, 110] = b := ⟨_, rfl⟩
  rw [e1] at H1 hz
  rw [e2] at H2 hz
  rw [e3] at H3 hz
  have H1 := hide H1
  have H2 := hide H2
  have H3 := hide H3
  have h92 : (((s[0]).toNat : Int) == 92) = decide (s[0] = 92) := u8_eq (n := 92) (by decide)
  have HV := hide (fun W => pvisible s[0] W)
  clear hh e1 e2 e3
  cases b1 with
  | true =>
    have Hy := hide (show (34, 2) = z from hz)
    clear hz h92
    go_enter Tryd.func59, Tryd.ntmps59
    go_wp2_with fail
    with_reducible refine (H1.out _).mono ?_
    rintro en w1 ⟨rfl, rfl⟩
    go_wp2
    go_ret2
    exact ⟨by rw [← Hy.out]; rfl, rfl⟩
  | false =>
    cases b2 with
    | true =>
      have Hy := hide (show (92, 2) = z from hz)
      clear hz h92
      go_enter Tryd.func59, Tryd.ntmps59
      go_wp2_with fail
      with_reducible refine (H1.out _).mono ?_
      rintro en w1 ⟨rfl, rfl⟩
      go_wp2_with fail
      with_reducible refine (H2.out _).mono ?_
      rintro en w1 ⟨rfl, rfl⟩
      go_wp2
      go_ret2
      exact ⟨by rw [← Hy.out]; rfl, rfl⟩
    | false =>
      cases b3 with
      | true =>
        have Hy := hide (show (10, 2) = z from hz)
        clear hz h92
        go_enter Tryd.func59, Tryd.ntmps59
        go_wp2_with fail
        with_reducible refine (H1.out _).mono ?_
        rintro en w1 ⟨rfl, rfl⟩
        go_wp2_with fail
        with_reducible refine (H2.out _).mono ?_
        rintro en w1 ⟨rfl, rfl⟩
        go_wp2_with fail
        with_reducible refine (H3.out _).mono ?_
        rintro en w1 ⟨rfl, rfl⟩
        go_wp2
        go_ret2
        exact ⟨by rw [← Hy.out]; rfl, rfl⟩
      | false =>
        have hz : (if ¬ s[0] = 92 ∧ visB s[0] = true then (s[0], 1) else (0, 0)) = z := hz
        by_cases hc : s[0] = 92
        · rw [decide_eq_true hc] at h92
          have h92' : (((s[0]).toNat : Int) != 92) = false := by unfold bne; rw [h92]; rfl
          have Hy := hide (show (0, 0) = z by rw [← hz, if_neg (fun h => h.1 hc)])
          clear hz hc
          go_enter Tryd.func59, Tryd.ntmps59
          go_wp2_with fail
          with_reducible refine (H1.out _).mono ?_
          rintro en w1 ⟨rfl, rfl⟩
          go_wp2_with fail
          with_reducible refine (H2.out _).mono ?_
          rintro en w1 ⟨rfl, rfl⟩
          go_wp2_with fail
          with_reducible refine (H3.out _).mono ?_
          rintro en w1 ⟨rfl, rfl⟩
          go_wp2
          go_ret2
          exact ⟨by rw [← Hy.out]; rfl, rfl⟩
        · rw [decide_eq_false hc] at h92
          have h92' : (((s[0]).toNat : Int) != 92) = true := by unfold bne; rw [h92]; rfl
          obtain ⟨v, hv⟩ : ∃ v, visB s[0] = v := ⟨_, rfl⟩
          rw [hv] at HV hz
          cases v with
          | true =>
            have Hy := hide (show (s[0], 1) = z by rw [← hz, if_pos ⟨hc, rfl⟩])
            clear hz hc hv
            go_enter Tryd.func59, Tryd.ntmps59
            go_wp2_with fail
            with_reducible refine (H1.out _).mono ?_
            rintro en w1 ⟨rfl, rfl⟩
            go_wp2_with fail
            with_reducible refine (H2.out _).mono ?_
            rintro en w1 ⟨rfl, rfl⟩
            go_wp2_with fail
            with_reducible refine (H3.out _).mono ?_
            rintro en w1 ⟨rfl, rfl⟩
            go_wp2_with fail
            with_reducible refine (HV.out _).mono ?_
            rintro en w1 ⟨rfl, rfl⟩
            go_wp2
            go_ret2
            exact ⟨by rw [← Hy.out]; rfl, rfl⟩
          | false =>
            have Hy := hide (show (0, 0) = z by rw [← hz, if_neg (fun h => by cases h.2)])
            clear hz hc hv
            go_enter Tryd.func59, Tryd.ntmps59
            go_wp2_with fail
            with_reducible refine (H1.out _).mono ?_
            rintro en w1 ⟨rfl, rfl⟩
            go_wp2_with fail
            with_reducible refine (H2.out _).mono ?_
            rintro en w1 ⟨rfl, rfl⟩
            go_wp2_with fail
            with_reducible refine (H3.out _).mono ?_
            rintro en w1 ⟨rfl, rfl⟩
            go_wp2_with fail
            with_reducible refine (HV.out _).mono ?_
            rintro en w1 ⟨rfl, rfl⟩
            go_wp2
            go_ret2
            exact ⟨by rw [← Hy.out]; rfl, rfl⟩
end Go.Proofs.YteokeljmggdecaaDoor
