/- Walks of layer 11's program: ofSource, ofPattern. -/
import Derived.Test.YteokeljmggdecaaDoorHp
namespace Go.Proofs.YteokeljmggdecaaDoor
open Go.RowKit

/-- What stands at the beginning, a keyword still a name. -/
def preN (pat : Bool) (r : List UInt8) : Int × List UInt8 × Nat := (if (preS pat r).1 = 2 then 1 else (preS pat r).1, (preS pat r).2.1, (preS pat r).2.2)
theorem pre_kw (pat : Bool) (r : List UInt8) (hr : r ≠ []) : (preS pat r).1 = if (preN pat r).1 = 1 ∧ isKw (preS pat r).2.1 = true then 2 else (preN pat r).1 := by
  cases r with
  | nil => exact absurd rfl hr
  | cons c x =>
    unfold preN
    rcases pre_cases pat c with h1 | h1 | h1 | h1 | ⟨h1, h2, h3, h4⟩
    · rw [pre_int (r := c :: x) h1]; simp
    · rw [pre_word (r := c :: x) h1]
      cases isKw (wordS (c :: x)) <;> simp
    · subst h1
      rw [pre_lit]
      cases litS x <;> simp
    · obtain ⟨rfl, rfl⟩ := h1
      by_cases hm : x.headD 0 = 36
      · cases x with
        | nil => exact absurd hm (by decide)
        | cons y x =>
          have hy : y = 36 := hm
          subst hy
          rw [pre_many]; simp
      · rw [pre_meta x hm]; simp
    · rw [pre_mark h1 h2 h3 h4]
      split <;> simp
theorem preN_int {pat : Bool} {r : List UInt8} (h : dgB (r.headD 0) = true) : preN pat r = (3, intS r, (intS r).length) := by unfold preN; rw [pre_int h]; rfl
theorem preN_word {pat : Bool} {r : List UInt8} (h : ltB (r.headD 0) = true) : preN pat r = (1, wordS r, (wordS r).length) := by
  unfold preN; rw [pre_word h]; cases isKw (wordS r) <;> rfl
theorem preN_lit (pat : Bool) (r : List UInt8) : preN pat (34 :: r) = litK r := by
  unfold preN litK; rw [pre_lit]; cases litS r <;> rfl
theorem preN_many (r : List UInt8) : preN true (36 :: 36 :: r) = (7, wordS r, 2 + (wordS r).length) := by unfold preN; rw [pre_many]; rfl
theorem preN_meta (r : List UInt8) (h : ¬ r.headD 0 = 36) : preN true (36 :: r) = (6, wordS r, 1 + (wordS r).length) := by unfold preN; rw [pre_meta r h]; rfl
theorem preN_mark {pat : Bool} {c : UInt8} {r : List UInt8} (h1 : dgB c = false) (h2 : ltB c = false) (h3 : ¬ c = 34) (h4 : ¬ (pat = true ∧ c = 36)) : preN pat (c :: r) = (5, markS (c :: r), (markS (c :: r)).length) := by
  unfold preN markS
  rw [pre_mark h1 h2 h3 h4]
  split
  · rename_i h
    have : ((c :: r).take 2).length = 2 := by rw [List.length_take]; omega
    simp only [this]
    rfl
  · rfl
theorem preN_sign {pat : Bool} {c : UInt8} {r : List UInt8} (h : ¬ (pat = true ∧ c = 36)) : preN pat (c :: r) = preN false (c :: r) := by
  have h' : ¬ (false = true ∧ c = 36) := by simp
  unfold preN
  have : preS pat (c :: r) = preS false (c :: r) := by
    rcases pre_cases pat c with h1 | h1 | h1 | h1 | ⟨h1, h2, h3, h4⟩
    · rw [pre_int (r := c :: r) h1, pre_int (r := c :: r) h1]
    · rw [pre_word (r := c :: r) h1, pre_word (r := c :: r) h1]
    · subst h1; rw [pre_lit, pre_lit]
    · exact absurd h1 h
    · rw [pre_mark h1 h2 h3 h4, pre_mark h1 h2 h3 h']
  rw [this]
theorem start_box (w : World) : ∃ W0, w.alloc (.cells #[.int .i64 0, .string ⟨#[]⟩, .int .i64 0, .int .i64 0] 33) = W0 ∧ Four W0 w.heap.size (.int .i64 0) (.string ⟨#[]⟩) (.int .i64 0) (.int .i64 0) ∧ FreeF W0 w.heap.size ∧ Below w.heap.size w W0 ∧ W0.heap.size = w.heap.size + 1 :=
  ⟨_, rfl, four_new w _ _ _ _ _, freeF_new w _ _ _ _ _, bnew (Below.refl _ w) _, by simp⟩
theorem lead_size {s : ByteArray} (p : UInt8 → Bool) (hs : s.size ≤ 1000000) : (s.data.toList.takeWhile p).length ≤ 1000000 := by
  have := tw_len (p := p) s.data.toList
  rw [size_list] at this
  omega

set_option maxRecDepth 20000 in
set_option maxHeartbeats 6400000 in
theorem psource (s : ByteArray) (h0 : 0 < s.size) (hs : s.size ≤ 1000000) (w : World) : Calls Tryd.prog 25 #[.string s] w (GotK w (preN false s.data.toList)) := by
  obtain ⟨W0, hW0, hF0, hFr0, hb0, hsz0⟩ := start_box w
  have hh := head_of h0
  have HD := fun W => pdigit s[0] W
  have HWd := fun W => pword s[0] W
  have h34 : (((s[0]).toNat : Int) == 34) = decide (s[0] = 34) := u8_eq (n := 34) (by decide)
  have hp1 : (0 : Int) < (s.size : Int) := by omega
  obtain ⟨P, hP⟩ : ∃ P, preN false s.data.toList = P := ⟨_, rfl⟩
  rw [hP]
  have HW0 := hide hW0
  have HF0 := hide hF0
  have HR0 := hide hFr0
  have HB0 := hide hb0
  have HS0 := hide hsz0
  clear hW0 hF0 hFr0 hb0
  have hhd : s.data.toList.headD 0 = s[0] := by rw [hh]; rfl
  have store : ∀ (w3 : World) (K : Int) (T : List UInt8) (N : Nat), P = (K, T, N) → Four w3 w.heap.size (.int .i64 0) (.string ⟨#[]⟩) (.int .i64 0) (.int .i64 0) → Below w.heap.size w w3 →
      Four (put4 w3 w.heap.size (.int .i64 K) (.string (bs T)) (.int .i64 0) (.int .i64 (N : Int))) w.heap.size (.int .i64 P.1) (.string (bs P.2.1)) (.int .i64 0) (.int .i64 (P.2.2 : Int)) ∧ Below w.heap.size w (put4 w3 w.heap.size (.int .i64 K) (.string (bs T)) (.int .i64 0) (.int .i64 (N : Int))) := by
    intro w3 K T N hPe hF hb
    rw [hPe]
    exact ⟨put4_four hF _ _ _ _, put4_below hb (Nat.le_refl _)⟩
  have HSt := hide store
  clear store
  by_cases hd : dgB s[0] = true
  · have hPe : P = (3, intS s.data.toList, (intS s.data.toList).length) := by rw [← hP, preN_int (by rw [hhd]; exact hd)]
    have HC := fun W => pleading 37 dgB s W (by omega) run_digit pdigit
    have hls := lead_size dgB hs
    obtain ⟨l, hl⟩ : ∃ l, intS s.data.toList = l := ⟨_, rfl⟩
    rw [show s.data.toList.takeWhile dgB = l from hl] at HC hls
    rw [hl] at hPe
    rw [hd] at HD
    obtain ⟨T, hT⟩ : ∃ T, bs l = T := ⟨_, rfl⟩
    have hTl : T.data.toList = l := by rw [← hT, bs_list]
    have hTs : T.size = l.length := by rw [← hT, bs_size]
    rw [hT] at HC
    have HC := hide HC
    have HD := hide HD
    have HPe := hide hPe
    have HT := hide hT
    have HWh := hide (fun W => pwhole 3 T W)
    rw [hTl, hTs] at HWh
    clear HWd h34 hP hh hhd hd hl hPe hT hTl hTs hls
    go_enter Tryd.func25, Tryd.ntmps25
    go_wp2_with fail
    rw [HW0.out]
    with_reducible refine (HD.out _).mono ?_
    rintro e w1 ⟨rfl, rfl⟩
    go_wp2_with fail
    with_reducible refine (HC.out _).mono ?_
    rintro e w1 ⟨rfl, rfl⟩
    go_wp2_with fail
    with_reducible refine (HWh.out _).mono ?_
    rintro e w1 ⟨rfl, hb1⟩
    dsimp only
    have hF1 := HF0.out.keep hb1
    have hR1 := HR0.out.at_ hb1 HF0.out.1
    have hB1 := HB0.out.trans (hb1.mono HB0.out.size)
    have HQ := hide (HSt.out w1 3 l l.length HPe.out hF1 hB1)
    obtain ⟨⟨-, f0, f1, f2, f3⟩, g0, g1, g2, g3⟩ := And.intro hF1 hR1
    clear hF1 hR1 hB1 hb1
    go_wp2
    exact bodyPost_ret (res_box rfl _ _ w.heap.size _ _ _ _ rfl HQ.out.1) rfl ⟨rfl, HQ.out.2⟩
  · have hd0 : dgB s[0] = false := by simpa using hd
    rw [hd0] at HD
    have HD := hide HD
    by_cases hw : wdB s[0] = true
    · have hPe : P = (1, wordS s.data.toList, (wordS s.data.toList).length) := by rw [← hP, preN_word (by rw [hhd]; exact wd_lt hw hd0)]
      have HC := fun W => pleading 40 wdB s W (by omega) run_word pword
      have hls := lead_size wdB hs
      obtain ⟨l, hl⟩ : ∃ l, wordS s.data.toList = l := ⟨_, rfl⟩
      rw [show s.data.toList.takeWhile wdB = l from hl] at HC hls
      rw [hl] at hPe
      rw [hw] at HWd
      obtain ⟨T, hT⟩ : ∃ T, bs l = T := ⟨_, rfl⟩
      have hTl : T.data.toList = l := by rw [← hT, bs_list]
      have hTs : T.size = l.length := by rw [← hT, bs_size]
      rw [hT] at HC
      have HC := hide HC
      have HWd := hide HWd
      have HPe := hide hPe
      have HWh := hide (fun W => pwhole 1 T W)
      rw [hTl, hTs] at HWh
      clear h34 hP hh hhd hd hd0 hw hl hPe hT hTl hTs hls
      go_enter Tryd.func25, Tryd.ntmps25
      go_wp2_with fail
      rw [HW0.out]
      with_reducible refine (HD.out _).mono ?_
      rintro e w1 ⟨rfl, rfl⟩
      go_wp2_with fail
      with_reducible refine (HWd.out _).mono ?_
      rintro e w1 ⟨rfl, rfl⟩
      go_wp2_with fail
      with_reducible refine (HC.out _).mono ?_
      rintro e w1 ⟨rfl, rfl⟩
      go_wp2_with fail
      with_reducible refine (HWh.out _).mono ?_
      rintro e w1 ⟨rfl, hb1⟩
      dsimp only
      have hF1 := HF0.out.keep hb1
      have hR1 := HR0.out.at_ hb1 HF0.out.1
      have hB1 := HB0.out.trans (hb1.mono HB0.out.size)
      have HQ := hide (HSt.out w1 1 l l.length HPe.out hF1 hB1)
      obtain ⟨⟨-, f0, f1, f2, f3⟩, g0, g1, g2, g3⟩ := And.intro hF1 hR1
      clear hF1 hR1 hB1 hb1
      go_wp2
      exact bodyPost_ret (res_box rfl _ _ w.heap.size _ _ _ _ rfl HQ.out.1) rfl ⟨rfl, HQ.out.2⟩
    · have hw0 : wdB s[0] = false := by simpa using hw
      have hl0 : ltB s[0] = false := by
        cases hl : ltB s[0] with
        | false => rfl
        | true => rw [lt_wd hl] at hw0; cases hw0
      rw [hw0] at HWd
      have HWd := hide HWd
      by_cases h3 : s[0] = 34
      · rw [decide_eq_true h3] at h34
        have hPe : P = litK (s.data.toList.drop 1) := by rw [← hP, hh, h3, preN_lit]; rfl
        have HC := hide (fun W => pliteral s h0 hs W)
        rw [← hPe] at HC
        clear hP hh hhd hd hd0 hw hw0 hl0 h3 hPe
        go_enter Tryd.func25, Tryd.ntmps25
        go_wp2_with fail
        rw [HW0.out]
        with_reducible refine (HD.out _).mono ?_
        rintro e w1 ⟨rfl, rfl⟩
        go_wp2_with fail
        with_reducible refine (HWd.out _).mono ?_
        rintro e w1 ⟨rfl, rfl⟩
        go_wp2_with fail
        with_reducible refine (HC.out _).mono ?_
        rintro e w1 ⟨rfl, hb1⟩
        have hF1 := HF0.out.keep hb1
        have hR1 := HR0.out.at_ hb1 HF0.out.1
        have hB1 := HB0.out.trans (hb1.mono HB0.out.size)
        have HQ := hide (HSt.out w1 P.1 P.2.1 P.2.2 rfl hF1 hB1)
        obtain ⟨⟨-, f0, f1, f2, f3⟩, g0, g1, g2, g3⟩ := And.intro hF1 hR1
        clear hF1 hR1 hB1 hb1
        go_wp2
        exact bodyPost_ret (res_box rfl _ _ w.heap.size _ _ _ _ rfl HQ.out.1) rfl ⟨rfl, HQ.out.2⟩
      · rw [decide_eq_false h3] at h34
        have hPe : P = (5, markS s.data.toList, (markS s.data.toList).length) := by rw [← hP, hh, preN_mark hd0 hl0 h3 (by simp)]
        have HC := fun W => pmark s h0 hs W
        obtain ⟨l, hl⟩ : ∃ l, markS s.data.toList = l := ⟨_, rfl⟩
        rw [hl] at hPe HC
        obtain ⟨T, hT⟩ : ∃ T, bs l = T := ⟨_, rfl⟩
        have hTl : T.data.toList = l := by rw [← hT, bs_list]
        have hTs : T.size = l.length := by rw [← hT, bs_size]
        rw [hT] at HC
        have HC := hide HC
        have HPe := hide hPe
        have HWh := hide (fun W => pwhole 5 T W)
        rw [hTl, hTs] at HWh
        clear hP hh hhd hd hd0 hw hw0 hl0 h3 hl hPe hT hTl hTs
        go_enter Tryd.func25, Tryd.ntmps25
        go_wp2_with fail
        rw [HW0.out]
        with_reducible refine (HD.out _).mono ?_
        rintro e w1 ⟨rfl, rfl⟩
        go_wp2_with fail
        with_reducible refine (HWd.out _).mono ?_
        rintro e w1 ⟨rfl, rfl⟩
        go_wp2_with fail
        with_reducible refine (HC.out _).mono ?_
        rintro e w1 ⟨rfl, rfl⟩
        go_wp2_with fail
        with_reducible refine (HWh.out _).mono ?_
        rintro e w1 ⟨rfl, hb1⟩
        dsimp only
        have hF1 := HF0.out.keep hb1
        have hR1 := HR0.out.at_ hb1 HF0.out.1
        have hB1 := HB0.out.trans (hb1.mono HB0.out.size)
        have HQ := hide (HSt.out w1 5 l l.length HPe.out hF1 hB1)
        obtain ⟨⟨-, f0, f1, f2, f3⟩, g0, g1, g2, g3⟩ := And.intro hF1 hR1
        clear hF1 hR1 hB1 hb1
        go_wp2
        exact bodyPost_ret (res_box rfl _ _ w.heap.size _ _ _ _ rfl HQ.out.1) rfl ⟨rfl, HQ.out.2⟩

theorem pre1 (a : UInt8) (l : List UInt8) : Lib.hasPrefix l [a] = match l with | x :: _ => decide (x = a) | _ => false := by
  unfold Lib.hasPrefix
  match l with
  | [] => rfl
  | x :: r =>
    simp only [List.isPrefixOf, Bool.and_true]
    rw [Bool.eq_iff_iff, beq_iff_eq, decide_eq_true_eq]
    exact eq_comm
set_option maxRecDepth 20000 in
set_option maxHeartbeats 6400000 in
theorem ppattern (s : ByteArray) (h0 : 0 < s.size) (hs : s.size ≤ 1000000) (w : World) : Calls Tryd.prog 27 #[.string s] w (GotK w (preN true s.data.toList)) := by
  obtain ⟨W0, hW0, hF0, hFr0, hb0, hsz0⟩ := start_box w
  have hh := head_of h0
  have H2 := fun W => Tryd.strings_HasPrefix s ⟨#[36, 36]⟩ W
  have H1 := fun W => Tryd.strings_HasPrefix s ⟨#[36]⟩ W
  rw [show (⟨#[36, 36]⟩ : ByteArray).data.toList = [36, 36] from rfl] at H2
  rw [show (⟨#[36]⟩ : ByteArray).data.toList = [36] from rfl] at H1
  obtain ⟨P, hP⟩ : ∃ P, preN true s.data.toList = P := ⟨_, rfl⟩
  rw [hP]
  have HW0 := hide hW0
  have HF0 := hide hF0
  have HR0 := hide hFr0
  have HB0 := hide hb0
  clear hW0 hF0 hFr0 hb0 hsz0
  have store : ∀ (w3 : World) (K : Int) (T : List UInt8) (N : Nat), P = (K, T, N) → Four w3 w.heap.size (.int .i64 0) (.string ⟨#[]⟩) (.int .i64 0) (.int .i64 0) → Below w.heap.size w w3 →
      Four (put4 w3 w.heap.size (.int .i64 K) (.string (bs T)) (.int .i64 0) (.int .i64 (N : Int))) w.heap.size (.int .i64 P.1) (.string (bs P.2.1)) (.int .i64 0) (.int .i64 (P.2.2 : Int)) ∧ Below w.heap.size w (put4 w3 w.heap.size (.int .i64 K) (.string (bs T)) (.int .i64 0) (.int .i64 (N : Int))) := by
    intro w3 K T N hPe hF hb
    rw [hPe]
    exact ⟨put4_four hF _ _ _ _, put4_below hb (Nat.le_refl _)⟩
  have HSt := hide store
  clear store
  by_cases h36 : s[0] = 36
  · by_cases hm : (s.data.toList.drop 1).headD 0 = 36
    · obtain ⟨x, hx⟩ : ∃ x, s.data.toList.drop 1 = 36 :: x := by
        cases hr : s.data.toList.drop 1 with
        | nil => rw [hr] at hm; exact absurd hm (by decide)
        | cons y x =>
          rw [hr] at hm
          have hm : y = 36 := hm
          exact ⟨x, by rw [hm]⟩
      have hlen : s.size = x.length + 2 := by
        have := congrArg List.length hh
        rw [hx, size_list] at this
        simpa using this
      have hl : s.data.toList = 36 :: 36 :: x := by rw [hh, hx, h36]
      have HC := fun W => pvariable 7 ⟨#[36, 36]⟩ s (by show 2 ≤ s.size; omega) hs W
      rw [show (⟨#[36, 36]⟩ : ByteArray).size = 2 from rfl, hl] at HC
      have hPe : P = (7, wordS x, 2 + (wordS x).length) := by rw [← hP, hl, preN_many]
      rw [show (36 :: 36 :: x).drop 2 = x from rfl, ← hPe] at HC
      have HC := hide HC
      rw [show Lib.hasPrefix s.data.toList [36, 36] = true by rw [hl]; rfl] at H2
      have H2 := hide H2
      clear H1 hP hh hx hlen hl hPe h36 hm
      go_enter Tryd.func27, Tryd.ntmps27
      go_wp2_with fail
      rw [HW0.out]
      with_reducible refine (H2.out _).mono ?_
      rintro e w1 ⟨rfl, rfl⟩
      go_wp2_with fail
      with_reducible refine (HC.out _).mono ?_
      rintro e w1 ⟨rfl, hb1⟩
      have hF1 := HF0.out.keep hb1
      have hR1 := HR0.out.at_ hb1 HF0.out.1
      have hB1 := HB0.out.trans (hb1.mono HB0.out.size)
      have HQ := hide (HSt.out w1 P.1 P.2.1 P.2.2 rfl hF1 hB1)
      obtain ⟨⟨-, f0, f1, f2, f3⟩, g0, g1, g2, g3⟩ := And.intro hF1 hR1
      clear hF1 hR1 hB1 hb1
      go_wp2
      exact bodyPost_ret (res_box rfl _ _ w.heap.size _ _ _ _ rfl HQ.out.1) rfl ⟨rfl, HQ.out.2⟩
    · have hl : s.data.toList = 36 :: s.data.toList.drop 1 := by rw [← h36]; exact hh
      have HC := fun W => pvariable 6 ⟨#[36]⟩ s (by show 1 ≤ s.size; omega) hs W
      rw [show (⟨#[36]⟩ : ByteArray).size = 1 from rfl] at HC
      have hPe : P = (6, wordS (s.data.toList.drop 1), 1 + (wordS (s.data.toList.drop 1)).length) := by rw [← hP, hl, preN_meta _ hm]; rfl
      rw [← hPe] at HC
      have HC := hide HC
      have hbf : Lib.hasPrefix s.data.toList [36, 36] = false := by
        rw [hl, pre2]
        cases hr : s.data.toList.drop 1 with
        | nil => rfl
        | cons y x =>
          rw [hr] at hm
          have hm : ¬ y = 36 := hm
          simp [hm]
      rw [hbf] at H2
      rw [show Lib.hasPrefix s.data.toList [36] = true by rw [hl]; rfl] at H1
      have H1 := hide H1
      have H2 := hide H2
      clear hP hh hl hPe h36 hm hbf
      go_enter Tryd.func27, Tryd.ntmps27
      go_wp2_with fail
      rw [HW0.out]
      with_reducible refine (H2.out _).mono ?_
      rintro e w1 ⟨rfl, rfl⟩
      go_wp2_with fail
      with_reducible refine (H1.out _).mono ?_
      rintro e w1 ⟨rfl, rfl⟩
      go_wp2_with fail
      with_reducible refine (HC.out _).mono ?_
      rintro e w1 ⟨rfl, hb1⟩
      have hF1 := HF0.out.keep hb1
      have hR1 := HR0.out.at_ hb1 HF0.out.1
      have hB1 := HB0.out.trans (hb1.mono HB0.out.size)
      have HQ := hide (HSt.out w1 P.1 P.2.1 P.2.2 rfl hF1 hB1)
      obtain ⟨⟨-, f0, f1, f2, f3⟩, g0, g1, g2, g3⟩ := And.intro hF1 hR1
      clear hF1 hR1 hB1 hb1
      go_wp2
      exact bodyPost_ret (res_box rfl _ _ w.heap.size _ _ _ _ rfl HQ.out.1) rfl ⟨rfl, HQ.out.2⟩
  · have HC := fun W => psource s h0 hs W
    have hPe : P = preN false s.data.toList := by rw [← hP, hh, preN_sign (fun h => h36 h.2)]
    rw [← hPe] at HC
    have HC := hide HC
    have hbf : Lib.hasPrefix s.data.toList [36, 36] = false := by
      rw [hh, pre2]
      cases s.data.toList.drop 1 with
      | nil => rfl
      | cons y x => simp [h36]
    have hbf1 : Lib.hasPrefix s.data.toList [36] = false := by
      rw [hh, pre1]
      exact decide_eq_false h36
    rw [hbf] at H2
    rw [hbf1] at H1
    have H1 := hide H1
    have H2 := hide H2
    clear hP hh hPe h36 hbf hbf1
    go_enter Tryd.func27, Tryd.ntmps27
    go_wp2_with fail
    rw [HW0.out]
    with_reducible refine (H2.out _).mono ?_
    rintro e w1 ⟨rfl, rfl⟩
    go_wp2_with fail
    with_reducible refine (H1.out _).mono ?_
    rintro e w1 ⟨rfl, rfl⟩
    go_wp2_with fail
    with_reducible refine (HC.out _).mono ?_
    rintro e w1 ⟨rfl, hb1⟩
    have hF1 := HF0.out.keep hb1
    have hR1 := HR0.out.at_ hb1 HF0.out.1
    have hB1 := HB0.out.trans (hb1.mono HB0.out.size)
    have HQ := hide (HSt.out w1 P.1 P.2.1 P.2.2 rfl hF1 hB1)
    obtain ⟨⟨-, f0, f1, f2, f3⟩, g0, g1, g2, g3⟩ := And.intro hF1 hR1
    clear hF1 hR1 hB1 hb1
    go_wp2
    exact bodyPost_ret (res_box rfl _ _ w.heap.size _ _ _ _ rfl HQ.out.1) rfl ⟨rfl, HQ.out.2⟩
end Go.Proofs.YteokeljmggdecaaDoor
