/- Walks of layer 11's program: scan, Scan, ScanPattern. -/
import Derived.Test.YteokeljmggdecaaDoorHq
namespace Go.Proofs.YteokeljmggdecaaDoor
open Go.RowKit

/-- What a scan hands back: the tokens, the offset, the error. -/
def resS : Except (Nat × Int) (List Tk) → List Tk × Int × Int
  | .error x => ([], (x.1 : Int), x.2)
  | .ok l => (l, 0, 0)
def GotS (w : World) (x : List Tk × Int × Int) (e : Ending) (w' : World) : Prop :=
  ∃ A n c, e = .returned (.tuple #[.slice A n c, .int .i64 x.2.1, .int .i64 x.2.2]) ∧ TkS w' A n c x.1 ∧ Below w.heap.size w w'
def appE (l : List Tk) : Except (Nat × Int) (List Tk) → Except (Nat × Int) (List Tk)
  | .error e => .error e
  | .ok m => .ok (l ++ m)
theorem pre_le {pat : Bool} {r : List UInt8} (hr : r ≠ []) : (preS pat r).2.2 ≤ r.length := by
  cases r with
  | nil => exact absurd rfl hr
  | cons c x =>
    rcases pre_cases pat c with h1 | h1 | h1 | h1 | ⟨h1, h2, h3, h4⟩
    · rw [pre_int (r := c :: x) h1]; exact tw_len _
    · rw [pre_word (r := c :: x) h1]; exact tw_len _
    · subst h1
      rw [pre_lit]
      cases hl : litS x with
      | none => exact Nat.zero_le _
      | some y =>
        have := litS_len _ x (Nat.le_refl _) y.1 y.2 hl
        simp only [List.length_cons]
        omega
    · obtain ⟨rfl, rfl⟩ := h1
      by_cases hm : x.headD 0 = 36
      · cases x with
        | nil => exact absurd hm (by decide)
        | cons y x =>
          have hy : y = 36 := hm
          subst hy
          rw [pre_many]
          have : (wordS x).length ≤ x.length := tw_len x
          simp only [List.length_cons]
          omega
      · rw [pre_meta x hm]
        have : (wordS x).length ≤ x.length := tw_len x
        simp only [List.length_cons]
        omega
    · rw [pre_mark h1 h2 h3 h4]
      split
      · rename_i h; exact h.1
      · simp
theorem pre_text {pat : Bool} {r : List UInt8} : (preS pat r).2.1.length ≤ r.length := by
  cases r with
  | nil => cases pat <;> simp [preS, dgB, ltB, isMk]
  | cons c x =>
    rcases pre_cases pat c with h1 | h1 | h1 | h1 | ⟨h1, h2, h3, h4⟩
    · rw [pre_int (r := c :: x) h1]; exact tw_len _
    · rw [pre_word (r := c :: x) h1]; exact tw_len _
    · subst h1
      rw [pre_lit]
      cases hl : litS x with
      | none => exact Nat.zero_le _
      | some y =>
        have := litS_len _ x (Nat.le_refl _) y.1 y.2 hl
        simp only [List.length_cons]
        omega
    · obtain ⟨rfl, rfl⟩ := h1
      by_cases hm : x.headD 0 = 36
      · cases x with
        | nil => exact absurd hm (by decide)
        | cons y x =>
          have hy : y = 36 := hm
          subst hy
          rw [pre_many]
          have : (wordS x).length ≤ x.length := tw_len x
          simp only [List.length_cons]
          omega
      · rw [pre_meta x hm]
        have : (wordS x).length ≤ x.length := tw_len x
        simp only [List.length_cons]
        omega
    · rw [pre_mark h1 h2 h3 h4]
      split <;> (rw [List.length_take]; omega)
theorem appE_snoc (l : List Tk) (t : Tk) (x : Except (Nat × Int) (List Tk)) : appE l (match x with | .error e => .error e | .ok m => .ok (t :: m)) = appE (l ++ [t]) x := by
  cases x with
  | error e => rfl
  | ok m => show Except.ok (l ++ t :: m) = Except.ok ((l ++ [t]) ++ m); rw [List.append_assoc]; rfl
/-- One token of a scan, as the program reckons it. -/
theorem scan_step (k : Nat) (pat : Bool) (D n : Nat) (r : List UInt8) (hr : r ≠ []) (hk : r.length < k) :
    (errS pat r ≠ 0 → scanF k pat D n r = .error (D - r.length, errS pat r)) ∧ (errS pat r = 0 → 600 ≤ n → scanF k pat D n r = .error (D - r.length, 4)) ∧
    (errS pat r = 0 → n < 600 → ∀ l, appE l (scanF k pat D n r) = appE (l ++ [⟨(preS pat r).1, (preS pat r).2.1, ((D - r.length : Nat) : Int), ((D - r.length + (preS pat r).2.2 : Nat) : Int)⟩]) (scanF (k - 1) pat D (n + 1) (skS (r.drop (preS pat r).2.2)))) := by
  cases r with
  | nil => exact absurd rfl hr
  | cons c x =>
    cases k with
    | zero => omega
    | succ k =>
      refine ⟨fun h => ?_, fun h hn => ?_, fun h hn l => ?_⟩
      · rw [scan_bad h]; rfl
      · rw [scan_full h hn]; rfl
      · rw [scan_go h hn, ← appE_snoc]
        rfl
/-- The three ways of a kind: a keyword, another name, no name. -/
theorem kind_ways {pat : Bool} {r : List UInt8} (hr : r ≠ []) {k0 K : Int} {kw : Bool} (h0 : (preN pat r).1 = k0) (hK : (preS pat r).1 = K) (hk : isKw (preS pat r).2.1 = kw) :
    (k0 = 1 ∧ kw = true ∧ K = 2) ∨ (k0 = 1 ∧ kw = false ∧ K = 1) ∨ ((k0 == 1) = false ∧ K = k0) := by
  have h := pre_kw pat r hr
  rw [h0, hK, hk] at h
  by_cases h1 : k0 = 1
  · cases kw with
    | true => rw [if_pos ⟨h1, rfl⟩] at h; exact Or.inl ⟨h1, rfl, h⟩
    | false => rw [if_neg (fun x => by cases x.2)] at h; exact Or.inr (Or.inl ⟨h1, rfl, by rw [h, h1]⟩)
  · rw [if_neg (fun x => h1 x.1)] at h
    exact Or.inr (Or.inr ⟨beq_eq_false_iff_ne.2 h1, h⟩)
theorem sk_suffix (d : List UInt8) (k : Nat) (hk : k ≤ d.length) : (skS (d.drop k)).length ≤ d.length - k ∧ skS (d.drop k) = d.drop (d.length - (skS (d.drop k)).length) := by
  obtain ⟨g, hg, _⟩ := skB_gap (d.drop k) false
  have hl := congrArg List.length hg
  rw [List.length_drop, List.length_append] at hl
  have hl : d.length - k = g.length + (skS (d.drop k)).length := hl
  refine ⟨by omega, ?_⟩
  have : d.length - (skS (d.drop k)).length = k + g.length := by omega
  rw [this, ← List.drop_drop]
  conv => rhs; rw [hg]
  rw [List.drop_append, List.drop_length, Nat.sub_self, List.drop_zero, List.nil_append]

set_option maxRecDepth 20000 in
set_option maxHeartbeats 12800000 in
theorem pscan (N : Nat) (pat : Bool) (s : ByteArray) (hs : s.size ≤ 1000000) (w : World)
    (hcf : ∀ (xs : Array Value) (W : World), (callFunc N xs).run Tryd.prog W = .ok (.enter N xs) W)
    (hp : ∀ (s1 : ByteArray) (W : World), 0 < s1.size → s1.size ≤ 1000000 → Calls Tryd.prog N #[.string s1] W (GotK W (preN pat s1.data.toList))) :
    Calls Tryd.prog 24 #[.string s, .func (.func N) #[] #[]] w (GotS w (resS (scanS pat s.data.toList))) := by
  obtain ⟨i0, hi, hz0, hz1, hz2⟩ := info_parts infoTk
  have HKW := hide (pkeywords w)
  have Hp := hide hp
  have HSk := hide (fun W => pskipped s hs W)
  obtain ⟨P, hP⟩ : ∃ P, scanS pat s.data.toList = P := ⟨_, rfl⟩
  rw [hP]
  have HP := hide hP
  clear hP hp
  go_enter Tryd.func24, Tryd.ntmps24
  go_wp2_with fail
  with_reducible refine HKW.out.mono ?_
  rintro e w1 ⟨rfl, hkw, hb1⟩
  have hmb := hkw.lt
  have HK := hide hkw
  have HB1 := hide hb1
  clear hkw hb1 HKW
  obtain ⟨mb, hmbe⟩ : ∃ mb, w.heap.size = mb := ⟨_, rfl⟩
  rw [hmbe] at HK hmb ⊢
  have Hmb := hide hmbe
  clear hmbe
  go_wp2_with fail
  with_reducible refine (HSk.out _).mono ?_
  rintro e w2 ⟨rfl, hb2⟩
  have HK2 := hide (HK.out.below hb2)
  have HB2 := hide (HB1.out.trans (hb2.mono HB1.out.size))
  clear hb2 HK HB1 HSk
  go_wp2_with fail
  go_loopw [8, 9] (fun u x wr => ∃ (s1 : ByteArray) (l : List Tk) (k : Nat), x = .string s1 ∧ s1.size ≤ s.size ∧ s1.data.toList = s.data.toList.drop (s.size - s1.size) ∧ s1.size < k ∧ Bare s1.data.toList ∧
      P = appE l (scanF k pat s.size l.length s1.data.toList) ∧ l.length ≤ 600 ∧ OwnT wr w2.heap.size u l ∧ Below w2.heap.size w2 wr) (fun _ x _ => lenOf x)
  case atStart =>
    have hsx := sk_suffix s.data.toList 0 (Nat.zero_le _)
    rw [List.drop_zero, size_list] at hsx
    refine ⟨bs (skS s.data.toList), [], s.size + 1, rfl, by rw [bs_size]; omega, by rw [bs_list, bs_size]; exact hsx.2, by rw [bs_size]; omega, by rw [bs_list]; exact skB_bare _ _, ?_, by simp, OwnT.nil _ _, Below.refl _ _⟩
    rw [bs_list, ← HP.out]
    unfold scanS
    rw [size_list]
    show _ = appE [] (scanF (s.size + 1) pat s.size 0 (skS s.data.toList))
    cases scanF (s.size + 1) pat s.size 0 (skS s.data.toList) <;> rfl
  case round =>
    obtain ⟨s1, l, k, rfl, hle, hsuf, hk, hbare, hres, hl600, hown, hb⟩ := hrel
    obtain ⟨wo, hwo⟩ : ∃ wo, wo = wr := ⟨wr, rfl⟩
    subst hwo
    have hszo := hb.size
    have HO := hide hown
    have HB := hide hb
    have Hres := hide hres
    have Hsuf := hide hsuf
    have hs1 : s1.size ≤ 1000000 := by omega
    by_cases he : s1.size = 0
    · obtain rfl := empty_of he
      have hPe : P = .ok l := by
        rw [Hres.out]
        show appE l (scanF k pat s.size l.length []) = _
        rw [scan_nil]
        show Except.ok (l ++ []) = _
        rw [List.append_nil]
      have HPe := hide hPe
      obtain ⟨A, n, c, rfl, hn, hts⟩ := hown.s
      have HTS := hide hts
      have HB4 := hide (HB2.out.trans (hb.mono HB2.out.size))
      clear hown hb hres hsuf hk hbare hPe hn hts he
      go_wp2
      go_ret3
      exact ⟨A, n, c, by rw [HPe.out]; rfl, by rw [HPe.out]; exact HTS.out, HB4.out⟩
    · have hpos : 0 < s1.size := by omega
      have hne := not_empty s1 hpos
      obtain ⟨r, hr⟩ : ∃ r, s1.data.toList = r := ⟨_, rfl⟩
      have hrl : r.length = s1.size := by rw [← hr, size_list]
      have hrn : r ≠ [] := fun e => by rw [e] at hrl; simp at hrl; omega
      obtain ⟨hstep1, hstep2, hstep3⟩ := scan_step k pat s.size l.length r hrn (by omega)
      have hn := pre_le (pat := pat) hrn
      have htx := pre_text (pat := pat) (r := r)
      rw [hr] at hres hsuf
      have Hres2 := hide hres
      obtain ⟨A0, n0, c0, rfl, hn0, hts0⟩ := hown.s
      have hnc0 := hts0.1
      have hcc0 := hts0.2.1
      have Hn0 := hide hn0
      rw [← hn0] at hstep1 hstep2 hstep3 hl600 Hres2
      rw [hrl] at hstep1 hstep2 hstep3 hn htx
      have HC := Hp.out s1 wo hpos hs1
      rw [hr] at HC
      obtain ⟨k0, hk0⟩ : ∃ k0, (preN pat r).1 = k0 := ⟨_, rfl⟩
      obtain ⟨K, hK⟩ : ∃ K, (preS pat r).1 = K := ⟨_, rfl⟩
      obtain ⟨kw, hkw⟩ : ∃ kw, isKw (preS pat r).2.1 = kw := ⟨_, rfl⟩
      have hways := kind_ways hrn hk0 hK hkw
      have hpre : preN pat r = (k0, (preS pat r).2.1, (preS pat r).2.2) := by rw [← hk0]; rfl
      rw [hpre] at HC
      have herr : errS pat r = faultS K (preS pat r).2.1 := by unfold errS; rw [hK]
      obtain ⟨tx, htxe⟩ : ∃ tx, (preS pat r).2.1 = tx := ⟨_, rfl⟩
      obtain ⟨n, hne'⟩ : ∃ n, (preS pat r).2.2 = n := ⟨_, rfl⟩
      obtain ⟨q, hq⟩ : ∃ q, errS pat r = q := ⟨_, rfl⟩
      rw [hq] at herr hstep1 hstep2 hstep3
      rw [hK, htxe, hne'] at hstep3
      rw [htxe] at hkw htx herr HC
      rw [hne'] at hn HC
      obtain ⟨T, hT⟩ : ∃ T, bs tx = T := ⟨_, rfl⟩
      have hTl : T.data.toList = tx := by rw [← hT, bs_list]
      have hTs : T.size ≤ 1000000 := by rw [← size_list, hTl]; omega
      obtain ⟨a, ha⟩ : ∃ a, s.size - s1.size = a := ⟨_, rfl⟩
      rw [ha] at hstep1 hstep2 hstep3 hsuf
      obtain ⟨E, hE⟩ : ∃ E, a + n = E := ⟨_, rfl⟩
      rw [hE] at hstep3
      have hA : (s.size : Int) - (s1.size : Int) = (a : Int) := by omega
      have hEE : (n : Int) + (a : Int) = (E : Int) := by omega
      have hEs : E ≤ s.size := by omega
      have hEi : (E : Int) ≤ (s.size : Int) := by omega
      have HF := hide (fun (W : World) (hW : KwD W mb) => pfault K (a : Int) (E : Int) T hTs mb W hW q (by rw [hTl]; exact herr.symm))
      have HLk := hide (fun (W : World) (hW : KwD W mb) => (by
        have h := hW.look T (by unfold maxLen; omega)
        rw [hTl, hkw] at h
        exact h : (Instr.lookup 39 (.map (some mb)) (.string T) false).run Tryd.prog W = .ok (.bool kw) W))
      have HC : Calls Tryd.prog N #[.string s1] wo fun e w' => e = .returned (.agg #[.int .i64 k0, .string (bs tx), .int .i64 0, .int .i64 (n : Int)]) ∧ Below wo.heap.size wo w' := HC
      rw [hT] at HC
      have HC := hide HC
      have hdrop : r.drop n = s.data.toList.drop E := by rw [hsuf, List.drop_drop, hE]
      have hsx := sk_suffix s.data.toList E (by rw [size_list]; exact hEs)
      rw [size_list] at hsx
      have HSx := hide hsx
      have HDr := hide hdrop
      have S1 := hide hstep1
      have S2 := hide hstep2
      have S3 := hide hstep3
      have HTl := hide hTl
      have HTb := hide (show bs tx = T from hT)
      have Hq := hide hq
      have Hqw := hide (show q = 0 → 1 ≤ n from fun h => by
        have := err_len hrn (by rw [hq]; exact h)
        rw [hne'] at this
        exact this.1)
      have Han := hide (show s1.size = s.size - a by omega)
      have Hae := hide hE
      clear hown hb hres hsuf hbare hn0 hts0 hr hrl hrn hstep1 hstep2 hstep3 hk0 hK hkw hpre herr htxe hne' hq hT hTl ha hE hdrop hsx htx he
      rcases hways with ⟨rfl, rfl, rfl⟩ | ⟨rfl, rfl, rfl⟩ | ⟨e1, rfl⟩
      ·
        go_wp2_with fail
        with_reducible refine HC.out.mono ?_
        rintro e w3 ⟨rfl, hb3⟩
        have HB3 := hide (HB.out.trans (hb3.mono hszo))
        have hsz3 := hb3.size
        have HO3 := hide (HO.out.below hb3)
        have HK3 := hide (HK2.out.below HB3.out)
        clear hb3
        have hlk := HLk.out _ (HK3.out.below (bnew (Below.refl w3.heap.size w3) (.cells #[.int .i64 1, .string T, .int .i64 0, .int .i64 (n : Int)] 33)))
        have HBx := hide (bnew (Below.refl w3.heap.size w3) (.cells #[.int .i64 2, .string T, .int .i64 (a : Int), .int .i64 (E : Int)] 33))
        have HFx := hide (four_new w3 (.int .i64 2) (.string T) (.int .i64 (a : Int)) (.int .i64 (E : Int)) 33)
        have HF := hide (HF.out _ (HK3.out.below HBx.out))
        go_wp2_with fail
        with_reducible refine HF.out.mono ?_
        rintro e w5 ⟨rfl, hb5⟩
        have HF5 := hide (HFx.out.keep hb5)
        obtain ⟨f9, f0, f1, f2, f3⟩ := HFx.out.keep hb5
        have HB5 := hide (bgo HBx.out hb5)
        have hsz5 : w3.heap.size ≤ w5.heap.size := HB5.out.size
        have HO5 := hide (HO3.out.below HB5.out)
        have HB5' := hide (HB3.out.trans (HB5.out.mono (by omega)))
        clear hb5 f9 hlk
        by_cases hq0 : q = 0
        · by_cases hfull : 600 ≤ n0
          · have hPe : P = .error (a, 4) := by rw [Hres2.out, S2.out hq0 hfull]; rfl
            have HPe := hide hPe
            have e6 : ((n0 : Int) == 600) = true := by rw [beq_iff_eq]; omega
            have HB6 := hide (HB2.out.trans (HB5'.out.mono HB2.out.size))
            subst hq0
            clear hPe hfull
            go_wp2
            go_quiet (fail)
            go_wp2
            go_ret3
            exact ⟨none, 0, 0, by rw [HPe.out]; rfl, by rw [HPe.out]; exact TkS.nil _, bdr HB6.out _⟩
          · have e6 : ((n0 : Int) == 600) = false := by rw [beq_eq_false_iff_ne]; omega
            have hn0l : n0 < 600 := by omega
            have HP3 := hide (S3.out hq0 hn0l l)
            have Hn1 := hide (Hqw.out hq0)
            have hszx : w2.heap.size ≤ w5.heap.size := by omega
            subst hq0
            clear hfull
            go_wp2_with (at_builtin; refine wp_push_tk rfl (.tmp 57) (.tmp 59) 23 rfl i0 _ 40 Tryd.underlying23 hi hz0 hz1 hz2 rfl w2.heap.size (.slice A0 n0 c0) l rfl w5 ⟨2, tx, (a : Int), (E : Int)⟩ _ _ _ _ rfl (congrArg Value.string HTb.out.symm) rfl rfl HO5.out hszx _ rfl rfl (by rw [← Hn0.out]; omega) (by rw [← Hn0.out]; unfold maxLen; omega) _ ?_)
            intro v' w6 hown6 hb6 hfar6
            obtain ⟨-, f0', f1', f2', f3'⟩ := HF5.out.far hfar6 (fun e => Nat.lt_irrefl _ (World.ownsRow.lt HO3.out _ e).2)
            obtain ⟨A6, n6, c6, rfl, -, -⟩ := hown6.s
            have HO6 := hide hown6
            have HB6 := hide (HB5'.out.trans hb6)
            clear hown6 hb6 hfar6 f0 f1 f2 f3
            have HSk := hide (pskipped (s.extract E s.size) (by rw [bs_drop, bs_size, List.length_drop, size_list]; omega) w6)
            rw [bs_drop, bs_list, ← bs_drop] at HSk
            go_wp2_with fail
            with_reducible refine HSk.out.mono ?_
            rintro e w7 ⟨rfl, hb7⟩
            have HO7 := hide (HO6.out.below hb7)
            have HB7 := hide (HB6.out.trans (hb7.mono HB6.out.size))
            clear hb7
            go_wp2
            go_roundw
            case rel =>
              have h1 := HSx.out
              have h2 := Hn1.out
              have h3 := Han.out
              have h4 := Hae.out
              refine ⟨_, l ++ [⟨2, tx, (a : Int), (E : Int)⟩], k - 1, rfl, by rw [bs_size]; omega, by rw [bs_list, bs_size]; exact h1.2, by rw [bs_size]; omega, by rw [bs_list]; exact skB_bare _ _, ?_, ?_, HO7.out, HB7.out⟩
              · rw [bs_list, ← HDr.out, List.length_append, ← Hn0.out]
                exact Hres2.out.trans HP3.out
              · rw [List.length_append, ← Hn0.out]
                simp only [List.length_cons, List.length_nil]
                omega
            case measure =>
              have h1 := HSx.out
              have h2 := Hn1.out
              have h3 := Han.out
              have h4 := Hae.out
              simp only [lenOf]
              rw [bs_size]
              omega
        · have hPe : P = .error (a, q) := by rw [Hres2.out, S1.out hq0]; rfl
          have HPe := hide hPe
          have e0 : (q == 0) = false := beq_eq_false_iff_ne.2 hq0
          have e0' : (q != 0) = true := by unfold bne; rw [e0]; rfl
          have HB6 := hide (HB2.out.trans (HB5'.out.mono HB2.out.size))
          clear hPe hq0
          go_wp2
          go_quiet (fail)
          go_wp2
          go_ret3
          exact ⟨none, 0, 0, by rw [HPe.out]; rfl, by rw [HPe.out]; exact TkS.nil _, bdr HB6.out _⟩
      ·
        go_wp2_with fail
        with_reducible refine HC.out.mono ?_
        rintro e w3 ⟨rfl, hb3⟩
        have HB3 := hide (HB.out.trans (hb3.mono hszo))
        have hsz3 := hb3.size
        have HO3 := hide (HO.out.below hb3)
        have HK3 := hide (HK2.out.below HB3.out)
        clear hb3
        have hlk := HLk.out _ (HK3.out.below (bnew (Below.refl w3.heap.size w3) (.cells #[.int .i64 1, .string T, .int .i64 0, .int .i64 (n : Int)] 33)))
        have HBx := hide (bnew (Below.refl w3.heap.size w3) (.cells #[.int .i64 1, .string T, .int .i64 (a : Int), .int .i64 (E : Int)] 33))
        have HFx := hide (four_new w3 (.int .i64 1) (.string T) (.int .i64 (a : Int)) (.int .i64 (E : Int)) 33)
        have HF := hide (HF.out _ (HK3.out.below HBx.out))
        go_wp2_with fail
        with_reducible refine HF.out.mono ?_
        rintro e w5 ⟨rfl, hb5⟩
        have HF5 := hide (HFx.out.keep hb5)
        obtain ⟨f9, f0, f1, f2, f3⟩ := HFx.out.keep hb5
        have HB5 := hide (bgo HBx.out hb5)
        have hsz5 : w3.heap.size ≤ w5.heap.size := HB5.out.size
        have HO5 := hide (HO3.out.below HB5.out)
        have HB5' := hide (HB3.out.trans (HB5.out.mono (by omega)))
        clear hb5 f9 hlk
        by_cases hq0 : q = 0
        · by_cases hfull : 600 ≤ n0
          · have hPe : P = .error (a, 4) := by rw [Hres2.out, S2.out hq0 hfull]; rfl
            have HPe := hide hPe
            have e6 : ((n0 : Int) == 600) = true := by rw [beq_iff_eq]; omega
            have HB6 := hide (HB2.out.trans (HB5'.out.mono HB2.out.size))
            subst hq0
            clear hPe hfull
            go_wp2
            go_quiet (fail)
            go_wp2
            go_ret3
            exact ⟨none, 0, 0, by rw [HPe.out]; rfl, by rw [HPe.out]; exact TkS.nil _, bdr HB6.out _⟩
          · have e6 : ((n0 : Int) == 600) = false := by rw [beq_eq_false_iff_ne]; omega
            have hn0l : n0 < 600 := by omega
            have HP3 := hide (S3.out hq0 hn0l l)
            have Hn1 := hide (Hqw.out hq0)
            have hszx : w2.heap.size ≤ w5.heap.size := by omega
            subst hq0
            clear hfull
            go_wp2_with (at_builtin; refine wp_push_tk rfl (.tmp 57) (.tmp 59) 23 rfl i0 _ 40 Tryd.underlying23 hi hz0 hz1 hz2 rfl w2.heap.size (.slice A0 n0 c0) l rfl w5 ⟨1, tx, (a : Int), (E : Int)⟩ _ _ _ _ rfl (congrArg Value.string HTb.out.symm) rfl rfl HO5.out hszx _ rfl rfl (by rw [← Hn0.out]; omega) (by rw [← Hn0.out]; unfold maxLen; omega) _ ?_)
            intro v' w6 hown6 hb6 hfar6
            obtain ⟨-, f0', f1', f2', f3'⟩ := HF5.out.far hfar6 (fun e => Nat.lt_irrefl _ (World.ownsRow.lt HO3.out _ e).2)
            obtain ⟨A6, n6, c6, rfl, -, -⟩ := hown6.s
            have HO6 := hide hown6
            have HB6 := hide (HB5'.out.trans hb6)
            clear hown6 hb6 hfar6 f0 f1 f2 f3
            have HSk := hide (pskipped (s.extract E s.size) (by rw [bs_drop, bs_size, List.length_drop, size_list]; omega) w6)
            rw [bs_drop, bs_list, ← bs_drop] at HSk
            go_wp2_with fail
            with_reducible refine HSk.out.mono ?_
            rintro e w7 ⟨rfl, hb7⟩
            have HO7 := hide (HO6.out.below hb7)
            have HB7 := hide (HB6.out.trans (hb7.mono HB6.out.size))
            clear hb7
            go_wp2
            go_roundw
            case rel =>
              have h1 := HSx.out
              have h2 := Hn1.out
              have h3 := Han.out
              have h4 := Hae.out
              refine ⟨_, l ++ [⟨1, tx, (a : Int), (E : Int)⟩], k - 1, rfl, by rw [bs_size]; omega, by rw [bs_list, bs_size]; exact h1.2, by rw [bs_size]; omega, by rw [bs_list]; exact skB_bare _ _, ?_, ?_, HO7.out, HB7.out⟩
              · rw [bs_list, ← HDr.out, List.length_append, ← Hn0.out]
                exact Hres2.out.trans HP3.out
              · rw [List.length_append, ← Hn0.out]
                simp only [List.length_cons, List.length_nil]
                omega
            case measure =>
              have h1 := HSx.out
              have h2 := Hn1.out
              have h3 := Han.out
              have h4 := Hae.out
              simp only [lenOf]
              rw [bs_size]
              omega
        · have hPe : P = .error (a, q) := by rw [Hres2.out, S1.out hq0]; rfl
          have HPe := hide hPe
          have e0 : (q == 0) = false := beq_eq_false_iff_ne.2 hq0
          have e0' : (q != 0) = true := by unfold bne; rw [e0]; rfl
          have HB6 := hide (HB2.out.trans (HB5'.out.mono HB2.out.size))
          clear hPe hq0
          go_wp2
          go_quiet (fail)
          go_wp2
          go_ret3
          exact ⟨none, 0, 0, by rw [HPe.out]; rfl, by rw [HPe.out]; exact TkS.nil _, bdr HB6.out _⟩
      ·
        go_wp2_with fail
        with_reducible refine HC.out.mono ?_
        rintro e w3 ⟨rfl, hb3⟩
        have HB3 := hide (HB.out.trans (hb3.mono hszo))
        have hsz3 := hb3.size
        have HO3 := hide (HO.out.below hb3)
        have HK3 := hide (HK2.out.below HB3.out)
        clear hb3
        have hlk := HLk.out _ (HK3.out.below (bnew (Below.refl w3.heap.size w3) (.cells #[.int .i64 K, .string T, .int .i64 0, .int .i64 (n : Int)] 33)))
        have HBx := hide (bnew (Below.refl w3.heap.size w3) (.cells #[.int .i64 K, .string T, .int .i64 (a : Int), .int .i64 (E : Int)] 33))
        have HFx := hide (four_new w3 (.int .i64 K) (.string T) (.int .i64 (a : Int)) (.int .i64 (E : Int)) 33)
        have HF := hide (HF.out _ (HK3.out.below HBx.out))
        go_wp2_with fail
        with_reducible refine HF.out.mono ?_
        rintro e w5 ⟨rfl, hb5⟩
        have HF5 := hide (HFx.out.keep hb5)
        obtain ⟨f9, f0, f1, f2, f3⟩ := HFx.out.keep hb5
        have HB5 := hide (bgo HBx.out hb5)
        have hsz5 : w3.heap.size ≤ w5.heap.size := HB5.out.size
        have HO5 := hide (HO3.out.below HB5.out)
        have HB5' := hide (HB3.out.trans (HB5.out.mono (by omega)))
        clear hb5 f9 hlk
        by_cases hq0 : q = 0
        · by_cases hfull : 600 ≤ n0
          · have hPe : P = .error (a, 4) := by rw [Hres2.out, S2.out hq0 hfull]; rfl
            have HPe := hide hPe
            have e6 : ((n0 : Int) == 600) = true := by rw [beq_iff_eq]; omega
            have HB6 := hide (HB2.out.trans (HB5'.out.mono HB2.out.size))
            subst hq0
            clear hPe hfull
            go_wp2
            go_quiet (fail)
            go_wp2
            go_ret3
            exact ⟨none, 0, 0, by rw [HPe.out]; rfl, by rw [HPe.out]; exact TkS.nil _, bdr HB6.out _⟩
          · have e6 : ((n0 : Int) == 600) = false := by rw [beq_eq_false_iff_ne]; omega
            have hn0l : n0 < 600 := by omega
            have HP3 := hide (S3.out hq0 hn0l l)
            have Hn1 := hide (Hqw.out hq0)
            have hszx : w2.heap.size ≤ w5.heap.size := by omega
            subst hq0
            clear hfull
            go_wp2_with (at_builtin; refine wp_push_tk rfl (.tmp 57) (.tmp 59) 23 rfl i0 _ 40 Tryd.underlying23 hi hz0 hz1 hz2 rfl w2.heap.size (.slice A0 n0 c0) l rfl w5 ⟨K, tx, (a : Int), (E : Int)⟩ _ _ _ _ rfl (congrArg Value.string HTb.out.symm) rfl rfl HO5.out hszx _ rfl rfl (by rw [← Hn0.out]; omega) (by rw [← Hn0.out]; unfold maxLen; omega) _ ?_)
            intro v' w6 hown6 hb6 hfar6
            obtain ⟨-, f0', f1', f2', f3'⟩ := HF5.out.far hfar6 (fun e => Nat.lt_irrefl _ (World.ownsRow.lt HO3.out _ e).2)
            obtain ⟨A6, n6, c6, rfl, -, -⟩ := hown6.s
            have HO6 := hide hown6
            have HB6 := hide (HB5'.out.trans hb6)
            clear hown6 hb6 hfar6 f0 f1 f2 f3
            have HSk := hide (pskipped (s.extract E s.size) (by rw [bs_drop, bs_size, List.length_drop, size_list]; omega) w6)
            rw [bs_drop, bs_list, ← bs_drop] at HSk
            go_wp2_with fail
            with_reducible refine HSk.out.mono ?_
            rintro e w7 ⟨rfl, hb7⟩
            have HO7 := hide (HO6.out.below hb7)
            have HB7 := hide (HB6.out.trans (hb7.mono HB6.out.size))
            clear hb7
            go_wp2
            go_roundw
            case rel =>
              have h1 := HSx.out
              have h2 := Hn1.out
              have h3 := Han.out
              have h4 := Hae.out
              refine ⟨_, l ++ [⟨K, tx, (a : Int), (E : Int)⟩], k - 1, rfl, by rw [bs_size]; omega, by rw [bs_list, bs_size]; exact h1.2, by rw [bs_size]; omega, by rw [bs_list]; exact skB_bare _ _, ?_, ?_, HO7.out, HB7.out⟩
              · rw [bs_list, ← HDr.out, List.length_append, ← Hn0.out]
                exact Hres2.out.trans HP3.out
              · rw [List.length_append, ← Hn0.out]
                simp only [List.length_cons, List.length_nil]
                omega
            case measure =>
              have h1 := HSx.out
              have h2 := Hn1.out
              have h3 := Han.out
              have h4 := Hae.out
              simp only [lenOf]
              rw [bs_size]
              omega
        · have hPe : P = .error (a, q) := by rw [Hres2.out, S1.out hq0]; rfl
          have HPe := hide hPe
          have e0 : (q == 0) = false := beq_eq_false_iff_ne.2 hq0
          have e0' : (q != 0) = true := by unfold bne; rw [e0]; rfl
          have HB6 := hide (HB2.out.trans (HB5'.out.mono HB2.out.size))
          clear hPe hq0
          go_wp2
          go_quiet (fail)
          go_wp2
          go_ret3
          exact ⟨none, 0, 0, by rw [HPe.out]; rfl, by rw [HPe.out]; exact TkS.nil _, bdr HB6.out _⟩
end Go.Proofs.YteokeljmggdecaaDoor
