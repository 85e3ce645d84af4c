/- Layer 10: walks of the reference: repeated, literals, Literals. -/
import Derived.Test.YtlnbjdlooghpeaaQe
namespace Go.Proofs.Ytlnbjdlooghpeaa
open Go.RowKit

theorem gotO_none {W w' : World} {e : Ending} (h : GotO W none e w') : ∃ A n c, e = .returned (.tuple #[.slice A n c, .bool false]) ∧ Below W.heap.size W w' := by
  obtain ⟨A, n, c, rfl, -, -, hb⟩ := h
  exact ⟨A, n, c, rfl, hb⟩
theorem gotO_some {W w' : World} {p : List (List UInt8)} {e : Ending} (h : GotO W (some p) e w') : ∃ A n c, e = .returned (.tuple #[.slice A n c, .bool true]) ∧ n = p.length ∧ Sl w' A n c (strCells p) ∧ Below W.heap.size W w' := by
  obtain ⟨A, n, c, rfl, hp, -, hb⟩ := h
  exact ⟨A, n, c, rfl, (hp p rfl).1, (hp p rfl).2, hb⟩
theorem bel_alloc (w : World) (o : Obj) : Below w.heap.size w (w.alloc o) := bnew (Below.refl _ _) o
theorem bs_nil : (⟨#[]⟩ : ByteArray) = bsx [] := rfl

set_option maxRecDepth 100000 in
set_option maxHeartbeats 6400000 in
theorem rrepeated (fold : Bool) {W : World} {ok : Nat → Prop} {v : Value} {k a b : Int} {set : List (UInt8 × UInt8)} {x : Rx} (hv : RxV W ok v (.mk k set a b [x])) (hb : 0 ≤ b ∧ b ≤ 8)
    (HL : ∀ (W : World) (v : Value), RxV W ok v x → Calls Try.prog 30 #[v, .bool fold] W (GotO W (litR fold x))) :
    Calls Try.prog 57 #[v, .bool fold] W (GotO W ((litR fold x).bind fun y => repA y a (b.toNat + 1))) := by
  cases hv with
  | mk _ _ _ A B n c m d _ vs _ hset hvs hlen hk ha' hb' hr =>
  have hm1 : m = 1 := by simpa using hlen.symm
  subst hm1
  have hdd := hvs.2.1
  have hmd := hvs.1
  have hB := bnew (Below.refl _ W) (.cells #[.int .i64 k, .slice A n c, .int .i64 a, .int .i64 b, .slice B 1 d] 25)
  have BB := hide hB
  have F := hide (five_new W (.int .i64 k) (.slice A n c) (.int .i64 a) (.int .i64 b) (.slice B 1 d) 25)
  obtain ⟨g, o, c0, c1, c2, c3, c4, rfl, hx, x0, x1, x2, x3, x4⟩ := (hvs.below hB).at_ (show 0 < 1 by omega)
  have rx := hr 0 _ x hx rfl
  have HC := hide (HL _ _ (rx.kept hB))
  obtain ⟨_, t0, t1, t2, t3, t4⟩ := F.out
  simp only [Nat.zero_mul, Nat.add_zero] at x0 x1 x2 x3 x4
  clear hset hvs hlen hr hB rx HL hx
  cases hl : litR fold x with
  | none =>
    have HO := hide (show ((none : Option (List (List UInt8))).bind fun y => repA y a (b.toNat + 1)) = none from rfl)
    rw [hl] at HC
    go_enter Try.func57, Try.ntmps57
    go_wp2_with fail
    with_reducible refine HC.out.mono ?_
    intro e w3 hg
    obtain ⟨A3, n3, c3', rfl, hb3⟩ := gotO_none hg
    have B3 := hide (bgo BB.out hb3)
    clear hg hb3 t0 t1 t2 t3 t4 x0 x1 x2 x3 x4
    go_wp2
    go_ret2
    exact ⟨none, 0, 0, by rw [HO.out]; rfl, fun p hp => by rw [HO.out] at hp; (cases hp), fun _ => ⟨by omega, by omega⟩, B3.out⟩
  | some y =>
    have hy := litR_good x y hl
    have hy8 := hy.2.1
    have Hy := hide hy
    rw [hl] at HC
    show Calls _ _ _ _ (GotO W (repA y a (b.toNat + 1)))
    clear hl hy
    go_enter Try.func57, Try.ntmps57
    go_wp2_with fail
    with_reducible refine HC.out.mono ?_
    intro e w3 hg
    obtain ⟨A3, n3, c3', rfl, hn3, hs3, hb3⟩ := gotO_some hg
    have B3 := hide (bgo BB.out hb3)
    have F3 := hide (F.out.keep hb3)
    have S3 := hide hs3
    have Hn3 := hide hn3
    have hn38 : n3 ≤ 8 := by omega
    have hnc3 := hs3.1
    have hcc3 := hs3.2.1
    clear hg hb3 hs3 hn3 t0 t1 t2 t3 t4 x0 x1 x2 x3 x4 HC F BB
    go_wp2
    have hsl0 : Sl (w3.alloc (.cells #[.string ⟨#[]⟩] 9)) (some ⟨w3.heap.size, 0, none⟩) 1 1 (strCells [[]]) := lit_sl w3 #[.string ⟨#[]⟩] 9 (strCells [[]]) 1 rfl rfl (by omega)
    have hb0 := bel_alloc w3 (.cells #[.string ⟨#[]⟩] 9)
    obtain ⟨xl, hxl⟩ : ∃ xl, w3.alloc (.cells #[.string ⟨#[]⟩] 9) = xl := ⟨_, rfl⟩
    rw [hxl] at hsl0 hb0 ⊢
    have F4 := hide (F3.out.keep hb0)
    have B4 := hide (bgo B3.out hb0)
    have S4 := hide (S3.out.below hb0)
    have L4 := hide hsl0
    clear hxl hsl0 hb0 F3 B3 S3
    go_loopw [7, 8, 9, 10] (fun q7 va vl xk wr => ∃ i : Nat, i ≤ b.toNat + 1 ∧ xk = .int .i64 (i : Int) ∧ q7 = .bool true ∧ (∃ A n c AL, va = .slice A n c ∧ repA y a i = some AL ∧ Sl wr A n c (strCells AL)) ∧ (∃ A n c p, vl = .slice A n c ∧ powS y (i - 1) = some p ∧ Sl wr A n c (strCells p)) ∧ Below xl.heap.size xl wr) (fun _ _ _ xk _ => b.toNat + 1 - (intOf xk).toNat)
    case atStart => exact ⟨0, Nat.zero_le _, rfl, rfl, ⟨none, 0, 0, [], rfl, by rw [repA], Sl.nil _⟩, ⟨_, 1, 1, [[]], rfl, by rw [powS], L4.out⟩, Below.refl _ _⟩
    case round =>
      obtain ⟨i, hi, rfl, rfl, ⟨A4, n4, c4, AL, rfl, hA, hsA⟩, ⟨A5, n5, c5, p, rfl, hp, hsp⟩, hbel⟩ := hrel
      obtain ⟨w6, hw6⟩ : ∃ w6, w6 = wr := ⟨wr, rfl⟩
      subst hw6
      have hb6 : Below xl.heap.size xl w6 := hbel
      have hgA := repA_some i hA
      have hgp := powS_some (i - 1) hp
      have hA8 := hgA.2.1
      have hp8 := hgp.2.1
      have hnA := hsA.nstr
      have hnp := hsp.nstr
      have hncA := hsA.1
      have hccA := hsA.2.1
      have hncp := hsp.1
      have hccp := hsp.2.1
      have HA := hide hA
      have HSA := hide hsA
      have HSP := hide hsp
      have B6 := hide (bgo B4.out hbel)
      have X6 := hide hbel
      have S6 := hide (S4.out.below hb6)
      obtain ⟨_, t0, t1, t2, t3, t4⟩ := F4.out.keep hb6
      have hib9 : (i : Int) ≤ 9 := by omega
      have hn4 : n4 ≤ 8 := by omega
      have hn5 : n5 ≤ 8 := by omega
      have Hgp := hide hgp
      clear hA hsA hsp hbel hb6 hgA hgp hnA hnp
      by_cases hib : (i : Int) ≤ b
      · have hib2 : i ≤ b.toNat := by omega
        by_cases hi0 : i = 0
        · have HP := hide (show powS y i = some p by rw [hi0] at hp ⊢; exact hp)
          have hi0' : ¬ (0 : Int) < (i : Int) := by omega
          clear hp hi0
          by_cases hia : a ≤ (i : Int)
          · have hia' : ¬ (i : Int) < a := by omega
            cases hob : bothS AL p with
            | none =>
              have HO := hide (show repA y a (b.toNat + 1) = none from repA_none (n := i + 1) (by omega) (by rw [repA, HA.out, HP.out]; show (if a ≤ (i : Int) then bothS AL p else some AL) = none; rw [if_pos hia, hob]))
              have HCb := hide (show Calls Try.prog 56 #[.slice A4 n4 c4, .slice A5 n5 c5] w6 (GotO w6 none) by rw [← hob]; exact rboth HSA.out HSP.out (by omega) (by omega))
              clear hob
              go_wp2_with fail
              with_reducible refine HCb.out.mono ?_
              intro e w7 hg7
              obtain ⟨A7, n7, c7, rfl, hb7⟩ := gotO_none hg7
              have B7 := hide (bgo B6.out hb7)
              clear hg7 hb7
              go_wp2
              go_ret2
              exact ⟨none, 0, 0, by rw [HO.out]; rfl, fun p hp => by rw [HO.out] at hp; (cases hp), fun _ => ⟨by omega, by omega⟩, B7.out⟩
            | some AL2 =>
              have HN := hide (show repA y a (i + 1) = some AL2 by rw [repA, HA.out, HP.out]; show (if a ≤ (i : Int) then bothS AL p else some AL) = some AL2; rw [if_pos hia, hob])
              have HCb := hide (show Calls Try.prog 56 #[.slice A4 n4 c4, .slice A5 n5 c5] w6 (GotO w6 (some AL2)) by rw [← hob]; exact rboth HSA.out HSP.out (by omega) (by omega))
              have HSl := hide HSP.out
              clear hob
              go_wp2_with fail
              with_reducible refine HCb.out.mono ?_
              intro e w7 hg7
              obtain ⟨A7, n7, c7, rfl, hn7, hs7, hb7⟩ := gotO_some hg7
              have B7 := hide (bgo X6.out hb7)
              have S7 := hide hs7
              have Hn7 := hide hn7
              have SL7 := hide (HSl.out.below hb7)
              clear hg7 hb7 hs7 hn7
              go_wp2
              go_roundw
              case rel => exact ⟨i + 1, by omega, by go_num, rfl, ⟨A7, n7, c7, AL2, rfl, HN.out, S7.out⟩, ⟨A5, n5, c5, p, rfl, by rw [Nat.add_sub_cancel]; exact HP.out, SL7.out⟩, B7.out⟩
              case measure => simp [intOf]; omega
          · have hia' : (i : Int) < a := by omega
            have HN := hide (show repA y a (i + 1) = some AL by rw [repA, HA.out, HP.out]; show (if a ≤ (i : Int) then bothS AL p else some AL) = some AL; rw [if_neg hia])
            have HSl := hide HSP.out
            have HSa := hide HSA.out
            have B7 := hide X6.out
            go_wp2
            go_roundw
            case rel => exact ⟨i + 1, by omega, by go_num, rfl, ⟨A4, n4, c4, AL, rfl, HN.out, HSa.out⟩, ⟨A5, n5, c5, p, rfl, by rw [Nat.add_sub_cancel]; exact HP.out, HSl.out⟩, B7.out⟩
            case measure => simp [intOf]; omega
        · have hi0' : (0 : Int) < (i : Int) := by omega
          cases hop : prodS p y with
          | none =>
            have HO := hide (show repA y a (b.toNat + 1) = none from repA_pow_none (n := i) (by omega) (by
              rw [show i = (i - 1) + 1 by omega, powS, hp]; exact hop))
            have HCp := hide (show Calls Try.prog 55 #[.slice A5 n5 c5, .slice A3 n3 c3'] w6 (GotO w6 none) by rw [← hop]; exact rproduct HSP.out S6.out (by omega) (by omega) (fun z hz => Nat.le_trans (Hgp.out.2.2 z hz) (by omega)) (fun z hz => Nat.le_trans (Hy.out.2.2 z hz) (by omega)))
            clear hop hp hi0
            go_wp2_with fail
            with_reducible refine HCp.out.mono ?_
            intro e w7 hg7
            obtain ⟨A7, n7, c7, rfl, hb7⟩ := gotO_none hg7
            have B7 := hide (bgo B6.out hb7)
            clear hg7 hb7
            go_wp2
            go_ret2
            exact ⟨none, 0, 0, by rw [HO.out]; rfl, fun p hp => by rw [HO.out] at hp; (cases hp), fun _ => ⟨by omega, by omega⟩, B7.out⟩
          | some p' =>
            have HP' := hide (show powS y i = some p' by rw [show i = (i - 1) + 1 by omega, powS, hp]; exact hop)
            have HCp := hide (show Calls Try.prog 55 #[.slice A5 n5 c5, .slice A3 n3 c3'] w6 (GotO w6 (some p')) by rw [← hop]; exact rproduct HSP.out S6.out (by omega) (by omega) (fun z hz => Nat.le_trans (Hgp.out.2.2 z hz) (by omega)) (fun z hz => Nat.le_trans (Hy.out.2.2 z hz) (by omega)))
            have hp8' := (prodS_some hop).1.2.1
            clear hop hp hi0 hp8
            go_wp2_with fail
            with_reducible refine HCp.out.mono ?_
            intro e w8 hg7
            obtain ⟨A9, n9, c9, rfl, hn9, hs9, hb7⟩ := gotO_some hg7
            have B8 := hide (bgo B6.out hb7)
            have X8 := hide (bgo X6.out hb7)
            have HS9 := hide hs9
            have HSA8 := hide (HSA.out.below hb7)
            have hnc9 := hs9.1
            have hcc9 := hs9.2.1
            obtain ⟨_, t0, t1, t2, t3, t4⟩ := F4.out.keep (bgo X6.out hb7)
            clear hg7 hb7 hs9 hn9 HSP
            by_cases hia : a ≤ (i : Int)
            · have hia' : ¬ (i : Int) < a := by omega
              cases hob : bothS AL p' with
              | none =>
                have HO := hide (show repA y a (b.toNat + 1) = none from repA_none (n := i + 1) (by omega) (by rw [repA, HA.out, HP'.out]; show (if a ≤ (i : Int) then bothS AL p' else some AL) = none; rw [if_pos hia, hob]))
                have HCb := hide (show Calls Try.prog 56 #[.slice A4 n4 c4, .slice A9 n9 c9] w8 (GotO w8 none) by rw [← hob]; exact rboth HSA8.out HS9.out (by omega) (by omega))
                clear hob
                go_wp2_with fail
                with_reducible refine HCb.out.mono ?_
                intro e w7 hg7
                obtain ⟨A7, n7, c7, rfl, hb7⟩ := gotO_none hg7
                have B7 := hide (bgo B8.out hb7)
                clear hg7 hb7
                go_wp2
                go_ret2
                exact ⟨none, 0, 0, by rw [HO.out]; rfl, fun p hp => by rw [HO.out] at hp; (cases hp), fun _ => ⟨by omega, by omega⟩, B7.out⟩
              | some AL2 =>
                have HN := hide (show repA y a (i + 1) = some AL2 by rw [repA, HA.out, HP'.out]; show (if a ≤ (i : Int) then bothS AL p' else some AL) = some AL2; rw [if_pos hia, hob])
                have HCb := hide (show Calls Try.prog 56 #[.slice A4 n4 c4, .slice A9 n9 c9] w8 (GotO w8 (some AL2)) by rw [← hob]; exact rboth HSA8.out HS9.out (by omega) (by omega))
                have HSl := hide HS9.out
                clear hob
                go_wp2_with fail
                with_reducible refine HCb.out.mono ?_
                intro e w7 hg7
                obtain ⟨A7, n7, c7, rfl, hn7, hs7, hb7⟩ := gotO_some hg7
                have B7 := hide (bgo X8.out hb7)
                have S7 := hide hs7
                have Hn7 := hide hn7
                have SL7 := hide (HSl.out.below hb7)
                clear hg7 hb7 hs7 hn7
                go_wp2
                go_roundw
                case rel => exact ⟨i + 1, by omega, by go_num, rfl, ⟨A7, n7, c7, AL2, rfl, HN.out, S7.out⟩, ⟨A9, n9, c9, p', rfl, by rw [Nat.add_sub_cancel]; exact HP'.out, SL7.out⟩, B7.out⟩
                case measure => simp [intOf]; omega
            · have hia' : (i : Int) < a := by omega
              have HN := hide (show repA y a (i + 1) = some AL by rw [repA, HA.out, HP'.out]; show (if a ≤ (i : Int) then bothS AL p' else some AL) = some AL; rw [if_neg hia])
              have HSl := hide HS9.out
              have HSa := hide HSA8.out
              have B7 := hide X8.out
              go_wp2
              go_roundw
              case rel => exact ⟨i + 1, by omega, by go_num, rfl, ⟨A4, n4, c4, AL, rfl, HN.out, HSa.out⟩, ⟨A9, n9, c9, p', rfl, by rw [Nat.add_sub_cancel]; exact HP'.out, HSl.out⟩, B7.out⟩
              case measure => simp [intOf]; omega
      · have hib' : ¬ (i : Int) ≤ b := hib
        obtain rfl : i = b.toNat + 1 := by omega
        have HO := hide HA.out
        clear hp
        go_wp2
        go_ret2
        exact ⟨A4, n4, c4, by rw [HO.out]; rfl, fun q hq => by rw [HO.out] at hq; cases hq; exact ⟨HSA.out.nstr.symm, HSA.out⟩, fun hq => by rw [HO.out] at hq; (cases hq), B6.out⟩

theorem lit_mk (fold : Bool) (k : Int) (set : List (UInt8 × UInt8)) (a b : Int) (l : List Rx) : litR fold (.mk k set a b l) = if k = 1 then bytesS set fold else if k = 2 then litCat fold [[]] l else if k = 3 then litAlt fold [] l else if k = 4 ∧ 0 ≤ b then (litOne fold l).bind fun x => repA x a (b.toNat + 1) else none := by rw [litR]
theorem GotO.tup {W w' : World} {o : Option (List (List UInt8))} {e : Ending} (h : GotO W o e w') : ∃ A n c q, e = .returned (.tuple #[.slice A n c, .bool q]) ∧ GotO W o (.returned (.tuple #[.slice A n c, .bool q])) w' ∧ Below W.heap.size W w' := by
  obtain ⟨A, n, c, rfl, h1, h2, hb⟩ := h
  exact ⟨A, n, c, _, rfl, ⟨A, n, c, rfl, h1, h2, hb⟩, hb⟩
theorem GotO.up {W W1 w' : World} {o : Option (List (List UInt8))} {e : Ending} (h : GotO W1 o e w') (hb : Below W.heap.size W W1) : GotO W o e w' := by
  obtain ⟨A, n, c, rfl, h1, h2, hb'⟩ := h
  exact ⟨A, n, c, rfl, h1, h2, bgo hb hb'⟩

set_option maxRecDepth 100000 in
set_option maxHeartbeats 12800000 in
theorem rliterals (fold : Bool) : ∀ (r : Rx), nodeR r = 0 → ∀ (W : World) (ok : Nat → Prop) (v : Value), RxV W ok v r → Calls Try.prog 30 #[v, .bool fold] W (GotO W (litR fold r)) := by
  intro r
  induction r using Rx.ind with
  | h k s a b l ih =>
    intro hnode W ok v hv
    obtain ⟨hfl, hbd, hsub⟩ := node_ok hnode
    obtain ⟨hk17, -, -, -, h4l, -, -⟩ := fields_of hfl
    have hv0 := hv
    cases hv with
    | mk _ _ _ A B n c m d _ vs _ hset hvs hlen hk ha hb hr =>
    have hnc := hset.1
    have hcc := hset.2.1
    have hmd := hvs.1
    have hdd := hvs.2.1
    have Hvs := hide hvs
    have Hlen := hide hlen
    have Hr := hide hr
    have hB := bnew (Below.refl _ W) (.cells #[.int .i64 k, .slice A n c, .int .i64 a, .int .i64 b, .slice B m d] 25)
    have BB := hide hB
    have Hset := hide (hset.below hB)
    have HV := hide (hv0.kept hB)
    have F := hide (five_new W (.int .i64 k) (.slice A n c) (.int .i64 a) (.int .i64 b) (.slice B m d) 25)
    have Hih := hide (fun x hx W ok v (h : RxV W ok v x) => ih x hx (hsub x hx) W ok v h)
    have Hbd := hide hbd
    have H4l := hide h4l
    obtain ⟨_, t0, t1, t2, t3, t4⟩ := F.out
    rw [lit_mk]
    clear hset hvs hlen hr hB hv0 ih hsub hfl hnode hbd h4l
    by_cases h1 : k = 1
    · have h1' := int_beq h1
      rw [if_pos h1]
      have HC := hide (rbytes Hset.out fold)
      clear h1
      go_enter Try.func30, Try.ntmps30
      go_wp2_with fail
      with_reducible refine HC.out.mono ?_
      intro e w3 hg
      obtain ⟨A3, n3, c3, q3, rfl, hg3, hb3⟩ := hg.tup
      have G3 := hide (hg3.up BB.out)
      clear hg hg3 hb3
      go_wp2
      go_ret2
      exact G3.out
    have h1' := int_nbeq h1
    rw [if_neg h1]
    by_cases h2 : k = 2
    · have h2' := int_beq h2
      rw [if_pos h2]
      clear h1 h2
      go_enter Try.func30, Try.ntmps30
      go_wp2
      have hsl0 : Sl ((W.alloc (.cells #[.int .i64 k, .slice A n c, .int .i64 a, .int .i64 b, .slice B m d] 25)).alloc (.cells #[.string ⟨#[]⟩] 9)) (some ⟨(W.alloc (.cells #[.int .i64 k, .slice A n c, .int .i64 a, .int .i64 b, .slice B m d] 25)).heap.size, 0, none⟩) 1 1 (strCells [[]]) := lit_sl _ #[.string ⟨#[]⟩] 9 (strCells [[]]) 1 rfl rfl (by omega)
      have hb0 := bel_alloc (W.alloc (.cells #[.int .i64 k, .slice A n c, .int .i64 a, .int .i64 b, .slice B m d] 25)) (.cells #[.string ⟨#[]⟩] 9)
      have hgs : (W.alloc (.cells #[.int .i64 k, .slice A n c, .int .i64 a, .int .i64 b, .slice B m d] 25)).heap.size = W.heap.size + 1 := by simp
      rw [hgs] at hsl0
      obtain ⟨xl, hxl⟩ : ∃ xl, (W.alloc (.cells #[.int .i64 k, .slice A n c, .int .i64 a, .int .i64 b, .slice B m d] 25)).alloc (.cells #[.string ⟨#[]⟩] 9) = xl := ⟨_, rfl⟩
      rw [hxl] at hsl0 hb0 ⊢
      have F4 := hide (F.out.keep hb0)
      have B4 := hide (bgo BB.out hb0)
      have L4 := hide hsl0
      clear hxl hsl0 hb0 hgs t0 t1 t2 t3 t4
      go_loopw [6, 7, 8, 9] (fun vl xi _ _ wr => ∃ i : Nat, i ≤ m ∧ xi = .int .i64 (i : Int) ∧ (∃ A n c p, vl = .slice A n c ∧ catAt fold l i = some p ∧ Sl wr A n c (strCells p)) ∧ Below xl.heap.size xl wr) (fun _ xi _ _ _ => m - (intOf xi).toNat)
      case atStart => exact ⟨0, Nat.zero_le _, rfl, ⟨_, 1, 1, [[]], rfl, by rw [catAt_zero], L4.out⟩, Below.refl _ _⟩
      case round =>
        obtain ⟨i, hi, rfl, ⟨A4, n4, c4, p, rfl, hp, hsp⟩, hbel⟩ := hrel
        obtain ⟨w6, hw6⟩ : ∃ w6, w6 = wr := ⟨wr, rfl⟩
        subst hw6
        have Hgp := hide (catAt_good hp)
        have hp8 := Hgp.out.2.1
        have hnp := hsp.nstr
        have hncp := hsp.1
        have hccp := hsp.2.1
        have HSP := hide hsp
        have X6 := hide hbel
        have B6 := hide (bgo B4.out hbel)
        have hib : (i : Int) ≤ 9223372036854775807 := by omega
        have hn4 : n4 ≤ 8 := by omega
        obtain ⟨_, t0, t1, t2, t3, t4⟩ := F4.out.keep hbel
        have Hp := hide hp
        clear hp hsp hbel hnp
        by_cases hlt : i < m
        · have hlt' : (i : Int) < (m : Int) := by omega
          obtain ⟨gb, o, c0, c1, c2, c3, c4', rfl, hx, x0, x1, x2, x3, x4⟩ := (Hvs.out.below B6.out).at_ hlt
          have hil : i < l.length := by rw [Hlen.out]; exact hlt
          have hxl := List.getElem?_eq_getElem hil
          have rx := Hr.out i _ _ hx hxl
          obtain ⟨x, hxe⟩ : ∃ x, l[i] = x := ⟨_, rfl⟩
          rw [hxe] at hxl rx
          have hmem : x ∈ l := List.mem_of_getElem? hxl
          have HC := hide (Hih.out x hmem w6 ok _ (rx.kept B6.out))
          have Hnx := hide (catAt_next (fold := fold) hxl)
          clear hx rx hxe hmem hxl
          cases hl : litR fold x with
          | none =>
            have HO := hide (show litCat fold [[]] l = none from catAt_none (i := i + 1) (by rw [Hnx.out, Hp.out, hl]; rfl))
            rw [hl] at HC
            clear hl
            go_wp2_with fail
            with_reducible refine HC.out.mono ?_
            intro e w7 hg7
            obtain ⟨A7, n7, c7, rfl, hb7⟩ := gotO_none hg7
            have B7 := hide (bgo B6.out hb7)
            clear hg7 hb7
            go_wp2
            go_ret2
            exact ⟨none, 0, 0, by rw [HO.out]; rfl, fun p hp => by rw [HO.out] at hp; (cases hp), fun _ => ⟨by omega, by omega⟩, B7.out⟩
          | some y =>
            have Hy := hide (litR_good x y hl)
            have hy8 := Hy.out.2.1
            rw [hl] at HC
            cases hop : prodS p y with
            | none =>
              have HO := hide (show litCat fold [[]] l = none from catAt_none (i := i + 1) (by rw [Hnx.out, Hp.out, hl]; exact hop))
              clear hl
              go_wp2_with fail
              with_reducible refine HC.out.mono ?_
              intro e w7 hg7
              obtain ⟨A7, n7, c7, rfl, hn7, hs7, hb7⟩ := gotO_some hg7
              have B7 := hide (bgo B6.out hb7)
              have hnc7 := hs7.1
              have hcc7 := hs7.2.1
              have hn78 : n7 ≤ 8 := by omega
              have HCp := hide (show Calls Try.prog 55 #[.slice A4 n4 c4, .slice A7 n7 c7] w7 (GotO w7 none) by rw [← hop]; exact rproduct (HSP.out.below hb7) hs7 (by omega) (by omega) (fun z hz => Nat.le_trans (Hgp.out.2.2 z hz) (by omega)) (fun z hz => Nat.le_trans (Hy.out.2.2 z hz) (by omega)))
              clear hg7 hb7 hs7 hn7 hop
              go_wp2_with fail
              with_reducible refine HCp.out.mono ?_
              intro e w8 hg8
              obtain ⟨A8, n8, c8, rfl, hb8⟩ := gotO_none hg8
              have B8 := hide (bgo B7.out hb8)
              clear hg8 hb8
              go_wp2
              go_ret2
              exact ⟨none, 0, 0, by rw [HO.out]; rfl, fun p hp => by rw [HO.out] at hp; (cases hp), fun _ => ⟨by omega, by omega⟩, B8.out⟩
            | some q =>
              have HN := hide (show catAt fold l (i + 1) = some q by rw [Hnx.out, Hp.out, hl]; exact hop)
              clear hl
              go_wp2_with fail
              with_reducible refine HC.out.mono ?_
              intro e w7 hg7
              obtain ⟨A7, n7, c7, rfl, hn7, hs7, hb7⟩ := gotO_some hg7
              have X7 := hide (bgo X6.out hb7)
              have hnc7 := hs7.1
              have hcc7 := hs7.2.1
              have hn78 : n7 ≤ 8 := by omega
              have HCp := hide (show Calls Try.prog 55 #[.slice A4 n4 c4, .slice A7 n7 c7] w7 (GotO w7 (some q)) by rw [← hop]; exact rproduct (HSP.out.below hb7) hs7 (by omega) (by omega) (fun z hz => Nat.le_trans (Hgp.out.2.2 z hz) (by omega)) (fun z hz => Nat.le_trans (Hy.out.2.2 z hz) (by omega)))
              clear hg7 hb7 hs7 hn7 hop
              go_wp2_with fail
              with_reducible refine HCp.out.mono ?_
              intro e w8 hg8
              obtain ⟨A8, n8, c8, rfl, hn8, hs8, hb8⟩ := gotO_some hg8
              have X8 := hide (bgo X7.out hb8)
              have S8 := hide hs8
              clear hg8 hb8 hs8 hn8
              go_wp2
              go_roundw
              case rel => exact ⟨i + 1, by omega, by go_num, ⟨A8, n8, c8, q, rfl, HN.out, S8.out⟩, X8.out⟩
              case measure => simp [intOf]; omega
        · have hlt' : ¬ (i : Int) < (m : Int) := by omega
          have hall := Hp.out
          rw [show i = l.length by rw [Hlen.out]; omega, catAt_all] at hall
          have HO := hide hall
          clear hall
          go_wp2
          go_ret2
          exact ⟨A4, n4, c4, by rw [HO.out]; rfl, fun q hq => by rw [HO.out] at hq; cases hq; exact ⟨HSP.out.nstr.symm, HSP.out⟩, fun hq => by rw [HO.out] at hq; (cases hq), B6.out⟩
    have h2' := int_nbeq h2
    rw [if_neg h2]
    by_cases h3 : k = 3
    · have h3' := int_beq h3
      rw [if_pos h3]
      clear h1 h2 h3
      go_enter Try.func30, Try.ntmps30
      go_wp2
      obtain ⟨xl, hxl⟩ : ∃ xl, W.alloc (.cells #[.int .i64 k, .slice A n c, .int .i64 a, .int .i64 b, .slice B m d] 25) = xl := ⟨_, rfl⟩
      have F4 := hide F.out
      have B4 := hide BB.out
      rw [hxl] at F4 B4 ⊢
      clear hxl t0 t1 t2 t3 t4
      go_loopw [10, 11, 12, 13] (fun vl xi _ _ wr => ∃ i : Nat, i ≤ m ∧ xi = .int .i64 (i : Int) ∧ (∃ A n c p, vl = .slice A n c ∧ altAt fold l i = some p ∧ Sl wr A n c (strCells p)) ∧ Below xl.heap.size xl wr) (fun _ xi _ _ _ => m - (intOf xi).toNat)
      case atStart => exact ⟨0, Nat.zero_le _, rfl, ⟨none, 0, 0, [], rfl, by rw [altAt_zero], Sl.nil _⟩, Below.refl _ _⟩
      case round =>
        obtain ⟨i, hi, rfl, ⟨A4, n4, c4, p, rfl, hp, hsp⟩, hbel⟩ := hrel
        obtain ⟨w6, hw6⟩ : ∃ w6, w6 = wr := ⟨wr, rfl⟩
        subst hw6
        have Hgp := hide (altAt_good hp)
        have hp8 := Hgp.out.2.1
        have hnp := hsp.nstr
        have hncp := hsp.1
        have hccp := hsp.2.1
        have HSP := hide hsp
        have X6 := hide hbel
        have B6 := hide (bgo B4.out hbel)
        have hib : (i : Int) ≤ 9223372036854775807 := by omega
        have hn4 : n4 ≤ 8 := by omega
        obtain ⟨_, t0, t1, t2, t3, t4⟩ := F4.out.keep hbel
        have Hp := hide hp
        clear hp hsp hbel hnp
        by_cases hlt : i < m
        · have hlt' : (i : Int) < (m : Int) := by omega
          obtain ⟨gb, o, c0, c1, c2, c3, c4', rfl, hx, x0, x1, x2, x3, x4⟩ := (Hvs.out.below B6.out).at_ hlt
          have hil : i < l.length := by rw [Hlen.out]; exact hlt
          have hxl := List.getElem?_eq_getElem hil
          have rx := Hr.out i _ _ hx hxl
          obtain ⟨x, hxe⟩ : ∃ x, l[i] = x := ⟨_, rfl⟩
          rw [hxe] at hxl rx
          have hmem : x ∈ l := List.mem_of_getElem? hxl
          have HC := hide (Hih.out x hmem w6 ok _ (rx.kept B6.out))
          have Hnx := hide (altAt_next (fold := fold) hxl)
          clear hx rx hxe hmem hxl
          cases hl : litR fold x with
          | none =>
            have HO := hide (show litAlt fold [] l = none from altAt_none (i := i + 1) (by rw [Hnx.out, Hp.out, hl]; rfl))
            rw [hl] at HC
            clear hl
            go_wp2_with fail
            with_reducible refine HC.out.mono ?_
            intro e w7 hg7
            obtain ⟨A7, n7, c7, rfl, hb7⟩ := gotO_none hg7
            have B7 := hide (bgo B6.out hb7)
            clear hg7 hb7
            go_wp2
            go_ret2
            exact ⟨none, 0, 0, by rw [HO.out]; rfl, fun p hp => by rw [HO.out] at hp; (cases hp), fun _ => ⟨by omega, by omega⟩, B7.out⟩
          | some y =>
            have Hy := hide (litR_good x y hl)
            have hy8 := Hy.out.2.1
            rw [hl] at HC
            cases hop : bothS p y with
            | none =>
              have HO := hide (show litAlt fold [] l = none from altAt_none (i := i + 1) (by rw [Hnx.out, Hp.out, hl]; exact hop))
              clear hl
              go_wp2_with fail
              with_reducible refine HC.out.mono ?_
              intro e w7 hg7
              obtain ⟨A7, n7, c7, rfl, hn7, hs7, hb7⟩ := gotO_some hg7
              have B7 := hide (bgo B6.out hb7)
              have hnc7 := hs7.1
              have hcc7 := hs7.2.1
              have hn78 : n7 ≤ 8 := by omega
              have HCp := hide (show Calls Try.prog 56 #[.slice A4 n4 c4, .slice A7 n7 c7] w7 (GotO w7 none) by rw [← hop]; exact rboth (HSP.out.below hb7) hs7 (by omega) (by omega))
              clear hg7 hb7 hs7 hn7 hop
              go_wp2_with fail
              with_reducible refine HCp.out.mono ?_
              intro e w8 hg8
              obtain ⟨A8, n8, c8, rfl, hb8⟩ := gotO_none hg8
              have B8 := hide (bgo B7.out hb8)
              clear hg8 hb8
              go_wp2
              go_ret2
              exact ⟨none, 0, 0, by rw [HO.out]; rfl, fun p hp => by rw [HO.out] at hp; (cases hp), fun _ => ⟨by omega, by omega⟩, B8.out⟩
            | some q =>
              have HN := hide (show altAt fold l (i + 1) = some q by rw [Hnx.out, Hp.out, hl]; exact hop)
              clear hl
              go_wp2_with fail
              with_reducible refine HC.out.mono ?_
              intro e w7 hg7
              obtain ⟨A7, n7, c7, rfl, hn7, hs7, hb7⟩ := gotO_some hg7
              have X7 := hide (bgo X6.out hb7)
              have hnc7 := hs7.1
              have hcc7 := hs7.2.1
              have hn78 : n7 ≤ 8 := by omega
              have HCp := hide (show Calls Try.prog 56 #[.slice A4 n4 c4, .slice A7 n7 c7] w7 (GotO w7 (some q)) by rw [← hop]; exact rboth (HSP.out.below hb7) hs7 (by omega) (by omega))
              clear hg7 hb7 hs7 hn7 hop
              go_wp2_with fail
              with_reducible refine HCp.out.mono ?_
              intro e w8 hg8
              obtain ⟨A8, n8, c8, rfl, hn8, hs8, hb8⟩ := gotO_some hg8
              have X8 := hide (bgo X7.out hb8)
              have S8 := hide hs8
              clear hg8 hb8 hs8 hn8
              go_wp2
              go_roundw
              case rel => exact ⟨i + 1, by omega, by go_num, ⟨A8, n8, c8, q, rfl, HN.out, S8.out⟩, X8.out⟩
              case measure => simp [intOf]; omega
        · have hlt' : ¬ (i : Int) < (m : Int) := by omega
          have hall := Hp.out
          rw [show i = l.length by rw [Hlen.out]; omega, altAt_all] at hall
          have HO := hide hall
          clear hall
          go_wp2
          go_ret2
          exact ⟨A4, n4, c4, by rw [HO.out]; rfl, fun q hq => by rw [HO.out] at hq; cases hq; exact ⟨HSP.out.nstr.symm, HSP.out⟩, fun hq => by rw [HO.out] at hq; (cases hq), B6.out⟩
    have h3' := int_nbeq h3
    rw [if_neg h3]
    by_cases h4 : k = 4
    · have h4' := int_beq h4
      by_cases hb0 : 0 ≤ b
      · rw [if_pos ⟨h4, hb0⟩]
        have hl1 := H4l.out h4
        obtain ⟨x, rfl⟩ : ∃ x, l = [x] := List.length_eq_one_iff.1 hl1
        have hbb := of_decide_eq_true (show decide (0 ≤ a ∧ a ≤ 8 ∧ (b = -1 ∨ (1 ≤ b ∧ b ≤ 8 ∧ a ≤ b))) = true from Hbd.out h4)
        have HC := hide (rrepeated fold HV.out (by omega) (fun W v h => Hih.out x (by simp) W ok v h))
        rw [show litOne fold [x] = litR fold x from by rw [litOne]]
        clear h1 h2 h3 h4 hl1 hbb
        go_enter Try.func30, Try.ntmps30
        go_wp2_with fail
        with_reducible refine HC.out.mono ?_
        intro e w3 hg
        obtain ⟨A3, n3, c3, q3, rfl, hg3, hb3⟩ := hg.tup
        have G3 := hide (hg3.up BB.out)
        clear hg hg3 hb3
        go_wp2
        go_ret2
        exact G3.out
      · rw [if_neg fun h => hb0 h.2]
        clear h1 h2 h3 h4
        go_enter Try.func30, Try.ntmps30
        go_wp2
        go_ret2
        exact ⟨none, 0, 0, rfl, fun p hp => (by cases hp), fun _ => ⟨by omega, by omega⟩, BB.out⟩
    · have h4' := int_nbeq h4
      rw [if_neg fun h => h4 h.1]
      clear h1 h2 h3 h4
      go_enter Try.func30, Try.ntmps30
      go_wp2
      go_ret2
      exact ⟨none, 0, 0, rfl, fun p hp => (by cases hp), fun _ => ⟨by omega, by omega⟩, BB.out⟩

theorem rxv_shape {W : World} {ok : Nat → Prop} {v : Value} {r : Rx} (h : RxV W ok v r) : ∃ (k a b : Int) (A B : Option Addr) (n c m d : Nat), v = .agg #[.int .i64 k, .slice A n c, .int .i64 a, .int .i64 b, .slice B m d] := by
  cases h
  exact ⟨_, _, _, _, _, _, _, _, _, rfl⟩
/-- What Literals returns. -/
def GotL (W : World) (o : Option (List (List UInt8))) (e : Ending) (w' : World) : Prop := ∃ A n c, e = .returned (.tuple #[.slice A n c, .bool o.isSome]) ∧ n = (o.getD []).length ∧ Sl w' A n c (strCells (o.getD [])) ∧ Below W.heap.size W w'

set_option maxRecDepth 100000 in
set_option maxHeartbeats 6400000 in
theorem rLiterals {W : World} {ok : Nat → Prop} {v : Value} {r : Rx} (hv : RxV W ok v r) (h1 : sizeR r ≤ 1000000) (h2 : depthR r ≤ 1000000) : Calls Try.prog 11 #[v] W (GotL W (literalsS r)) := by
  obtain ⟨k, a, b, A, B, n, c, m, d, rfl⟩ := rxv_shape hv
  have hB := bnew (Below.refl _ W) (.cells #[.int .i64 k, .slice A n c, .int .i64 a, .int .i64 b, .slice B m d] 25)
  have BB := hide hB
  have HV := hide (hv.kept hB)
  have F := hide (five_new W (.int .i64 k) (.slice A n c) (.int .i64 a) (.int .i64 b) (.slice B m d) 25)
  obtain ⟨q, hq⟩ : ∃ q, rightR r = q := ⟨_, rfl⟩
  have HR := hide (show Calls Try.prog 29 #[.agg #[.int .i64 k, .slice A n c, .int .i64 a, .int .i64 b, .slice B m d]] (W.alloc (.cells #[.int .i64 k, .slice A n c, .int .i64 a, .int .i64 b, .slice B m d] 25)) fun e w' => e = .returned (.int .i64 q) ∧ Below (W.alloc (.cells #[.int .i64 k, .slice A n c, .int .i64 a, .int .i64 b, .slice B m d] 25)).heap.size (W.alloc (.cells #[.int .i64 k, .slice A n c, .int .i64 a, .int .i64 b, .slice B m d] 25)) w' from hq ▸ rright24 HV.out h1 h2)
  obtain ⟨_, t0, t1, t2, t3, t4⟩ := F.out
  have Hq := hide hq
  clear hv hB
  by_cases h0 : q = 0
  case neg =>
    have h0' : (q != 0) = true := int_ne h0
    have HO := hide (show literalsS r = none by unfold literalsS; rw [if_neg (by rw [hq]; exact h0)])
    clear hq h0
    go_enter Try.func11, Try.ntmps11
    go_wp2_with fail
    with_reducible refine HR.out.mono ?_
    rintro e w3 ⟨rfl, hb3⟩
    have B3 := hide (bgo BB.out hb3)
    clear hb3 t0 t1 t2 t3 t4
    go_wp2
    go_ret2
    exact ⟨none, 0, 0, by rw [HO.out]; rfl, by rw [HO.out]; rfl, by rw [HO.out]; exact Sl.nil _, B3.out⟩
  have h0' : (q != 0) = false := int_eq h0
  have hr0 : rightR r = 0 := hq.trans h0
  have hn0 := (right_node hr0).1
  have HO := hide (show literalsS r = litR false r by unfold literalsS; rw [if_pos hr0])
  have HC := hide (fun (X : World) (hb : Below (W.alloc (.cells #[.int .i64 k, .slice A n c, .int .i64 a, .int .i64 b, .slice B m d] 25)).heap.size (W.alloc (.cells #[.int .i64 k, .slice A n c, .int .i64 a, .int .i64 b, .slice B m d] 25)) X) => rliterals false r hn0 X ok _ (HV.out.kept hb))
  clear hq h0 hr0 hn0
  go_enter Try.func11, Try.ntmps11
  go_wp2_with fail
  with_reducible refine HR.out.mono ?_
  rintro e w3 ⟨rfl, hb3⟩
  have B3 := hide (bgo BB.out hb3)
  obtain ⟨_, s0, s1, s2, s3, s4⟩ := F.out.keep hb3
  have HC3 := hide (HC.out w3 hb3)
  clear hb3 t0 t1 t2 t3 t4 HC
  cases hl : litR false r with
  | none =>
    rw [hl] at HO HC3
    go_wp2_with fail
    with_reducible refine HC3.out.mono ?_
    intro e w7 hg7
    obtain ⟨A7, n7, c7, rfl, hb7⟩ := gotO_none hg7
    have B7 := hide (bgo B3.out hb7)
    clear hg7 hb7 hl
    go_wp2
    go_ret2
    exact ⟨none, 0, 0, by rw [HO.out]; rfl, by rw [HO.out]; rfl, by rw [HO.out]; exact Sl.nil _, B7.out⟩
  | some p =>
    rw [hl] at HO HC3
    go_wp2_with fail
    with_reducible refine HC3.out.mono ?_
    intro e w7 hg7
    obtain ⟨A7, n7, c7, rfl, hn7, hs7, hb7⟩ := gotO_some hg7
    have B7 := hide (bgo B3.out hb7)
    have S7 := hide hs7
    have Hn7 := hide hn7
    clear hg7 hb7 hl hs7 hn7
    go_wp2
    go_ret2
    exact ⟨A7, n7, c7, by rw [HO.out]; rfl, by rw [HO.out]; exact Hn7.out, by rw [HO.out]; exact S7.out, B7.out⟩
end Go.Proofs.Ytlnbjdlooghpeaa
