/- The reference: the walk of elems; Right. -/
import Derived.Test.YtlabdaomgogflaaDoorX6
namespace Go.Proofs.YtlabdaomgogflaaDoor
open Go.RowKit

theorem c1_four (w : World) (a b c d : Value) (T : TypeId) (g : Nat) (hg : g = w.heap.size) : ∀ (j : Nat) (u : Value), [a, b, c, d][j]? = some u → (w.alloc (.cells #[a, b, c, d] T)).cell? ((⟨g, 0, none⟩ : Addr).add j) = some u := by
  subst hg
  intro j u h
  match j, h with
  | 0, h => simp at h; subst h; rw [addr0, World.cell?_alloc_mark]; rfl
  | 1, h => simp at h; subst h; rw [addr0, World.cell?_alloc_mark]; rfl
  | 2, h => simp at h; subst h; rw [addr0, World.cell?_alloc_mark]; rfl
  | 3, h => simp at h; subst h; rw [addr0, World.cell?_alloc_mark]; rfl
theorem c2_four (k c : Int) (n : Bool) (ao : Option Addr) (m cap : Nat) : ∀ u ∈ [Value.int .i64 k, Value.int .u8 c, Value.bool n, Value.slice ao m cap], u.oneCell' = true := by
  intro u hu
  simp at hu
  rcases hu with hu | hu | hu | hu <;> (subst hu; rfl)

theorem stars_count (s : ByteArray) (i n : Nat) (hin : i + n ≤ s.size) (h1 : 1 ≤ n) (hall : ∀ j (hj : j < s.size), i ≤ j → j < i + n → s[j] = 42) (hstop : i + n = s.size ∨ ∃ h : i + n < s.size, s[i + n] ≠ 42) : firstEl (s.data.toList.drop i) = if 2 < n then 0 else n := by
  have h42 : s[i]'(by omega) = 42 := hall i (by omega) (Nat.le_refl _) (by omega)
  rw [drop_at s i (by omega), h42, fe42]
  have htw : ∀ k m, m = i + k → m ≤ i + n → (∀ r, r = i + n - m → tw (s.data.toList.drop m) = r) := by
    intro k
    intro m hm hle r hr
    subst hr
    induction hd : i + n - m generalizing m k with
    | zero =>
      have : m = i + n := by omega
      subst this
      rcases hstop with h | ⟨h, hne⟩
      · rw [h, List.drop_of_length_le (by rw [size_list]; exact Nat.le_refl _)]
        rfl
      · rw [drop_at s _ h]
        unfold tw
        rw [List.takeWhile_cons, if_neg (by simpa using hne)]
        rfl
    | succ d ih =>
      have hms : m < s.size := by omega
      have hmx : s[m] = 42 := hall m hms (by omega) (by omega)
      rw [drop_at s m hms, hmx]
      have := ih (k + 1) (m + 1) (by omega) (by omega) (by omega)
      unfold tw at this ⊢
      rw [List.takeWhile_cons, if_pos (by rfl), List.length_cons, this]
  have := htw 1 (i + 1) rfl (by omega) _ rfl
  rw [this, show 1 + (i + n - (i + 1)) = n by omega]
theorem stars_el (s : ByteArray) (i n : Nat) (hin : i + n ≤ s.size) (h1 : 1 ≤ n) (h2 : n ≤ 2) (hall : ∀ j (hj : j < s.size), i ≤ j → j < i + n → s[j] = 42) : kindOf ((s.data.toList.drop i).take n) = 2 + (n : Int) ∧ charOf ((s.data.toList.drop i).take n) = 0 ∧ negOf ((s.data.toList.drop i).take n) = false ∧ setOf ((s.data.toList.drop i).take n) = [] := by
  have e0 : s[i]'(by omega) = 42 := hall i (by omega) (Nat.le_refl _) (by omega)
  have e : (s.data.toList.drop i).take n = [42] ∧ n = 1 ∨ (s.data.toList.drop i).take n = [42, 42] ∧ n = 2 := by
    rcases (show n = 1 ∨ n = 2 by omega) with rfl | rfl
    · refine Or.inl ⟨?_, rfl⟩
      rw [drop_at s i (by omega), e0]; rfl
    · refine Or.inr ⟨?_, rfl⟩
      have e1 : s[i + 1]'(by omega) = 42 := hall (i + 1) (by omega) (by omega) (by omega)
      rw [drop_at s i (by omega), e0, drop_at s (i + 1) (by omega), e1]; rfl
  rcases e with ⟨e, rfl⟩ | ⟨e, rfl⟩
  all_goals
    rw [e]
    exact ⟨rfl, rfl, rfl, rfl⟩
theorem one_el (s : ByteArray) (i : Nat) (h : i < s.size) : (s.data.toList.drop i).take 1 = [s[i]] := by rw [drop_at s i h]; rfl
theorem q_el (c : UInt8) (h : c = 63) : kindOf [c] = 2 ∧ charOf [c] = 0 ∧ negOf [c] = false ∧ setOf [c] = [] := by subst h; exact ⟨rfl, rfl, rfl, rfl⟩
theorem b_el (c : UInt8) (h1 : c ≠ 42) (h2 : c ≠ 63) (h3 : c ≠ 91) : kindOf [c] = 1 ∧ charOf [c] = c ∧ negOf [c] = false ∧ setOf [c] = [] := by
  have e : ([c] : List UInt8).headD 0 = c := rfl
  unfold kindOf charOf negOf setOf
  rw [e, if_neg h1, if_neg h2, if_neg h3, if_neg h1, if_neg h2, if_neg h3, if_neg h3, if_neg h3]
  exact ⟨rfl, rfl, rfl, rfl⟩
theorem s_el (e : List UInt8) (h : e.headD 0 = 91) : kindOf e = 5 ∧ charOf e = 0 := by
  unfold kindOf charOf
  rw [h]
  exact ⟨rfl, rfl⟩

theorem own_len {w : World} {B e sz m cap n : Nat} {ao : Option Addr} {xs : List Value} (h : w.ownsRow B e sz (.slice ao m cap) n xs) : m = n := by
  rcases h.2 with ⟨h1, h2⟩ | ⟨g, cap', cur, h1, _⟩
  · simp at h1; omega
  · simp at h1; exact h1.2.1
theorem own_empty (w : World) (e : TypeId) (sz : Nat) : (w.alloc (.cells #[] e)).ownsRow w.heap.size e sz (.slice (some ⟨w.heap.size, 0, none⟩) 0 0) 0 [] :=
  ⟨by simp, Or.inr ⟨w.heap.size, 0, #[], rfl, Nat.le_refl _, heap_alloc_new w _, Nat.le_refl _, by unfold maxLen; omega, by simp, by simp⟩⟩

set_option maxRecDepth 100000 in
set_option maxHeartbeats 64000000 in
theorem el37 (s : ByteArray) (w : World) (hs : s.size ≤ 100000) : Calls Tryd.prog 37 #[.string s] w fun e w' =>
    (elems s.data.toList = none → e = .returned (.tuple #[.slice none 0 0, .bool false])) ∧
    (∀ es, elems s.data.toList = some es → ∃ v vs, e = .returned (.tuple #[v, .bool true]) ∧ w'.ownsRow w.heap.size 47 4 v es.length vs ∧ EAt w' w.heap.size es vs) ∧ Below w.heap.size w w' := by
  obtain ⟨i0, hinf, hz0, hz1, hz2⟩ := info_parts info47
  have hstart : LInv w s 0 [] (.slice (some ⟨w.heap.size, 0, none⟩) 0 0) (w.alloc (.cells #[] 47)) := ⟨by simp, Nat.le_refl _, [], own_empty w 47 4, rfl, bnew (Below.refl _ _) _⟩
  have Hstart := hide hstart
  clear hstart
  go_enter Tryd.func37, Tryd.ntmps37
  go_wp2
  go_loopw [4, 5] (fun v iv wr => ∃ (i : Nat) (done : List (List UInt8)), i ≤ s.size ∧ iv = .int .i64 i ∧ LInv w s i done v wr) (fun _ iv _ => s.size - (intOf iv).toNat)
  case atStart => exact ⟨0, [], Nat.zero_le _, rfl, Hstart.out⟩
  case round =>
    obtain ⟨i, done, hi, rfl, hinv⟩ := hrel
    have Hinv := hide hinv
    obtain ⟨hx1, hdl, vs, hown, hownv, hbel⟩ := hinv
    clear hx1
    have hown_v := hownv
    by_cases hlt : i < s.size
    · have hbb : s[i].toNat < 256 := UInt8.toNat_lt _
      have hfail := fun h => Hinv.out.fail hlt h
      have Hfail := hide hfail
      have Hown := hide hown
      have Hownv := hide hownv
      have Hbel := hide hbel
      clear hfail hown hownv hbel hown_v
      by_cases h91 : s[i] = 91
      · have e91 : ((s[i].toNat : Int) == 91) = true := u8t h91
        have hset50 := set50 s i wr hs hlt h91
        have hhd : ∀ n, n ≠ 0 → ((s.data.toList.drop i).take n).headD 0 = 91 := fun n hn => by
          obtain ⟨m, rfl⟩ : ∃ m, n = m + 1 := ⟨n - 1, by omega⟩
          rw [drop_at s i hlt, h91]; rfl
        have Hhd := hide hhd
        have Hset := hide hset50
        clear hhd hset50 h91
        go_wp2_with fail
        refine Hset.out.mono ?_
        rintro e w2 ⟨hb2, ⟨h0, ng, ao, m, cap, rfl⟩ | ⟨n, ao, m, cap, hfe, hn0, rfl, hso⟩⟩
        · have hel := Hfail.out h0
          have Hel := hide hel
          have hbf := bgo Hbel.out hb2
          have hbf2 : Below w.heap.size w (w2.alloc (.cells #[.int .i64 5, .int .u8 0, .bool ng, .slice ao m cap] 47)) := bnew hbf _
          have Hbf := hide hbf2
          clear hel h0 hbf hbf2 hb2
          go_wp2
          go_ret2
          refine ⟨fun _ => rfl, fun es hes => ?_, Hbf.out⟩
          rw [Hel.out] at hes; cases hes
        · have hinv2 := Hinv.out.below hb2
          have hnle := firstEl_le (s.data.toList.drop i)
          rw [hfe, List.length_drop, size_list] at hnle
          obtain ⟨hk5, hc0⟩ := s_el _ (Hhd.out n hn0)
          have hso' := owns_mono hso (B' := w.heap.size) (by have := Hbel.out.size; omega)
          have hm := own_len hso
          subst hm
          obtain ⟨ng, hng⟩ : ∃ ng, negOf ((s.data.toList.drop i).take n) = ng := ⟨_, rfl⟩
          rw [hng]
          obtain ⟨m, hm⟩ : ∃ m, (setOf ((s.data.toList.drop i).take n)).length = m := ⟨_, rfl⟩
          rw [hm] at hso' ⊢
          have hba : Below w2.heap.size w2 (w2.alloc (.cells #[.int .i64 5, .int .u8 0, .bool ng, .slice ao m cap] 47)) := bnew (Below.refl _ _) _
          have hinv3 := hinv2.below hba
          have hso3 := owns_below hso' hba
          have hown3 := owns_below (owns_below Hown.out hb2) hba
          have hownv3 := (EAt.below hb2 Hownv.out).below hba
          have hbel3 := bgo (bgo Hbel.out hb2) hba
          have Hinv3 := hide hinv3
          have Hso3 := hide hso3
          have Hown3 := hide hown3
          have Hownv3 := hide hownv3
          have Hbel3 := hide hbel3
          have Hfe := hide hfe
          have Hng := hide hng
          have Hm := hide hm
          have Hk5 := hide hk5
          have Hc0 := hide hc0
          clear hinv2 hso hso' hinv3 hso3 hown3 hownv3 hbel3 hba hb2 hfe hng hm hk5 hc0
          have hneg1 : ¬ ((i : Int) + (n : Int) < 0) := by omega
          go_wp2_with (at_builtin; refine wpList_append_own _ rfl (.tmp 26) (.tmp 28) 37 rfl w.heap.size 47 i0 (.agg #[.int .i64 0, .int .u8 0, .bool false, .slice none 0 0]) 4 40 Tryd.underlying37 hinf hz0 hz1 hz2 rfl (by decide) _ _ _ rfl (Hown3.out.alloc _) ⟨w2.heap.size + 1, 0, none⟩ 1 1 [.int .i64 5, .int .u8 0, .bool ng, .slice ao m cap] rfl rfl (c1_four _ _ _ _ _ _ _ (by simp)) (c2_four _ _ _ _ _ _) (by unfold maxLen; omega) (by omega) (c5_one _ _ _ Hbel3.out) ?_)
          intro v' w3 hown' hgrow _
          have hnext := Hinv3.out.push hlt Hfe.out hn0 Hownv3.out Hown3.out Hm.out.symm Hso3.out (by rw [Hk5.out, Hc0.out, Hng.out]; exact hown') hgrow
          have Hnext := hide hnext
          clear hnext hown' hgrow
          go_wp2
          go_roundw
          case rel => exact ⟨i + n, _, by omega, by go_num, Hnext.out⟩
          case measure => simp [intOf]; omega
      · have e91 : ((s[i].toNat : Int) == 91) = false := u8f h91
        have hdr := drop_at s i hlt
        by_cases h93 : s[i] = 93
        · have e93 : ((s[i].toNat : Int) == 93) = true := u8t h93
          have hel := Hfail.out (by rw [hdr, fe_else _ _ (by rw [h93]; decide) (by rw [h93]; decide), if_pos h93])
          have Hel := hide hel
          clear hel hdr h91 h93
          go_wp2
          go_ret2
          refine ⟨fun _ => rfl, fun es hes => ?_, Hbel.out⟩
          rw [Hel.out] at hes; cases hes
        · have e93 : ((s[i].toNat : Int) == 93) = false := u8f h93
          by_cases h42 : s[i] = 42
          · have e42 : ((s[i].toNat : Int) == 42) = true := u8t h42
            have hst := fun n => stars_count s i n
            have hse := fun n => stars_el s i n
            have Hst := hide hst
            have Hse := hide hse
            have H42 := hide h42
            clear hst hse hdr h91 h93 h42
            go_wp2
            go_loop [8] (fun v => ∃ n : Nat, 1 ≤ n ∧ i + n ≤ s.size ∧ v = .int .i64 n ∧ ∀ j (hj : j < s.size), i ≤ j → j < i + n → s[j] = 42) (fun v => s.size - (intOf v).toNat)
            case atStart => exact ⟨1, Nat.le_refl _, by omega, rfl, fun j hj h1 h2 => by
              obtain rfl : j = i := by omega
              exact H42.out⟩
            case round =>
              obtain ⟨n, hn1, hin, rfl, hall⟩ := hrel
              have Hall := hide hall
              clear hall
              by_cases hl2 : i + n < s.size ∧ ∃ h : i + n < s.size, s[i + n] = 42
              · obtain ⟨hl3, _, h42n⟩ := hl2
                have hbn : s[i + n].toNat < 256 := UInt8.toNat_lt _
                have e42n : ((s[i + n].toNat : Int) == 42) = true := u8t h42n
                have hall2 : ∀ j (hj : j < s.size), i ≤ j → j < i + (n + 1) → s[j] = 42 := fun j hj h1 h2 => by
                  by_cases hjk : j = i + n
                  · subst hjk; exact h42n
                  · exact Hall.out j hj h1 (by omega)
                have Hall2 := hide hall2
                clear hall2 h42n
                go_wp2
                go_round
                case rel => exact ⟨n + 1, by omega, by omega, by go_num, Hall2.out⟩
                case measure => simp [intOf]; omega
              · have hfe := Hst.out n hin hn1 Hall.out (by
                  by_cases h : i + n < s.size
                  · exact Or.inr ⟨h, fun e => hl2 ⟨h, h, e⟩⟩
                  · exact Or.inl (by omega))
                have hguard : (∃ h : i + n < s.size, ((s[i + n].toNat : Int) == 42) = false) ∨ ¬ i + n < s.size := by
                  by_cases h : i + n < s.size
                  · exact Or.inl ⟨h, u8f (fun e => hl2 ⟨h, h, e⟩)⟩
                  · exact Or.inr h
                clear hl2
                by_cases hn2 : 2 < n
                · rw [if_pos hn2] at hfe
                  have hel := Hfail.out hfe
                  have Hel := hide hel
                  clear hel hfe
                  rcases hguard with ⟨hl3, e42n⟩ | hl3
                  · have hbn : s[i + n].toNat < 256 := UInt8.toNat_lt _
                    go_wp2
                    go_ret2
                    refine ⟨fun _ => rfl, fun es hes => ?_, Hbel.out⟩
                    rw [Hel.out] at hes; cases hes
                  · go_wp2
                    go_ret2
                    refine ⟨fun _ => rfl, fun es hes => ?_, Hbel.out⟩
                    rw [Hel.out] at hes; cases hes
                · rw [if_neg hn2] at hfe
                  have hel4 := Hse.out n hin hn1 (by omega) Hall.out
                  have Hel4 := hide hel4
                  have Hfe := hide hfe
                  clear hel4 hfe
                  rcases hguard with ⟨hl3, e42n⟩ | hl3
                  · have hbn : s[i + n].toNat < 256 := UInt8.toNat_lt _
                    have hown1 := Hown.out
                    have hnil : wr.ownsRow w.heap.size 64 2 (.slice none 0 0) 0 (rCells []) := World.ownsRow_nil _ _ _ _
                    go_wp2_with (at_builtin; refine wpList_append_own _ rfl (.tmp 57) (.tmp 61) 37 rfl w.heap.size 47 i0 (.agg #[.int .i64 0, .int .u8 0, .bool false, .slice none 0 0]) 4 40 Tryd.underlying37 hinf hz0 hz1 hz2 rfl (by decide) _ _ _ rfl (hown1.alloc _) ⟨wr.heap.size, 0, none⟩ 1 1 [.int .i64 (2 + (n : Int)), .int .u8 0, .bool false, .slice none 0 0] rfl rfl (c1_four _ _ _ _ _ _ _ rfl) (c2_four _ _ _ _ _ _) (by unfold maxLen; omega) (by omega) (c5_one _ _ _ Hbel.out) ?_)
                    intro v' w3 hown' hgrow _
                    have hnext := Hinv.out.push hlt Hfe.out (by omega) Hownv.out hown1 (ao := none) (m := 0) (cap := 0) (by rw [Hel4.out.2.2.2]; rfl) (by rw [Hel4.out.2.2.2]; exact hnil) (by rw [Hel4.out.1, Hel4.out.2.1, Hel4.out.2.2.1]; exact hown') hgrow
                    have Hnext := hide hnext
                    clear hnext hown' hgrow hown1 hnil
                    go_wp2
                    go_roundw
                    case rel => exact ⟨i + n, _, by omega, by go_num, Hnext.out⟩
                    case measure => simp [intOf]; omega
                  · skip
                    have hown1 := Hown.out
                    have hnil : wr.ownsRow w.heap.size 64 2 (.slice none 0 0) 0 (rCells []) := World.ownsRow_nil _ _ _ _
                    go_wp2_with (at_builtin; refine wpList_append_own _ rfl (.tmp 57) (.tmp 61) 37 rfl w.heap.size 47 i0 (.agg #[.int .i64 0, .int .u8 0, .bool false, .slice none 0 0]) 4 40 Tryd.underlying37 hinf hz0 hz1 hz2 rfl (by decide) _ _ _ rfl (hown1.alloc _) ⟨wr.heap.size, 0, none⟩ 1 1 [.int .i64 (2 + (n : Int)), .int .u8 0, .bool false, .slice none 0 0] rfl rfl (c1_four _ _ _ _ _ _ _ rfl) (c2_four _ _ _ _ _ _) (by unfold maxLen; omega) (by omega) (c5_one _ _ _ Hbel.out) ?_)
                    intro v' w3 hown' hgrow _
                    have hnext := Hinv.out.push hlt Hfe.out (by omega) Hownv.out hown1 (ao := none) (m := 0) (cap := 0) (by rw [Hel4.out.2.2.2]; rfl) (by rw [Hel4.out.2.2.2]; exact hnil) (by rw [Hel4.out.1, Hel4.out.2.1, Hel4.out.2.2.1]; exact hown') hgrow
                    have Hnext := hide hnext
                    clear hnext hown' hgrow hown1 hnil
                    go_wp2
                    go_roundw
                    case rel => exact ⟨i + n, _, by omega, by go_num, Hnext.out⟩
                    case measure => simp [intOf]; omega
          · have e42 : ((s[i].toNat : Int) == 42) = false := u8f h42
            have hfe : firstEl (s.data.toList.drop i) = 1 := by rw [hdr, fe_else _ _ h42 h91, if_neg h93]
            have h1el := one_el s i hlt
            by_cases h63 : s[i] = 63
            · have e63 : ((s[i].toNat : Int) == 63) = true := u8t h63
              have hel4 := q_el s[i] h63
              rw [← h1el] at hel4
              have Hel4 := hide hel4
              have Hfe := hide hfe
              clear hel4 hfe hdr h91 h93 h42 h63 h1el
              have hown1 := Hown.out
              have hnil : wr.ownsRow w.heap.size 64 2 (.slice none 0 0) 0 (rCells []) := World.ownsRow_nil _ _ _ _
              go_wp2_with (at_builtin; refine wpList_append_own _ rfl (.tmp 70) (.tmp 72) 37 rfl w.heap.size 47 i0 (.agg #[.int .i64 0, .int .u8 0, .bool false, .slice none 0 0]) 4 40 Tryd.underlying37 hinf hz0 hz1 hz2 rfl (by decide) _ _ _ rfl (hown1.alloc _) ⟨wr.heap.size, 0, none⟩ 1 1 [.int .i64 2, .int .u8 0, .bool false, .slice none 0 0] rfl rfl (c1_four _ _ _ _ _ _ _ rfl) (c2_four _ _ _ _ _ _) (by unfold maxLen; omega) (by omega) (c5_one _ _ _ Hbel.out) ?_)
              intro v' w3 hown' hgrow _
              have hnext := Hinv.out.push hlt Hfe.out (by omega) Hownv.out hown1 (ao := none) (m := 0) (cap := 0) (by rw [Hel4.out.2.2.2]; rfl) (by rw [Hel4.out.2.2.2]; exact hnil) (by rw [Hel4.out.1, Hel4.out.2.1, Hel4.out.2.2.1]; exact hown') hgrow
              have Hnext := hide hnext
              clear hnext hown' hgrow hown1 hnil
              go_wp2
              go_roundw
              case rel => exact ⟨i + 1, _, by omega, by go_num, Hnext.out⟩
              case measure => simp [intOf]; omega
            · have e63 : ((s[i].toNat : Int) == 63) = false := u8f h63
              have hel4 := b_el s[i] h42 h63 h91
              rw [← h1el] at hel4
              have Hel4 := hide hel4
              have Hfe := hide hfe
              clear hel4 hfe hdr h91 h93 h42 h63 h1el
              have hown1 := Hown.out
              have hnil : wr.ownsRow w.heap.size 64 2 (.slice none 0 0) 0 (rCells []) := World.ownsRow_nil _ _ _ _
              go_wp2_with (at_builtin; refine wpList_append_own _ rfl (.tmp 76) (.tmp 81) 37 rfl w.heap.size 47 i0 (.agg #[.int .i64 0, .int .u8 0, .bool false, .slice none 0 0]) 4 40 Tryd.underlying37 hinf hz0 hz1 hz2 rfl (by decide) _ _ _ rfl (hown1.alloc _) ⟨wr.heap.size, 0, none⟩ 1 1 [.int .i64 1, .int .u8 (s[i].toNat : Int), .bool false, .slice none 0 0] rfl rfl (c1_four _ _ _ _ _ _ _ rfl) (c2_four _ _ _ _ _ _) (by unfold maxLen; omega) (by omega) (c5_one _ _ _ Hbel.out) ?_)
              intro v' w3 hown' hgrow _
              have hnext := Hinv.out.push hlt Hfe.out (by omega) Hownv.out hown1 (ao := none) (m := 0) (cap := 0) (by rw [Hel4.out.2.2.2]; rfl) (by rw [Hel4.out.2.2.2]; exact hnil) (by rw [Hel4.out.1, Hel4.out.2.1, Hel4.out.2.2.1]; exact hown') hgrow
              have Hnext := hide hnext
              clear hnext hown' hgrow hown1 hnil
              go_wp2
              go_roundw
              case rel => exact ⟨i + 1, _, by omega, by go_num, Hnext.out⟩
              case measure => simp [intOf]; omega
    · obtain rfl : i = s.size := by omega
      have hel : elems s.data.toList = some done := by
        rw [Hinv.out.1, List.drop_of_length_le (by rw [size_list]; exact Nat.le_refl _), elems_nil]
        simp
      have Hel := hide hel
      have Hown := hide hown
      have Hownv := hide hownv
      have Hbel := hide hbel
      clear hel hown hownv hbel hown_v
      go_wp2
      go_ret2
      refine ⟨fun h => ?_, fun es hes => ?_, Hbel.out⟩
      · rw [Hel.out] at h; cases h
      · rw [Hel.out] at hes
        cases hes
        exact ⟨_, _, rfl, Hown.out, Hownv.out⟩

end Go.Proofs.YtlabdaomgogflaaDoor
