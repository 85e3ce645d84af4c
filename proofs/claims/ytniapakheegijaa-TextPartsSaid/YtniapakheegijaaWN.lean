/- The walk of the law on words and folding. -/
import Derived.Test.YtniapakheegijaaWO
import Derived.Test.YtniapakheegijaaPm
namespace Go.Proofs.Ytniapakheegijaa
open Go.RowKit

theorem foldA_list (s : ByteArray) : (foldA s).data.toList = s.data.toList.map foldB' := rfl
theorem foldA_size (s : ByteArray) : (foldA s).size = s.size := by
  have := congrArg List.length (foldA_list s)
  rw [List.length_map, size_list, size_list] at this
  exact this
theorem foldA_twice (s : ByteArray) : foldA (foldA s) = foldA s := by
  refine ByteArray.ext (Array.ext' ?_)
  rw [foldA_list, foldA_list, List.map_map]
  exact List.map_congr_left fun c _ => fold_twice c
theorem words_foldA (s : ByteArray) : words (foldA s).data.toList (foldA s).size = words s.data.toList s.size := by
  rw [foldA_size, foldA_list, words_fold]

theorem folded (s : ByteArray) (hs : s.size ≤ 100000) (n : Nat) (hn : (words s.data.toList s.size).length = n) : ∃ f : ByteArray, f.size = s.size ∧
    (∀ w, Calls Try.prog 14 #[.string s] w fun e w' => e = .returned (.string f) ∧ Below w.heap.size w w') ∧
    (∀ w, Calls Try.prog 14 #[.string f] w fun e w' => e = .returned (.string f) ∧ Below w.heap.size w w') ∧
    (∀ w, Calls Try.prog 27 #[.string f] w fun e w' => (∃ ao cap, e = .returned (.slice ao n cap) ∧ RdS w' ao n cap 2 (spans (words s.data.toList s.size))) ∧ Below w.heap.size w w') := by
  refine ⟨foldA s, foldA_size s, fun w => fold14 s w hs, fun w => ?_, fun w => ?_⟩
  · have := fold14 (foldA s) w (by rw [foldA_size]; exact hs)
    rw [foldA_twice] at this
    exact this
  · have := words27' (foldA s) n (by rw [words_foldA]; exact hn) w (by rw [foldA_size]; exact hs)
    rw [words_foldA] at this
    exact this

theorem words_at (s : ByteArray) (k : Nat) (hk : k < (words s.data.toList s.size).length) : ∃ a, (upto (isWs s.data.toList) s.data.toList.length)[k]? = some a ∧ (words s.data.toList s.size)[k]? = some (a, wordEnd s.data.toList a) := by
  unfold words at hk ⊢
  rw [List.length_map] at hk
  rw [size_list]
  refine ⟨_, List.getElem?_eq_getElem hk, ?_⟩
  rw [List.getElem?_map, List.getElem?_eq_getElem hk]
  rfl

set_option maxRecDepth 100000 in
set_option maxHeartbeats 3200000 in
theorem law10 (s : ByteArray) (w : World) (hreach : s.size ≤ 9223372036854775807) : Calls Try.prog 10 #[.string s] w fun e w' => e = .returned (.bool true) ∧ Below w.heap.size w w' := by
  by_cases hbig : 2100 < s.size
  · go_enter Try.func10, Try.ntmps10
    go_wp2_with (go_at_call 11; refine (alive11 _).mono ?_; rintro e w1 ⟨rfl, hb1⟩)
    go_ret
    exact ⟨rfl, hb1⟩
  · obtain ⟨n, hne⟩ : ∃ n, (words s.data.toList s.size).length = n := ⟨_, rfl⟩
    have hn : n ≤ 2100 := by rw [← hne]; exact Nat.le_trans (words_len _ _) (by omega)
    obtain ⟨f, hfs, h14s, h14f, h27f⟩ := folded s (by omega) n hne
    have H14s := hide h14s
    have H14f := hide h14f
    have H27f := hide h27f
    have Hn := hide hne
    clear hne h14s h14f h27f
    go_enter Try.func10, Try.ntmps10
    go_wp2_with fail
    refine (alive11 _).mono ?_
    rintro e w1 ⟨rfl, hb1⟩
    go_wp2_with fail
    refine (H14s.out _).mono ?_
    rintro e w2 ⟨rfl, hb2⟩
    go_wp2_with fail
    refine (words27' s n Hn.out _ (by omega)).mono ?_
    rintro e w3 ⟨⟨ao3, cap3, rfl, hr3⟩, hb3⟩
    go_wp2_with fail
    refine (H14f.out _).mono ?_
    rintro e w4 ⟨rfl, hb4⟩
    go_wp2_with fail
    refine (H27f.out _).mono ?_
    rintro e w5 ⟨⟨ao5, cap5, rfl, hr5⟩, hb5⟩
    have hb35 : Below w3.heap.size w3 w5 := bgo hb4 hb5
    go_wp2_with fail
    refine (same26 _ _ n (words s.data.toList s.size) _ (by omega) hr5.rd (hr3.rd.below hb35)).mono ?_
    rintro e w6 ⟨rfl, m6, rfl⟩
    obtain ⟨w6, hw6⟩ : ∃ w6, w6 = w5.drewN m6 := ⟨_, rfl⟩
    rw [← hw6]
    have hr6 : RdS w6 ao3 n cap3 2 (spans (words s.data.toList s.size)) := by
      rw [hw6]
      exact (hr3.below hb35).below (Drawn.below ⟨m6, rfl⟩ _)
    have hb6 : Below w.heap.size w w6 := by
      rw [hw6]
      exact bdr (bgo (bgo (bgo (bgo hb1 hb2) hb3) hb4) hb5) m6
    have Hb6 := hide hb6
    clear hw6 hb6 hb35 hb1 hb2 hb3 hb4 hb5 hr3 hr5
    go_wp2
    go_loopw [5, 6] (fun at_ i wr => ∃ k : Nat, k ≤ n ∧ i = .int .i64 k ∧ at_ = .int .i64 (pe s.data.toList k : Nat) ∧ Drawn w6 wr) (fun _ i _ => n - (intOf i).toNat)
    case atStart => exact ⟨0, Nat.zero_le _, rfl, rfl, Drawn.refl _⟩
    case round =>
      obtain ⟨k, hk, rfl, rfl, hdr⟩ := hrel
      have hpl := pe_le s.data.toList k (by have h1 := Hn.out; unfold words at h1; rw [List.length_map] at h1; rw [size_list]; omega)
      rw [size_list] at hpl
      by_cases hlt : k < n
      · obtain ⟨a, ha, hwk⟩ := words_at s k (by rw [Hn.out]; exact hlt)
        obtain ⟨h1, h2, h3, h4, h5⟩ := pe_word s.data.toList k a ha
        have h6 := pe_succ s.data.toList k a ha
        have h7 := fun j => word_before s.data.toList a j
        obtain ⟨e1, e2⟩ := spans_get _ k _ hwk
        obtain ⟨g, rfl, _, hcl⟩ := hr6.2.2 (by omega)
        have ca := (hcl (k * 2) (by omega)).trans e1
        have ce := (hcl (k * 2 + 1) (by omega)).trans e2
        rw [size_list] at h4
        obtain ⟨P, hP⟩ : ∃ P, pe s.data.toList k = P := ⟨_, rfl⟩
        obtain ⟨E, hE⟩ : ∃ E, wordEnd s.data.toList a = E := ⟨_, rfl⟩
        rw [hP] at h1 h2 h5 hpl ⊢
        simp only [hE] at h3 h4 h6 h7 ce
        have H5 := hide h5
        have H6 := hide h6
        have H7 := hide h7
        have H2 := hide h2
        have Ca := hide ca
        have Ce := hide ce
        have xa := (hdr.cell ⟨g, k * 2, none⟩).trans ca
        have xe := (hdr.cell ⟨g, k * 2 + 1, none⟩).trans ce
        clear ha hwk h5 h6 h7 h2 e1 e2 hcl hP hE ca ce
        have d0 : decide (a < P) = false := by simp; omega
        have d3 : decide (E ≤ a) = false := by simp; omega
        have d4 : decide (s.size < E) = false := by simp; omega
        have hkn0 : (0 : Int) ≤ (k : Int) := by omega
        have hkn1 : (k : Int) < (n : Int) := by omega
        obtain ⟨wo, rfl⟩ : ∃ wo : World, wo = wr := ⟨_, rfl⟩
        rcases Nat.eq_zero_or_pos k with hk0 | hk0
        · have d1 : decide (0 < k) = false := by simp; omega
          have Hk0 := hide hk0
          clear hk0
          go_wp2
          go_quiet (fail)
          go_wp2
          have hdr' := hdr.more nq
          clear xa xe hdr
          go_loopw [7] (fun j wr => ∃ m : Nat, P ≤ m ∧ m ≤ E ∧ j = .int .i64 m ∧ Drawn w6 wr) (fun j _ => E - (intOf j).toNat)
          case atStart => exact ⟨P, Nat.le_refl _, by omega, rfl, hdr'⟩
          case round =>
            obtain ⟨m, hm1, hm2, rfl, hdr2⟩ := hrel
            have xa := (hdr2.cell ⟨g, k * 2, none⟩).trans Ca.out
            have xe := (hdr2.cell ⟨g, k * 2 + 1, none⟩).trans Ce.out
            by_cases hmE : m < E
            · have hms : m < s.size := by omega
              have hbm : s[m].toNat < 256 := UInt8.toNat_lt _
              have hm0 : (0 : Int) ≤ (m : Int) := by omega
              have hms' : (m : Int) < (s.size : Int) := by omega
              by_cases hma : m < a
              · have hw : wordI (s[m].toNat : Int) = false := by rw [← wordN_at s m hms]; exact H5.out m hm1 hma
                have d5 : decide (a ≤ m) = false := by simp; omega
                go_wp2
                go_quiet ((go_at_call 31; exact quiet_left (word31 _ _ (by omega) (by omega))))
                go_wp2
                go_roundw
                case rel => exact ⟨m + 1, by omega, by omega, by go_num, hdr2.more _⟩
                case measure => simp [intOf]; omega
              · have hw : wordI (s[m].toNat : Int) = true := by rw [← wordN_at s m hms]; exact H7.out m (by omega) (by omega)
                have d5 : decide (a ≤ m) = true := by simp; omega
                go_wp2
                go_quiet ((go_at_call 31; exact quiet_left (word31 _ _ (by omega) (by omega))))
                go_wp2
                go_roundw
                case rel => exact ⟨m + 1, by omega, by omega, by go_num, hdr2.more _⟩
                case measure => simp [intOf]; omega
            · go_wp2
              go_roundw
              case rel => exact ⟨k + 1, by omega, by go_num, by rw [H6.out], hdr2⟩
              case measure => simp [intOf]; omega
        · have d1 : decide (0 < k) = true := by simp; omega
          have d2 : ((a : Int) == (P : Int)) = false := beq_eq_false_iff_ne.2 (by have := H2.out hk0; omega)
          go_wp2
          go_quiet (fail)
          go_wp2
          have hdr' := hdr.more nq
          clear xa xe hdr
          go_loopw [7] (fun j wr => ∃ m : Nat, P ≤ m ∧ m ≤ E ∧ j = .int .i64 m ∧ Drawn w6 wr) (fun j _ => E - (intOf j).toNat)
          case atStart => exact ⟨P, Nat.le_refl _, by omega, rfl, hdr'⟩
          case round =>
            obtain ⟨m, hm1, hm2, rfl, hdr2⟩ := hrel
            have xa := (hdr2.cell ⟨g, k * 2, none⟩).trans Ca.out
            have xe := (hdr2.cell ⟨g, k * 2 + 1, none⟩).trans Ce.out
            by_cases hmE : m < E
            · have hms : m < s.size := by omega
              have hbm : s[m].toNat < 256 := UInt8.toNat_lt _
              have hm0 : (0 : Int) ≤ (m : Int) := by omega
              have hms' : (m : Int) < (s.size : Int) := by omega
              by_cases hma : m < a
              · have hw : wordI (s[m].toNat : Int) = false := by rw [← wordN_at s m hms]; exact H5.out m hm1 hma
                have d5 : decide (a ≤ m) = false := by simp; omega
                go_wp2
                go_quiet ((go_at_call 31; exact quiet_left (word31 _ _ (by omega) (by omega))))
                go_wp2
                go_roundw
                case rel => exact ⟨m + 1, by omega, by omega, by go_num, hdr2.more _⟩
                case measure => simp [intOf]; omega
              · have hw : wordI (s[m].toNat : Int) = true := by rw [← wordN_at s m hms]; exact H7.out m (by omega) (by omega)
                have d5 : decide (a ≤ m) = true := by simp; omega
                go_wp2
                go_quiet ((go_at_call 31; exact quiet_left (word31 _ _ (by omega) (by omega))))
                go_wp2
                go_roundw
                case rel => exact ⟨m + 1, by omega, by omega, by go_num, hdr2.more _⟩
                case measure => simp [intOf]; omega
            · go_wp2
              go_roundw
              case rel => exact ⟨k + 1, by omega, by go_num, by rw [H6.out], hdr2⟩
              case measure => simp [intOf]; omega
      · obtain rfl : k = n := by omega
        have htail := pe_tail s.data.toList k (by have h1 := Hn.out; unfold words at h1; rw [List.length_map] at h1; rw [size_list]; omega)
        rw [size_list] at htail
        obtain ⟨P, hP⟩ : ∃ P, pe s.data.toList k = P := ⟨_, rfl⟩
        rw [hP] at htail hpl ⊢
        have Htail := hide htail
        clear htail hP
        go_wp2
        go_loop [8] (fun j => ∃ m : Nat, P ≤ m ∧ m ≤ s.size ∧ j = .int .i64 m) (fun j => s.size - (intOf j).toNat)
        case atStart => exact ⟨P, Nat.le_refl _, hpl, rfl⟩
        case round =>
          obtain ⟨m, hm1, hm2, rfl⟩ := hrel
          by_cases hms : m < s.size
          · have hbm : s[m].toNat < 256 := UInt8.toNat_lt _
            have hw : wordI (s[m].toNat : Int) = false := by rw [← wordN_at s m hms]; exact Htail.out m hm1 hms
            go_wp2_with (go_at_call 31; refine (word31 _ _ (by omega) (by omega)).mono ?_; rintro e' w' ⟨rfl, rfl⟩)
            go_round
            case rel => exact ⟨m + 1, by omega, by omega, by go_num⟩
            case measure => simp [intOf]; omega
          · go_wp2
            go_ret
            exact ⟨rfl, Hb6.out.trans (hdr.below _)⟩

end Go.Proofs.Ytniapakheegijaa
