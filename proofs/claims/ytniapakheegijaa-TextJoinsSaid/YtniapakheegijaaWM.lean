/- The lines, joined, are the text. -/
import Derived.Test.YtniapakheegijaaWO
namespace Go.Proofs.Ytniapakheegijaa
open Go.RowKit

def pre (s : ByteArray) (e : Nat) : ByteArray := s.extract 0 e
/-- Where the k-th line ends. -/
def je (s : ByteArray) : Nat → Nat
  | 0 => 0
  | k + 1 => lineEnd s.data.toList ((starts s.data.toList s.size).getD k 0)

theorem pre_size (s : ByteArray) (e : Nat) (h : e ≤ s.size) : (pre s e).size = e := by
  unfold pre
  simp
  omega
theorem pre_list (s : ByteArray) (e : Nat) : (pre s e).data.toList = s.data.toList.take e := toList_extract0 s e
theorem ba_ext {a b : ByteArray} (h : a.data.toList = b.data.toList) : a = b := ByteArray.ext (Array.ext' h)
theorem pre_zero (s : ByteArray) : pre s 0 = ⟨#[]⟩ := ba_ext (by rw [pre_list]; rfl)
theorem pre_all (s : ByteArray) (e : Nat) (h : e = s.size) : pre s e = s := ba_ext (by rw [pre_list, List.take_of_length_le (by rw [size_list]; omega)])
theorem pre_nl (s : ByteArray) (e : Nat) (h : e < s.size) (hc : s.data.toList.getD e 0 = 10) : pre s e ++ ⟨#[10]⟩ = pre s (e + 1) := by
  apply ba_ext
  rw [pre_list, List.take_succ_eq_append_getElem (by rw [size_list]; exact h)]
  have h1 : s.data.toList[e]'(by rw [size_list]; exact h) = 10 := by
    rw [List.getD_eq_getElem?_getD, List.getElem?_eq_getElem (by rw [size_list]; exact h)] at hc
    exact hc
  rw [h1]
  simp [pre]
theorem pre_line (s : ByteArray) (a : Nat) : pre s a ++ lineStr s a = pre s (lineEnd s.data.toList a) := by
  apply ba_ext
  have hle := le_lineEnd s.data.toList a
  have h1 : (lineStr s a).data.toList = (s.data.toList.drop a).take (lineEnd s.data.toList a - a) := by
    unfold lineStr
    simp
  rw [pre_list]
  have h2 : (pre s a ++ lineStr s a).data.toList = (pre s a).data.toList ++ (lineStr s a).data.toList := by simp
  rw [h2, pre_list, h1]
  have h3 : lineEnd s.data.toList a = a + (lineEnd s.data.toList a - a) := by omega
  generalize lineEnd s.data.toList a - a = m at h3 ⊢
  rw [h3, List.take_add]

theorem je_succ (s : ByteArray) (k a : Nat) (h : (starts s.data.toList s.size)[k]? = some a) : je s (k + 1) = lineEnd s.data.toList a := by
  show lineEnd s.data.toList ((starts s.data.toList s.size).getD k 0) = _
  rw [List.getD_eq_getElem?_getD, h]
  rfl
theorem je_first (s : ByteArray) (a : Nat) (h : (starts s.data.toList s.size)[0]? = some a) : a = 0 := by
  have h1 := upto_get (isStart s.data.toList) 0 s.size (by have := starts_get s 0 a h; omega) rfl
  have h2 : (upto (isStart s.data.toList) 0).length = 0 := rfl
  rw [h2] at h1
  unfold starts at h
  rw [h1] at h
  exact (Option.some.inj h).symm
/-- Before line k + 1 there is the line feed that ends line k. -/
theorem je_next (s : ByteArray) (k a : Nat) (h : (starts s.data.toList s.size)[k + 1]? = some a) : je s (k + 1) + 1 = a ∧ je s (k + 1) < s.size ∧ s.data.toList.getD (je s (k + 1)) 0 = 10 := by
  have hk : k < (starts s.data.toList s.size).length := by have := (List.getElem?_eq_some_iff.1 h).1; omega
  have hb := List.getElem?_eq_getElem hk
  have hn := starts_next s k _ a hb h
  have ha := starts_get s (k + 1) a h
  rw [je_succ s k _ hb]
  have hst : stopN s.data.toList ((starts s.data.toList s.size)[k]) = min (lineEnd s.data.toList ((starts s.data.toList s.size)[k]) + 1) s.size := by unfold stopN; rw [size_list]
  exact ⟨by omega, by omega, line_at s.data.toList _ (by rw [size_list]; omega)⟩
theorem je_le (s : ByteArray) (k a : Nat) (h : (starts s.data.toList s.size)[k]? = some a) : a ≤ je s (k + 1) ∧ je s (k + 1) ≤ s.size := by
  rw [je_succ s k a h]
  have ha := starts_get s k a h
  have := lineEnd_le s.data.toList a (by rw [size_list]; omega)
  rw [size_list] at this
  exact ⟨le_lineEnd _ _, this⟩
/-- The end of the last line. -/
theorem je_last (s : ByteArray) (L : Nat) (h0 : 0 < s.size) (hL : (starts s.data.toList s.size).length = L) :
    (je s L = s.size ∧ ∃ h : s.size - 1 < s.size, ¬ (s[s.size - 1]'h).toNat = 10) ∨ (je s L = s.size - 1 ∧ ∃ h : s.size - 1 < s.size, (s[s.size - 1]'h).toNat = 10) := by
  have h1 := starts_len s.data.toList (by rw [size_list]; exact h0)
  rw [size_list, hL] at h1
  obtain ⟨k, rfl⟩ : ∃ k, L = k + 1 := ⟨L - 1, by omega⟩
  have hk : k < (starts s.data.toList s.size).length := by omega
  have hb := List.getElem?_eq_getElem hk
  have ha := starts_get s k _ hb
  have hn := starts_lastone s k _ hb (by omega)
  rw [je_succ s k _ hb]
  rcases line_cases s _ ha with ⟨q, _, hq, e1, e2, e3⟩ | ⟨e1, _, hp, e3⟩
  · right
    have hqs : q = s.size - 1 := by omega
    subst hqs
    exact ⟨e1, hq, e3⟩
  · left
    exact ⟨e1, hp, e3⟩
theorem line_clear (s : ByteArray) (a : Nat) : ∀ j (h : j < (lineStr s a).size), ¬ ((lineStr s a)[j]).toNat = 10 := by
  intro j h hc
  have h1 : (lineStr s a).data.toList.getD j 0 = 10 := by rw [getD_byte _ j h]; exact (byte_nl _).2 hc
  have h2 : (lineStr s a).data.toList = (s.data.toList.drop a).take (lineEnd s.data.toList a - a) := by
    unfold lineStr
    simp
  have hj : j < lineEnd s.data.toList a - a := by
    have h3 := congrArg List.length h2
    rw [size_list, List.length_take] at h3
    omega
  rw [h2, List.getD_eq_getElem?_getD, List.getElem?_take, if_pos hj, ← List.getD_eq_getElem?_getD, getD_drop] at h1
  exact line_before s.data.toList a (a + j) (by omega) (by omega) h1

theorem strs_at (s : ByteArray) (k a : Nat) (x : Value) (h : (strs s s.size)[k]? = some x) (ha : (starts s.data.toList s.size)[k]? = some a) : x = .string (lineStr s a) := by
  unfold strs at h
  rw [List.getElem?_map, ha] at h
  exact (Option.some.inj h).symm

set_option maxHeartbeats 1600000 in
theorem law9 (s : ByteArray) (w : World) (hreach : s.size ≤ 9223372036854775807) : Calls Try.prog 9 #[.string s] w fun e w' => e = .returned (.bool true) ∧ Below w.heap.size w w' := by
  by_cases hbig : 2100 < s.size
  · go_enter Try.func9, Try.ntmps9
    go_wp2_with (go_at_call 11; refine (alive11 _).mono ?_; rintro e w1 ⟨rfl, hb1⟩)
    go_ret
    exact ⟨rfl, hb1⟩
  · obtain ⟨L, hLe⟩ : ∃ L, (starts s.data.toList s.size).length = L := ⟨_, rfl⟩
    have hL : L ≤ 2100 := by rw [← hLe]; exact Nat.le_trans (upto_len _ _) (by omega)
    have HL := hide hLe
    clear hLe
    go_enter Try.func9, Try.ntmps9
    go_wp2_with fail
    refine (alive11 _).mono ?_
    rintro e w1 ⟨rfl, hb1⟩
    go_wp2_with fail
    refine (lines17' s L HL.out _ (by omega)).mono ?_
    rintro e w2 ⟨⟨ao2, cap2, rfl, hr2⟩, hb2⟩
    go_wp2_with fail
    refine (starts20' s L HL.out _ (by omega)).mono ?_
    rintro e w3 ⟨⟨ao3, cap3, rfl, hr3⟩, hb3⟩
    have hr2' := hr2.below hb3
    have hb := bgo (bgo hb1 hb2) hb3
    have Hb := hide hb
    clear hr2 hb hb1 hb2 hb3
    go_wp2
    go_loop [5, 6] (fun o i => ∃ k : Nat, k ≤ L ∧ i = .int .i64 k ∧ o = .string (pre s (je s k))) (fun _ i => L - (intOf i).toNat)
    case atStart => exact ⟨0, Nat.zero_le _, rfl, by show _ = Value.string (pre s 0); rw [pre_zero]⟩
    case round =>
      obtain ⟨k, hk, rfl, rfl⟩ := hrel
      by_cases hlt : k < L
      · obtain ⟨g, rfl, x, hx, hcx⟩ := hr2'.at hlt
        obtain ⟨g', rfl, y, hy, hcy⟩ := hr3.at hlt
        obtain ⟨a, ha, rfl⟩ := nums_get _ _ _ hy
        obtain rfl := strs_at s k a x hx ha
        have has := starts_get s k a ha
        have hje := je_le s k a ha
        have hjs := je_succ s k a ha
        have hpl := pre_line s a
        rw [← hjs] at hpl
        have hno := line_clear s a
        have hus : (lineStr s a).size ≤ 2100 := by unfold lineStr; simp; omega
        generalize lineStr s a = u at hcx hpl hno hus
        have Hpl := hide hpl
        have Hno := hide hno
        clear hx hy hjs hpl hno
        rcases Nat.eq_zero_or_pos k with rfl | hpos
        · have ha0 := je_first s a ha
          subst ha0
          have hps := pre_size s 0 (Nat.zero_le _)
          have hp0 : pre s (je s 0) = pre s 0 := rfl
          rw [hp0]
          generalize pre s 0 = og at hps Hpl
          have hos : og.size ≤ 0 := by omega
          clear ha hp0
          go_wp2_with fail
          go_loop [7] (fun j => ∃ n : Nat, n ≤ u.size ∧ j = .int .i64 n) (fun j => u.size - (intOf j).toNat)
          case atStart => exact ⟨0, Nat.zero_le _, rfl⟩
          case round =>
            obtain ⟨n, hn, rfl⟩ := hrel
            by_cases hnl : n < u.size
            · have hb : ((u[n].toNat : Int) == 10) = false := beq_eq_false_iff_ne.2 (by have := Hno.out n hnl; omega)
              go_wp2
              go_round
              case rel => exact ⟨n + 1, by omega, by go_num⟩
              case measure => simp [intOf]; omega
            · go_wp2
              go_round
              case rel => exact ⟨0 + 1, by omega, by go_num, congrArg Value.string Hpl.out⟩
              case measure => simp [intOf]; omega
        · obtain ⟨m, rfl⟩ : ∃ m, k = m + 1 := ⟨k - 1, by omega⟩
          obtain ⟨hn1, hn2, hn3⟩ := je_next s m a ha
          have hps := pre_size s (je s (m + 1)) (by omega)
          have hpn := pre_nl s (je s (m + 1)) hn2 hn3
          generalize je s (m + 1) = e at hn1 hn2 hn3 hps hpn ⊢
          subst hn1
          rw [← hpn] at Hpl
          generalize pre s e = og at hps hpn Hpl ⊢
          clear ha hn3 hpn
          go_wp2_with fail
          go_loop [7] (fun j => ∃ n : Nat, n ≤ u.size ∧ j = .int .i64 n) (fun j => u.size - (intOf j).toNat)
          case atStart => exact ⟨0, Nat.zero_le _, rfl⟩
          case round =>
            obtain ⟨n, hn, rfl⟩ := hrel
            by_cases hnl : n < u.size
            · have hb : ((u[n].toNat : Int) == 10) = false := beq_eq_false_iff_ne.2 (by have := Hno.out n hnl; omega)
              go_wp2
              go_round
              case rel => exact ⟨n + 1, by omega, by go_num⟩
              case measure => simp [intOf]; omega
            · go_wp2
              go_round
              case rel => exact ⟨m + 1 + 1, by omega, by go_num, congrArg Value.string Hpl.out⟩
              case measure => simp [intOf]; omega
      · have hkL : L = k := by omega
        subst hkL
        rcases Nat.eq_zero_or_pos s.size with h0 | h0
        · have hL0 : L = 0 := by
            have h1 := upto_len (isStart s.data.toList) s.size
            have h2 := HL.out
            unfold starts at h2
            omega
          subst hL0
          have hfin : pre s (je s 0) = s := pre_all s _ h0.symm
          have d0 : ((s.size : Int) == 0) = true := beq_iff_eq.2 (by omega)
          rw [hfin]
          clear h0 hfin
          go_wp2
          go_ret
          exact ⟨rfl, Hb.out⟩
        · have hL1 : 1 ≤ L := by
            have h1 := starts_len s.data.toList (by rw [size_list]; exact h0)
            have h2 := HL.out
            rw [size_list] at h1
            omega
          have d0 : ((s.size : Int) == 0) = false := beq_eq_false_iff_ne.2 (by omega)
          have d1 : ((L : Int) == 0) = false := beq_eq_false_iff_ne.2 (by omega)
          rcases je_last s L h0 HL.out with ⟨e1, hp, e3⟩ | ⟨e1, hp, e3⟩
          · have hfin : pre s (je s L) = s := pre_all s _ e1
            have d2 : ((s[s.size - 1].toNat : Int) == 10) = false := beq_eq_false_iff_ne.2 (by omega)
            rw [hfin]
            clear e1 e3 hfin
            go_wp2
            go_ret
            exact ⟨rfl, Hb.out⟩
          · have hfin : pre s (je s L) = s.extract 0 (s.size - 1) := by rw [e1]; rfl
            have d2 : ((s[s.size - 1].toNat : Int) == 10) = true := beq_iff_eq.2 (by omega)
            rw [hfin]
            clear e1 e3 hfin
            go_wp2
            go_ret
            exact ⟨rfl, Hb.out⟩

end Go.Proofs.Ytniapakheegijaa
