/- Walks of layer 3's functions: V5. -/
import Derived.Test.YtfljmnjcoagbmaaV4
import Derived.Deep.QuietTactic
import Derived.BigQuiet
namespace Go.Proofs.Ytfljmnjcoagbmaa
open Go.RowKit
open Go.Lib (byteCells strCells)

theorem incr_cons (p z : Int) (l : List Int) : incr p (z :: l) = (decide (p < z) && incr z l) := rfl
theorem num_drop (xs : List Int) (k : Nat) (z : Int) (h : xs[k]? = some z) : xs.drop k = z :: xs.drop (k + 1) := by
  have hk := (List.getElem?_eq_some_iff.1 h).1
  rw [List.drop_eq_getElem_cons hk, (List.getElem?_eq_some_iff.1 h).2]

set_option maxRecDepth 20000 in
set_option maxHeartbeats 1600000 in
theorem incr59 (A : Option Addr) (n c : Nat) (xs : List Int) (w : World) (h : Sl w A n c (numCells xs)) :
    Calls Try.prog 59 #[.slice A n c] w fun e w' => e = .returned (.bool (incr (-1) xs)) ∧ w = w' := by
  have hc := h.2.1
  have hnc := h.1
  have hlen := h.nlen
  have Hlen := hide hlen
  have H := hide h
  obtain ⟨r, hr⟩ : ∃ r, incr (-1) xs = r := ⟨_, rfl⟩
  rw [hr]
  have Hr := hide hr
  clear h hlen hr
  go_enter Try.func59, Try.ntmps59
  go_wp2
  go_loop [3, 8] (fun x y => ∃ (k : Nat) (p : Int), k ≤ n ∧ y = .int .i64 k ∧ x = .int .i64 p ∧ incr p (xs.drop k) = r) (fun _ y => n - (intOf y).toNat)
  case atStart => exact ⟨0, -1, Nat.zero_le _, rfl, rfl, Hr.out⟩
  case round =>
    obtain ⟨k, p, hk, rfl, rfl, hi⟩ := hrel
    by_cases hlt : k < n
    · obtain ⟨ad, z, rfl, hz, hcell⟩ := num_cell H.out.reads hlt
      rw [num_drop xs k z hz, incr_cons] at hi
      by_cases hpz : p < z
      · rw [decide_eq_true hpz, Bool.true_and] at hi
        have Hi := hide hi
        clear hi hz
        go_wp2
        go_round
        case rel => exact ⟨k + 1, z, by omega, by go_num, rfl, Hi.out⟩
        case measure => simp [intOf]; omega
      · rw [decide_eq_false hpz, Bool.false_and] at hi
        have hpz' : z ≤ p := by omega
        have Hi := hide hi
        clear hi hz hpz
        go_wp2
        go_ret
        exact ⟨ret_bool Hi.out, rfl⟩
    · rw [List.drop_of_length_le (by rw [Hlen.out]; omega)] at hi
      have Hi := hide hi
      clear hi
      go_wp2
      go_ret
      exact ⟨ret_bool Hi.out, rfl⟩

theorem dif_cons (p z : Int) (l : List Int) : dif p (z :: l) = enc (z - p).toNat ++ dif z l := rfl
theorem putL_no (b : List UInt8) (l : List Int) (h : incr (-1) l = false) : putL b l = ([], 1) := by unfold putL; rw [h]; rfl
theorem putL_yes (b : List UInt8) (l : List Int) (h : incr (-1) l = true) : putL b l = (b ++ (enc l.length ++ dif 0 l), 0) := by unfold putL; rw [if_pos h]; rfl

set_option maxRecDepth 20000 in
set_option maxHeartbeats 1600000 in
theorem putl41 (A A' : Option Addr) (n c n' c' : Nat) (b : List UInt8) (xs : List Int) (w : World) (hb : Sl w A n c (byteCells b)) (h : Sl w A' n' c' (numCells xs)) (hn : n ≤ 100000000) (hn' : n' ≤ 10000000) (hw : ∀ z ∈ xs, z ≤ 9223372036854775807) :
    Calls Try.prog 41 #[.slice A n c, .slice A' n' c'] w (PutL w (putL b xs)) := by
  have hc' := h.2.1
  have hnc' := h.1
  have hlen := h.nlen
  have Hlen := hide hlen
  have hblen := hb.len
  have Hblen := hide hblen
  have Hw := hide hw
  have H := hide h
  have HB := hide hb
  clear h hlen hblen hw hb
  cases hr : incr (-1) xs with
  | false =>
    rw [putL_no b xs hr]
    have Hr := hide hr
    clear hr
    go_enter Try.func41, Try.ntmps41
    go_wp2_with fail
    refine (incr59 A' n' c' xs w H.out).mono ?_
    rintro e w' ⟨rfl, rfl⟩
    rw [Hr.out]
    go_wp2
    go_ret2
    exact ⟨_, rfl, World.ownsRow_nil _ _ _ _, Below.refl _ _⟩
  | true =>
    rw [putL_yes b xs hr, Hlen.out]
    obtain ⟨T, hT⟩ : ∃ T, b ++ (enc n' ++ dif 0 xs) = T := ⟨_, rfl⟩
    rw [hT]
    have HT := hide hT
    have Hr := hide hr
    clear hr hT
    go_enter Try.func41, Try.ntmps41
    go_wp2_with fail
    refine (incr59 A' n' c' xs w H.out).mono ?_
    rintro e w' ⟨rfl, rfl⟩
    rw [Hr.out]
    go_wp2_with fail
    with_reducible refine (put39 A n c b _ w HB.out (by omega) (by omega)).mono ?_
    rintro e w1 ⟨v, rfl, hown, hbel⟩
    rw [Int.toNat_natCast] at hown
    have Hown := hide hown
    have Hb := hide hbel
    have H9 := enc_len9 n' (by omega)
    clear hown hbel
    go_wp2
    go_loopw [0, 6, 18] (fun u x y wr => ∃ (k : Nat) (p last : Int) (done : List UInt8), k ≤ n' ∧ y = .int .i64 k ∧ x = .int .i64 last ∧ -1 ≤ p ∧ p ≤ last ∧ 0 ≤ last ∧ last ≤ p + 1 ∧ done.length ≤ n + 9 + 9 * k ∧ incr p (xs.drop k) = true ∧ (p = last ∨ p = -1) ∧ done ++ dif last (xs.drop k) = T ∧ Own wr w.heap.size 5 u (byteCells done) ∧ Below w.heap.size w wr) (fun _ _ y _ => n' - (intOf y).toNat)
    case atStart => exact ⟨0, -1, 0, b ++ enc n', by omega, rfl, rfl, by omega, by omega, by omega, by omega, by rw [List.length_append, Hblen.out]; omega, Hr.out, Or.inr rfl, by rw [List.append_assoc]; exact HT.out, Hown.out, Hb.out⟩
    case round =>
      clear Hown Hb
      obtain ⟨k, p, last, done, hk, rfl, rfl, hp1, hp2, hl0, hl1, hdl, hi, hpl, hT, hown, hbel⟩ := hrel
      have hsz := hbel.size
      have Hown := hide hown
      have Hb := hide hbel
      have HT2 := hide hT
      have Hpl := hide hpl
      clear hown hbel hT hpl
      by_cases hlt : k < n'
      · obtain ⟨ad, z, rfl, hz, hcell⟩ := num_cell (H.out.below Hb.out).reads hlt
        have hdr := num_drop xs k z hz
        rw [hdr, incr_cons, Bool.and_eq_true, decide_eq_true_iff] at hi
        have hT2 := HT2.out
        rw [hdr, dif_cons, ← List.append_assoc] at hT2
        have HT3 := hide hT2
        have hzm := Hw.out z (List.mem_of_getElem? hz)
        obtain ⟨hpz, hi2⟩ := hi
        have Hi2 := hide hi2
        have H9z := enc_len9 (z - last).toNat (by omega)
        have hzl : last ≤ z := by rcases Hpl.out with e | e <;> omega
        clear hdr hT2 hz hi2 HT2
        go_wp2_with fail
        with_reducible refine (app56 w.heap.size _ done _ _ hsz Hown.out.src (by omega) (by omega)).mono ?_
        rintro e w2 ⟨v2, rfl, hown2, hb2⟩
        have Hown2 := hide hown2
        have Hb2 := hide hb2
        clear hown2 hb2
        go_wp2
        go_roundw
        case rel => exact ⟨k + 1, z, z, _, by omega, by go_num, rfl, by omega, by omega, by omega, by omega, by rw [List.length_append]; omega, Hi2.out, Or.inl rfl, HT3.out, Hown2.out, Hb.out.trans Hb2.out⟩
        case measure => simp [intOf]; omega
      · have hT2 := HT2.out
        rw [List.drop_of_length_le (by rw [Hlen.out]; omega), show dif last [] = [] from rfl, List.append_nil] at hT2
        subst hT2
        clear HT2 hi
        go_wp2
        go_ret2
        exact ⟨_, rfl, Hown.out, Hb.out⟩

end Go.Proofs.Ytfljmnjcoagbmaa
