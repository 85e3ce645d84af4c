/- Walks of layer 8's reference: ranges (as the elements of a set). -/
import Derived.Test.YtmiegjefmebpdaaGreatDoorK8
namespace Go.Proofs.YtmiegjefmebpdaaGreatDoor
open Go.RowKit

/-- What ranges returns. -/
def rpA (l : List (UInt8 × UInt8)) : ByteArray := match rangesP l with | some s => bs s | none => bs []
def rpB (l : List (UInt8 × UInt8)) : Bool := (rangesP l).isSome
theorem quoted_len (c : UInt8) (esc : List UInt8) : (quoted c esc).length ≤ 2 := by
  unfold quoted
  split
  · simp
  · split
    · simp
    · split <;> simp
theorem elem_len (r : UInt8 × UInt8) : (elemS r).length ≤ 5 := by
  have h1 := quoted_len r.1 inSet
  have h2 := quoted_len r.2 inSet
  unfold elemS
  rw [List.length_append]
  split
  · rw [List.length_cons]; omega
  · simp; omega
theorem flat_le (l : List (UInt8 × UInt8)) : (l.flatMap elemS).length ≤ 5 * l.length := by
  induction l with
  | nil => simp
  | cons r l ih =>
    have := elem_len r
    rw [List.flatMap_cons, List.length_append, List.length_cons]
    omega
theorem rp_no {l : List (UInt8 × UInt8)} {r : UInt8 × UInt8} (h : r ∈ l) (hw : ¬ (writable r.1 = true ∧ writable r.2 = true)) : rpA l = bs [] ∧ rpB l = false := by
  have : rangesP l = none := by
    unfold rangesP
    rw [if_neg]
    rw [List.all_eq_true]
    intro ha
    have := ha r h
    rw [Bool.and_eq_true] at this
    exact hw this
  unfold rpA rpB
  rw [this]
  exact ⟨rfl, rfl⟩
theorem rp_yes {l : List (UInt8 × UInt8)} (h : ∀ r ∈ l, writable r.1 = true ∧ writable r.2 = true) : rpA l = bs (l.flatMap elemS) ∧ rpB l = true := by
  have : rangesP l = some (l.flatMap elemS) := by
    unfold rangesP
    rw [if_pos]
    rw [List.all_eq_true]
    intro r hr
    rw [Bool.and_eq_true]
    exact h r hr
  unfold rpA rpB
  rw [this]
  exact ⟨rfl, rfl⟩
theorem rg_take {s : List (UInt8 × UInt8)} {k : Nat} {r : UInt8 × UInt8} (h : s[k]? = some r) : s.take (k + 1) = s.take k ++ [r] := by
  obtain ⟨h1, e⟩ := List.getElem?_eq_some_iff.1 h
  rw [List.take_succ_eq_append_getElem h1, e]

set_option maxRecDepth 20000 in
set_option maxHeartbeats 3200000 in
theorem ranges84 {W : World} {ok : Nat → Prop} {A : Option Addr} {n c : Nat} {l : List (UInt8 × UInt8)} (h : RgS W ok A n c l) (hn : n ≤ 1000) :
    Calls Tryz.prog 84 #[.slice A n c] W fun e w' => e = .returned (.tuple #[.string (rpA l), .bool (rpB l)]) ∧ Below W.heap.size W w' := by
  have hnc := h.1
  have hcc := h.2.1
  have Hlen := hide h.2.2.1
  have H := hide h
  obtain ⟨R, hR⟩ : ∃ R, rpA l = R := ⟨_, rfl⟩
  obtain ⟨T, hT⟩ : ∃ T, rpB l = T := ⟨_, rfl⟩
  have Hno := hide (show ∀ r ∈ l, ¬ (writable r.1 = true ∧ writable r.2 = true) → bs [] = R ∧ false = T from fun r h1 h2 => by
    obtain ⟨a, b⟩ := rp_no h1 h2
    exact ⟨by rw [← hR, a], by rw [← hT, b]⟩)
  have Hyes := hide (show (∀ r ∈ l, writable r.1 = true ∧ writable r.2 = true) → bs (l.flatMap elemS) = R ∧ true = T from fun h => by
    obtain ⟨a, b⟩ := rp_yes h
    exact ⟨by rw [← hR, a], by rw [← hT, b]⟩)
  rw [hR, hT]
  clear h hR hT
  go_enter Tryz.func84, Tryz.ntmps84
  go_wp2
  go_loopw [4, 5] (fun v x wr => ∃ (i : Nat) (X : ByteArray), i ≤ n ∧ x = .int .i64 (i : Int) ∧ v = .string X ∧ X = bs ((l.take i).flatMap elemS) ∧ (∀ r ∈ l.take i, writable r.1 = true ∧ writable r.2 = true) ∧ Below W.heap.size W wr) (fun _ x _ => n - (intOf x).toNat)
  case atStart => exact ⟨0, bs [], Nat.zero_le _, rfl, rfl, rfl, fun r hr => (by simp at hr), Below.refl _ _⟩
  case round =>
    obtain ⟨i, X, hi, rfl, rfl, hX, hm, hb⟩ := hrel
    obtain ⟨w2, hw2⟩ : ∃ w2, w2 = wr := ⟨wr, rfl⟩
    subst hw2
    have hXs : X.size ≤ 5000 := by
      rw [hX, bs_size]
      have := flat_le (l.take i)
      rw [List.length_take] at this
      omega
    have HX := hide hX
    have Hm := hide hm
    have B := hide hb
    clear hX hm
    by_cases hlt : i < n
    · obtain ⟨g, o, r, rfl, hr, c0, c1⟩ := (H.out.below hb).at_ hlt
      have hmem := List.mem_of_getElem? hr
      cases e1 : writable r.1 with
      | false =>
        obtain ⟨rfl, rfl⟩ := Hno.out r hmem (by rw [e1]; rintro ⟨h, _⟩; cases h)
        have E1 := hide e1
        clear e1 hr hmem hb
        go_wp2_with fail
        with_reducible refine (writ82 r.1 false E1.out _).mono ?_
        rintro e w' ⟨rfl, rfl⟩
        go_wp2
        go_ret2
        exact ⟨rfl, B.out⟩
      | true =>
        have E1 := hide e1
        cases e2 : writable r.2 with
        | false =>
          obtain ⟨rfl, rfl⟩ := Hno.out r hmem (by rw [e2]; rintro ⟨_, h⟩; cases h)
          have E2 := hide e2
          clear e1 e2 hr hmem hb
          go_wp2_with fail
          with_reducible refine (writ82 r.1 true E1.out _).mono ?_
          rintro e w' ⟨rfl, rfl⟩
          go_wp2_with fail
          with_reducible refine (writ82 r.2 false E2.out _).mono ?_
          rintro e w' ⟨rfl, rfl⟩
          go_wp2
          go_ret2
          exact ⟨rfl, B.out⟩
        | true =>
          have E2 := hide e2
          have Hm2 := hide (show ∀ x ∈ l.take (i + 1), writable x.1 = true ∧ writable x.2 = true from fun x hx => by
            rw [rg_take hr, List.mem_append, List.mem_singleton] at hx
            rcases hx with hx | rfl
            · exact Hm.out x hx
            · exact ⟨e1, e2⟩)
          have q1 := quoted83 r.1 ⟨#[92, 91, 93, 94, 45]⟩ w2 (by decide)
          rw [show (⟨#[92, 91, 93, 94, 45]⟩ : ByteArray).data.toList = inSet from rfl] at q1
          obtain ⟨Q, hQ⟩ : ∃ Q, bs (quoted r.1 inSet) = Q := ⟨_, rfl⟩
          rw [hQ] at q1
          have hQs : Q.size ≤ 2 := by rw [← hQ, bs_size]; exact quoted_len _ _
          have hXQ : (X ++ Q).size ≤ 5002 := by simp; omega
          have Q1 := hide q1
          have hcell := (hb.cell (p := ⟨g, 0, none⟩))
          by_cases hlo : r.1 < r.2
          · have l1 : decide (r.1.toNat < r.2.toNat) = true := decide_eq_true (UInt8.lt_iff_toNat_lt.1 hlo)
            have l2 : decide (r.1 < r.2) = true := decide_eq_true hlo
            have q2 := fun w => quoted83 r.2 ⟨#[92, 91, 93, 94, 45]⟩ w (by decide)
            rw [show (⟨#[92, 91, 93, 94, 45]⟩ : ByteArray).data.toList = inSet from rfl] at q2
            obtain ⟨Q', hQ'⟩ : ∃ Q', bs (quoted r.2 inSet) = Q' := ⟨_, rfl⟩
            rw [hQ'] at q2
            have hQs' : Q'.size ≤ 2 := by rw [← hQ', bs_size]; exact quoted_len _ _
            have Q2 := hide q2
            have hXm : (X ++ Q ++ (⟨#[45]⟩ : ByteArray)).size ≤ 5003 := by
              have : (⟨#[45]⟩ : ByteArray).size = 1 := rfl
              simp only [ByteArray.size_append] at hXQ ⊢
              omega
            have Hn := hide (show X ++ Q ++ (⟨#[45]⟩ : ByteArray) ++ Q' = bs ((l.take (i + 1)).flatMap elemS) by
              rw [rg_take hr, List.flatMap_append, HX.out, ← hQ, ← hQ', show (⟨#[45]⟩ : ByteArray) = bs [45] from rfl, bs_app, bs_app, bs_app]
              simp [elemS, hlo])
            clear hr hmem hb hQ hQ' q1 q2 e1 e2 hlo hcell
            go_wp2_with fail
            with_reducible refine (writ82 r.1 true E1.out _).mono ?_
            rintro e w' ⟨rfl, rfl⟩
            go_wp2_with fail
            with_reducible refine (writ82 r.2 true E2.out _).mono ?_
            rintro e w' ⟨rfl, rfl⟩
            go_wp2_with fail
            with_reducible refine Q1.out.mono ?_
            rintro e w3 ⟨rfl, hb3⟩
            have d0 := (hb3.cell (World.block_lt_of_cell? _ _ c0)).trans c0
            have d1 := (hb3.cell (World.block_lt_of_cell? _ _ c1)).trans c1
            have B3 := hide (bgo B.out hb3)
            clear hb3 c0 c1
            go_wp2
            go_quiet (fail)
            go_wp2_with fail
            with_reducible refine (Q2.out _).mono ?_
            rintro e w4 ⟨rfl, hb4⟩
            have B4 := hide (bgo (bgo B3.out (Drawn.below ⟨_, rfl⟩ _)) hb4)
            clear hb4
            go_wp2
            go_roundw
            case rel => exact ⟨i + 1, _, by omega, by go_num, rfl, Hn.out, Hm2.out, B4.out⟩
            case measure => simp [intOf]; omega
          · have l1 : decide (r.1.toNat < r.2.toNat) = false := decide_eq_false (by rw [UInt8.lt_iff_toNat_lt] at hlo; omega)
            have l2 : decide (r.1 < r.2) = false := decide_eq_false hlo
            have Hn := hide (show X ++ Q = bs ((l.take (i + 1)).flatMap elemS) by
              rw [rg_take hr, List.flatMap_append, HX.out, ← hQ, bs_app]
              simp [elemS, hlo])
            clear hr hmem hb hQ q1 e1 e2 hlo hcell
            go_wp2_with fail
            with_reducible refine (writ82 r.1 true E1.out _).mono ?_
            rintro e w' ⟨rfl, rfl⟩
            go_wp2_with fail
            with_reducible refine (writ82 r.2 true E2.out _).mono ?_
            rintro e w' ⟨rfl, rfl⟩
            go_wp2_with fail
            with_reducible refine Q1.out.mono ?_
            rintro e w3 ⟨rfl, hb3⟩
            have d0 := (hb3.cell (World.block_lt_of_cell? _ _ c0)).trans c0
            have d1 := (hb3.cell (World.block_lt_of_cell? _ _ c1)).trans c1
            have B3 := hide (bgo B.out hb3)
            clear hb3 c0 c1
            go_wp2
            go_quiet (fail)
            go_wp2
            go_roundw
            case rel => exact ⟨i + 1, _, by omega, by go_num, rfl, Hn.out, Hm2.out, bgo B3.out (Drawn.below ⟨_, rfl⟩ _)⟩
            case measure => simp [intOf]; omega
    · have hall := Hm.out
      have hXe := HX.out
      rw [List.take_of_length_le (by rw [Hlen.out]; omega)] at hall hXe
      obtain ⟨hR, rfl⟩ := Hyes.out hall
      have Hr := hide (hXe.trans hR)
      clear hall hXe hR hb
      go_wp2
      go_ret2
      exact ⟨by rw [Hr.out]; rfl, B.out⟩

end Go.Proofs.YtmiegjefmebpdaaGreatDoor
