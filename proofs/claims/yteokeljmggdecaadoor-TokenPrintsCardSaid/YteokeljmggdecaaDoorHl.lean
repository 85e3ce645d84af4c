/- Walks of layer 11's program: strings.Cut at a line feed, skipped, content. -/
import Derived.Test.YteokeljmggdecaaDoorHk
namespace Go.Proofs.YteokeljmggdecaaDoor
open Go.RowKit

/-- What follows the first line feed. -/
def aftS : List UInt8 → List UInt8
  | [] => []
  | c :: r => if c = 10 then r else aftS r
theorem skB_true (r : List UInt8) : skB true r = skS (aftS r) := by
  induction r with
  | nil => rfl
  | cons c r ih =>
    simp only [skB, aftS]
    split
    · rfl
    · exact ih
theorem aft_len (r : List UInt8) : (aftS r).length ≤ r.length := by
  induction r with
  | nil => exact Nat.le_refl _
  | cons c r ih =>
    simp only [aftS]
    split
    · simp
    · simp only [List.length_cons]; omega
theorem sk_blank (r : List UInt8) : skS r = skS (r.dropWhile blB) := by
  induction r with
  | nil => rfl
  | cons c r ih =>
    simp only [List.dropWhile]
    cases hb : blB c with
    | true =>
      simp only
      rw [← ih, skS, skB.eq_2, if_pos hb]
    | false => rfl
theorem drop_head (r : List UInt8) : ∀ c x, r.dropWhile blB = c :: x → blB c = false := by
  induction r with
  | nil => intro c x h; cases h
  | cons a r ih =>
    intro c x h
    simp only [List.dropWhile] at h
    cases hb : blB a with
    | true => rw [hb] at h; exact ih c x h
    | false =>
      rw [hb] at h
      injection h with h _
      subst h
      exact hb
def slB (r : List UInt8) : Bool := Lib.hasPrefix r [47, 47]
theorem slB_yes {r : List UInt8} (h : slB r = true) : ∃ x, r = 47 :: 47 :: x := by
  unfold slB Lib.hasPrefix at h
  match r with
  | [] => cases h
  | [a] =>
    simp only [List.isPrefixOf, Bool.and_false] at h
    cases h
  | a :: b :: x =>
    simp only [List.isPrefixOf, Bool.and_true, Bool.and_eq_true, beq_iff_eq] at h
    exact ⟨x, by rw [← h.1, ← h.2]⟩
theorem slB_no {r : List UInt8} (h : slB r = false) : ¬ ∃ x, r = 47 :: 47 :: x := by
  rintro ⟨x, rfl⟩
  cases h
/-- One round of skipping. -/
theorem sk_round (r : List UInt8) : skS r = if slB (r.dropWhile blB) = true then skS (aftS (r.dropWhile blB)) else r.dropWhile blB := by
  rw [sk_blank]
  have hd := drop_head r
  obtain ⟨t, ht⟩ : ∃ t, r.dropWhile blB = t := ⟨_, rfl⟩
  rw [ht] at hd ⊢
  by_cases h : slB t = true
  · rw [if_pos h]
    obtain ⟨x, rfl⟩ := slB_yes h
    have : blB 47 = false := by decide
    rw [skS, skB.eq_2, if_neg (by rw [this]; decide), if_pos ⟨rfl, rfl⟩, skB_true]
    rfl
  · rw [if_neg h]
    have hno := slB_no (by simpa using h)
    exact Bare.sk fun c x e => ⟨hd c x e, fun ⟨h1, h2⟩ => hno (by
      cases x with
      | nil => cases h2
      | cons b x =>
        injection h2 with h2
        exact ⟨x, by rw [e, h1, h2]⟩)⟩
theorem trim_is (r : List UInt8) : Lib.trimLeftS r [32, 9, 10] = r.dropWhile blB := by
  unfold Lib.trimLeftS
  congr 1
  funext c
  show [32, 9, 10].contains c = blB c
  unfold blB
  rw [Bool.eq_iff_iff, List.contains_iff_mem]
  simp [or_assoc]
theorem idx_aft : ∀ l : List UInt8, (∃ n : Nat, Lib.indexByte l 10 = (n : Int) ∧ n < l.length ∧ l.drop (n + 1) = aftS l) ∨ (Lib.indexByte l 10 < 0 ∧ aftS l = [])
  | [] => Or.inr ⟨by decide, rfl⟩
  | x :: l => by
    unfold Lib.indexByte aftS
    by_cases hx : x = 10
    · rw [if_pos hx, if_pos (beq_iff_eq.2 hx)]
      exact Or.inl ⟨0, rfl, by simp, rfl⟩
    · rw [if_neg hx, if_neg (by simp [hx])]
      rcases idx_aft l with ⟨n, h1, h2, h3⟩ | ⟨h1, h2⟩
      · refine Or.inl ⟨n + 1, ?_, by simpa using h2, h3⟩
        rw [h1, if_neg (by simp)]
        rfl
      · refine Or.inr ⟨?_, h2⟩
        have := Lib.indexByte_ge l 10
        have hz : Lib.indexByte l 10 = -1 := by omega
        rw [hz]
        decide

/-- What strings.Cut hands back at a line feed. -/
def CutG (w : World) (l : List UInt8) (e : Ending) (w' : World) : Prop := ∃ (a r : ByteArray) (b : Bool), e = .returned (.tuple #[.string a, .string r, .bool b]) ∧ r = bs (aftS l) ∧ Below w.heap.size w w'
set_option maxRecDepth 20000 in
set_option maxHeartbeats 3200000 in
theorem scut (s : ByteArray) (hl : s.size ≤ 1000000) (w : World) : Calls Tryd.prog 78 #[.string s, .string ⟨#[10]⟩] w (CutG w s.data.toList) := by
  have HI := hide (Tryd.stringslite_Index_one s 10 w)
  rcases idx_aft s.data.toList with ⟨n, h1, hlt, h3⟩ | ⟨hi, h2⟩
  · rw [h1] at HI
    rw [size_list] at hlt
    have Hn := hide h3
    have g1 : (n : Int) ≤ (s.size : Int) := by omega
    have g2 : (n : Int) + 1 ≤ (s.size : Int) := by omega
    have g3 : (s.size : Int) ≤ 1000000 := by omega
    clear h1 h3
    go_enter Tryd.func78, Tryd.ntmps78
    go_wp2_with fail
    with_reducible refine HI.out.mono ?_
    rintro e w1 ⟨rfl, rfl⟩
    go_wp2
    go_quiet (fail)
    go_wp2
    go_ret3
    refine ⟨_, _, _, rfl, ?_, Drawn.below ⟨nq, rfl⟩ _⟩
    rw [← Hn.out, ← bs_drop]
  · obtain ⟨z, hz⟩ : ∃ z, Lib.indexByte s.data.toList 10 = z := ⟨_, rfl⟩
    rw [hz] at HI hi
    have hz' : ¬ 0 ≤ z := by omega
    have Hn := hide h2
    clear h2 hz
    go_enter Tryd.func78, Tryd.ntmps78
    go_wp2_with fail
    with_reducible refine HI.out.mono ?_
    rintro e w1 ⟨rfl, rfl⟩
    go_wp2
    go_ret3
    exact ⟨_, _, _, rfl, by rw [Hn.out]; rfl, Below.refl _ _⟩
set_option maxRecDepth 20000 in
theorem pcut (s : ByteArray) (hl : s.size ≤ 1000000) (w : World) : Calls Tryd.prog 58 #[.string s, .string ⟨#[10]⟩] w (CutG w s.data.toList) := by
  have HI := hide (scut s hl w)
  go_enter Tryd.func58, Tryd.ntmps58
  go_wp2_with fail
  with_reducible refine HI.out.mono ?_
  rintro e w1 ⟨a, r, b, rfl, h⟩
  have H := hide h
  clear h
  go_wp2
  go_ret3
  exact ⟨a, r, b, rfl, H.out⟩

def lenOf : Value → Nat
  | .string s => s.size
  | _ => 0
theorem ascii3 : ∀ (j : Nat) (b : UInt8), (⟨#[32, 9, 10]⟩ : ByteArray).data.toList[j]? = some b → b.toNat < 128 := by
  intro j b h
  have : b ∈ [32, 9, 10] := List.mem_of_getElem? h
  simp at this
  rcases this with rfl | rfl | rfl <;> decide
theorem dw_len (p : UInt8 → Bool) (r : List UInt8) : (r.dropWhile p).length ≤ r.length := by
  induction r with
  | nil => exact Nat.le_refl _
  | cons c r ih =>
    simp only [List.dropWhile]
    split
    · simp only [List.length_cons]; omega
    · exact Nat.le_refl _
set_option maxRecDepth 20000 in
set_option maxHeartbeats 3200000 in
theorem pskipped (s : ByteArray) (hs : s.size ≤ 1000000) (w : World) : Calls Tryd.prog 36 #[.string s] w fun e w' => e = .returned (.string (bs (skS s.data.toList))) ∧ Below w.heap.size w w' := by
  obtain ⟨P, hP⟩ : ∃ P, skS s.data.toList = P := ⟨_, rfl⟩
  rw [hP]
  have HP := hide hP
  clear hP
  go_enter Tryd.func36, Tryd.ntmps36
  go_wp2_with fail
  go_loopw [0] (fun x wr => ∃ s1 : ByteArray, x = .string s1 ∧ s1.size ≤ 1000000 ∧ skS s1.data.toList = P ∧ Below w.heap.size w wr) (fun x _ => lenOf x)
  case atStart => exact ⟨s, rfl, hs, HP.out, Below.refl _ _⟩
  case round =>
    clear HP hs
    obtain ⟨s1, rfl, hs1, hsk, hb⟩ := hrel
    obtain ⟨w1, hw1⟩ : ∃ w1, w1 = wr := ⟨wr, rfl⟩
    subst hw1
    have HT := Tryd.strings_TrimLeft_laid s1 ⟨#[32, 9, 10]⟩ w1 (by decide) ascii3
    rw [show (⟨#[32, 9, 10]⟩ : ByteArray).data.toList = [32, 9, 10] from rfl, trim_is] at HT
    rw [sk_round] at hsk
    have hdl := dw_len blB s1.data.toList
    rw [size_list] at hdl
    obtain ⟨t, ht⟩ : ∃ t, s1.data.toList.dropWhile blB = t := ⟨_, rfl⟩
    rw [ht] at HT hsk hdl
    obtain ⟨T, hT⟩ : ∃ T, (⟨t.toArray⟩ : ByteArray) = T := ⟨_, rfl⟩
    rw [hT] at HT
    have hTl : T.data.toList = t := by rw [← hT]
    have hTs : T.size = t.length := by rw [← size_list, hTl]
    have HH := fun W => Tryd.strings_HasPrefix T ⟨#[47, 47]⟩ W
    rw [hTl, show (⟨#[47, 47]⟩ : ByteArray).data.toList = [47, 47] from rfl] at HH
    obtain ⟨q, hq⟩ : ∃ q, Lib.hasPrefix t [47, 47] = q := ⟨_, rfl⟩
    rw [hq] at HH
    rw [show slB t = q from hq] at hsk
    have HB := hide hb
    have HT' := hide HT
    have HH' := hide HH
    have HTl := hide hTl
    have HTs := hide hTs
    have Hdl := hide hdl
    have Hq := hide hq
    clear hb HT HH hTl hTs hT ht hdl hq
    cases q with
    | true =>
      rw [if_pos rfl] at hsk
      have hal := aft_len t
      have hlt : (aftS t).length < s1.size := by
        obtain ⟨x, rfl⟩ := slB_yes (show slB t = true from Hq.out)
        have h1 := Hdl.out
        have h2 : aftS (47 :: 47 :: x) = aftS x := rfl
        have h3 := aft_len x
        rw [h2]
        simp only [List.length_cons] at h1
        omega
      have Hsk := hide hsk
      have HC := hide (pcut T (by have := HTs.out; have := Hdl.out; omega))
      rw [HTl.out] at HC
      obtain ⟨n, hn⟩ : ∃ n, (aftS t).length = n := ⟨_, rfl⟩
      rw [hn] at hlt
      have Hn := hide hn
      clear hsk hal hn
      go_wp2_with fail
      with_reducible refine HT'.out.mono ?_
      rintro e w2 ⟨rfl, hb2⟩
      have HB2 := hide (HB.out.trans (hb2.mono HB.out.size))
      clear hb2
      go_wp2_with fail
      with_reducible refine (HH'.out _).mono ?_
      rintro e w3 ⟨rfl, rfl⟩
      go_wp2_with fail
      with_reducible refine (HC.out _).mono ?_
      rintro e w4 ⟨a, r, b, rfl, hr, hb4⟩
      have Hr := hide (show r.data.toList = aftS t by rw [hr, bs_list])
      have Hrs := hide (show r.size = n by rw [hr, bs_size, Hn.out])
      have HB4 := hide (HB2.out.trans (hb4.mono HB2.out.size))
      clear hr hb4
      go_wp2
      go_roundw
      case rel => exact ⟨r, rfl, by rw [Hrs.out]; omega, by rw [Hr.out]; exact Hsk.out, HB4.out⟩
      case measure => simp only [lenOf]; rw [Hrs.out]; exact hlt
    | false =>
      rw [if_neg (by decide)] at hsk
      have Hy := hide (show T = bs P by rw [← hsk, ← HTl.out, bs_self])
      clear hsk
      go_wp2_with fail
      with_reducible refine HT'.out.mono ?_
      rintro e w2 ⟨rfl, hb2⟩
      have HB2 := hide (HB.out.trans (hb2.mono HB.out.size))
      clear hb2
      go_wp2_with fail
      with_reducible refine (HH'.out _).mono ?_
      rintro e w3 ⟨rfl, rfl⟩
      go_wp2
      go_ret
      exact ⟨ret_str Hy.out, HB2.out⟩
end Go.Proofs.YteokeljmggdecaaDoor
