/- Frames, over lists of bytes; no program. Beside it under one name: Ytpgoglkgaeccnaa's Pl and Pm (numbers as bytes) and Crc. -/
import Derived.Test.YtandmdmgleeogaaPm
import Derived.Test.YtandmdmgleeogaaCrc
namespace Go.Proofs.Ytandmdmgleeogaa

def headP (b : List UInt8) : List UInt8 := enc b.length ++ b
def sealP (b : List UInt8) : List UInt8 := headP b ++ four (sumP (headP b))

/-- Open: the bytes, the index after the frame, the error. -/
def openP (l : List UInt8) (i most : Int) : List UInt8 × Nat × Nat :=
  if (getP l i).2.2 ≠ 0 then ([], 0, (getP l i).2.2)
  else if most < ((getP l i).1 : Int) then ([], 0, 4)
  else if l.length < (getP l i).2.1 + (getP l i).1 + 4 then ([], 0, 5)
  else if (l.drop ((getP l i).2.1 + (getP l i).1)).take 4 = four (sumP ((l.drop i.toNat).take ((getP l i).2.1 + (getP l i).1 - i.toNat))) then ((l.drop (getP l i).2.1).take (getP l i).1, (getP l i).2.1 + (getP l i).1 + 4, 0)
  else ([], 0, 6)

/-- All, from an index on. -/
def allP (l : List UInt8) (most : Int) : Nat → List (List UInt8) → Nat → List (List UInt8) × Nat
  | 0, xs, k => (xs, k)
  | f + 1, xs, k =>
    if l.length ≤ k then (xs, k)
    else if (openP l (k : Int) most).2.2 ≠ 0 then (xs, k)
    else allP l most f (xs ++ [(openP l (k : Int) most).1]) (openP l (k : Int) most).2.1

theorem four_len (n : Nat) : (four n).length = 4 := rfl
theorem seal_len (b : List UInt8) : (sealP b).length = (enc b.length).length + b.length + 4 := by
  unfold sealP headP
  rw [List.length_append, List.length_append, four_len]

/-- A frame with these four bytes behind it. -/
theorem open_body (a b t c : List UInt8) (most : Int) (hb : b.length ≤ big) (hm : (b.length : Int) ≤ most) (ht : t.length = 4) :
    openP (a ++ (headP b ++ (t ++ c))) (a.length : Int) most = if t = four (sumP (headP b)) then (b, a.length + (headP b).length + 4, 0) else ([], 0, 6) := by
  have hg := getP_back a (b ++ (t ++ c)) b.length hb
  have hl : a ++ (headP b ++ (t ++ c)) = a ++ (enc b.length ++ (b ++ (t ++ c))) := by unfold headP; simp only [List.append_assoc]
  have hh : (headP b).length = (enc b.length).length + b.length := by unfold headP; rw [List.length_append]
  have e1 : (a ++ (headP b ++ (t ++ c))).drop (a.length + (headP b).length) = t ++ c := by rw [← List.append_assoc, ← List.length_append, List.drop_left]
  have e2 : (t ++ c).take 4 = t := by rw [← ht, List.take_left]
  have e3 : ((a ++ (headP b ++ (t ++ c))).drop a.length).take (headP b).length = headP b := by rw [List.drop_left, List.take_left]
  have e4 : ((a ++ (headP b ++ (t ++ c))).drop (a.length + (enc b.length).length)).take b.length = b := by
    rw [hl, ← List.append_assoc, ← List.length_append, List.drop_left, List.take_left]
  unfold openP
  rw [← hl] at hg
  rw [hg]
  simp only
  rw [if_neg (by simp), if_neg (by omega), if_neg (by simp only [List.length_append]; omega), Int.toNat_natCast, show a.length + (enc b.length).length + b.length = a.length + (headP b).length by omega, e1, e2,
    show a.length + (headP b).length - a.length = (headP b).length by omega, e3, e4]
theorem open_back (a b c : List UInt8) (most : Int) (hb : b.length ≤ big) (hm : (b.length : Int) ≤ most) : openP (a ++ (sealP b ++ c)) (a.length : Int) most = (b, a.length + (sealP b).length, 0) := by
  have h := open_body a b (four (sumP (headP b))) c most hb hm rfl
  rw [if_pos rfl] at h
  have e : a ++ (sealP b ++ c) = a ++ (headP b ++ (four (sumP (headP b)) ++ c)) := by unfold sealP; rw [List.append_assoc]
  have e2 : (sealP b).length = (headP b).length + 4 := by unfold sealP; rw [List.length_append, four_len]
  rw [e, h, e2, Nat.add_assoc]
/-- The checksum changed. -/
theorem open_tail (a b t c : List UInt8) (most : Int) (hb : b.length ≤ big) (hm : (b.length : Int) ≤ most) (ht : t.length = 4) (hne : t ≠ four (sumP (headP b))) : openP (a ++ (headP b ++ (t ++ c))) (a.length : Int) most = ([], 0, 6) := by
  rw [open_body a b t c most hb hm ht, if_neg hne]
theorem sum_lt (l : List UInt8) : sumP l < 2 ^ 32 := ext_lt 0 l (by decide)
/-- The content changed within four bytes. -/
theorem open_burst (a u p q v c : List UInt8) (most : Int) (hl : p.length = q.length) (h4 : p.length ≤ 4) (hne : p ≠ q) (hb : (u ++ (p ++ v)).length ≤ big) (hm : ((u ++ (p ++ v)).length : Int) ≤ most) :
    openP (a ++ (headP (u ++ (q ++ v)) ++ (four (sumP (headP (u ++ (p ++ v)))) ++ c))) (a.length : Int) most = ([], 0, 6) := by
  have hlen : (u ++ (q ++ v)).length = (u ++ (p ++ v)).length := by simp only [List.length_append]; omega
  refine open_tail a (u ++ (q ++ v)) _ c most (by omega) (by omega) (four_len _) fun h => hne ?_
  have h2 := four_inj _ _ (sum_lt _) (sum_lt _) h
  unfold headP at h2
  rw [hlen, ← List.append_assoc, ← List.append_assoc (enc _) u (q ++ v)] at h2
  exact sum_burst _ p q v hl h4 h2

/-! ### Frames one after the other, cut off -/
def sealsP : List (List UInt8) → List UInt8
  | [] => []
  | b :: l => sealP b ++ sealsP l
/-- How many frames are there as a whole, and how many bytes they take. -/
def wholeP : List (List UInt8) → Nat → Nat
  | [], _ => 0
  | b :: l, r => if (sealP b).length ≤ r then wholeP l (r - (sealP b).length) + 1 else 0
def spanP : List (List UInt8) → Nat → Nat
  | [], _ => 0
  | b :: l, r => if (sealP b).length ≤ r then (sealP b).length + spanP l (r - (sealP b).length) else 0

/-- A frame that is cut off is not opened. -/
theorem open_cut (a b : List UInt8) (r : Nat) (most : Int) (hb : b.length < 128) (hm : (b.length : Int) ≤ most) (h0 : 0 < r) (hr : r < (sealP b).length) : (openP (a ++ (sealP b).take r) (a.length : Int) most).2.2 ≠ 0 := by
  have he := enc_low b.length hb
  have hs := seal_len b
  rw [he] at hs
  obtain ⟨d, hd⟩ : ∃ d, (sealP b).take r = enc b.length ++ d := by
    refine ⟨((sealP b).take r).drop 1, ?_⟩
    have h1 : (sealP b).take r = UInt8.ofNat b.length :: (b ++ four (sumP (headP b))).take (r - 1) := by
      unfold sealP headP
      rw [he, show r = (r - 1) + 1 by omega]
      rfl
    rw [h1, he]
    rfl
  have hg := getP_back a d b.length (by unfold big; omega)
  have hl : ((sealP b).take r).length = r := by rw [List.length_take]; omega
  have hs1 : (sealP b).length = 1 + b.length + 4 := hs
  unfold openP
  rw [← hd] at hg
  rw [hg, he]
  simp only
  rw [if_neg (by simp), if_neg (by omega), if_pos (by rw [List.length_append, hl]; show a.length + r < a.length + 1 + b.length + 4; omega)]
  decide

theorem all_torn (most : Int) : ∀ (L : List (List UInt8)) (a : List UInt8) (r f : Nat) (xs : List (List UInt8)), (∀ b ∈ L, b.length < 128 ∧ (b.length : Int) ≤ most) → r ≤ (sealsP L).length → L.length < f →
    allP (a ++ (sealsP L).take r) most f xs a.length = (xs ++ L.take (wholeP L r), a.length + spanP L r)
  | [], a, r, f + 1, xs, _, hr, _ => by
    have : r = 0 := by simpa [sealsP] using hr
    subst this
    unfold allP
    rw [if_pos (by simp [sealsP])]
    simp [wholeP, spanP]
  | [], _, _, 0, _, _, _, hf => by simp at hf
  | _ :: _, _, _, 0, _, _, _, hf => by simp at hf
  | b :: L, a, r, f + 1, xs, hb, hr, hf => by
    have hb0 := hb b (by simp)
    have hsl : (sealsP (b :: L)).length = (sealP b).length + (sealsP L).length := by show (sealP b ++ sealsP L).length = _; rw [List.length_append]
    unfold wholeP spanP
    by_cases hw : (sealP b).length ≤ r
    · rw [if_pos hw, if_pos hw]
      have ht : (sealsP (b :: L)).take r = sealP b ++ (sealsP L).take (r - (sealP b).length) := by
        show (sealP b ++ sealsP L).take r = _
        rw [List.take_append, List.take_of_length_le hw]
      have ho := open_back a b ((sealsP L).take (r - (sealP b).length)) most (by unfold big; omega) hb0.2
      have ih := all_torn most L (a ++ sealP b) (r - (sealP b).length) f (xs ++ [b]) (fun c hc => hb c (by simp [hc])) (by omega) (by simpa using hf)
      have hpos : 0 < (sealP b).length := by rw [seal_len]; omega
      rw [ht]
      unfold allP
      rw [if_neg (by simp only [List.length_append]; omega), ho, if_neg (by simp)]
      show allP _ most f (xs ++ [b]) (a.length + (sealP b).length) = _
      rw [← List.append_assoc, ← List.length_append, ih, List.take_succ_cons, List.append_assoc, List.length_append, Nat.add_assoc]
      rfl
    · rw [if_neg hw, if_neg hw, List.take_zero, List.append_nil]
      have ht : (sealsP (b :: L)).take r = (sealP b).take r := by
        show (sealP b ++ sealsP L).take r = _
        rw [List.take_append, show r - (sealP b).length = 0 by omega, List.take_zero, List.append_nil]
      rw [ht]
      unfold allP
      by_cases h0 : r = 0
      · subst h0
        rw [if_pos (by simp), Nat.add_zero]
      · rw [if_neg (by rw [List.length_append, List.length_take]; omega), if_pos (open_cut a b r most hb0.1 hb0.2 (by omega) (by omega)), Nat.add_zero]

end Go.Proofs.Ytandmdmgleeogaa
