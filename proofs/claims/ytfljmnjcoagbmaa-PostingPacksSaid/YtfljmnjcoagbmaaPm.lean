/- The plain specification: what was put is read back, and each number, string and list has one encoding; no program. -/
import Derived.Test.YtfljmnjcoagbmaaPl
namespace Go.Proofs.Ytfljmnjcoagbmaa

/-! ### One encoding -/
/-- All bytes but the last are from 128 on, the last is below. -/
def Dig : List UInt8 → Prop
  | [] => False
  | [b] => b.toNat < 128
  | b :: c :: d => 128 ≤ b.toNat ∧ Dig (c :: d)

theorem dig_take : ∀ t : List UInt8, fnum t ≠ 0 → Dig (t.take (fnum t))
  | [], h => absurd rfl h
  | b :: t, h => by
    unfold fnum at h ⊢
    by_cases hb : b.toNat < 128
    · rw [if_pos hb, List.take_succ_cons, List.take_zero]
      exact hb
    · rw [if_neg hb] at h ⊢
      by_cases h0 : fnum t = 0
      · rw [if_pos h0] at h; exact absurd rfl h
      · rw [if_neg h0, List.take_succ_cons]
        have ih := dig_take t h0
        cases ht : t.take (fnum t) with
        | nil => rw [ht] at ih; exact ih.elim
        | cons c d => rw [ht] at ih; exact ⟨by omega, ih⟩

theorem last_cons (b c : UInt8) (d : List UInt8) : (b :: c :: d).getLastD 0 = (c :: d).getLastD 0 := by simp
theorem dec_pos : ∀ d : List UInt8, Dig d → d.getLastD 0 ≠ 0 → 0 < dec d
  | [], h, _ => h.elim
  | [b], h, hl => by
    have : b.toNat ≠ 0 := fun e => hl (UInt8.toNat_inj.1 e)
    have hb : b.toNat < 128 := h
    unfold dec dec
    omega
  | b :: c :: d, h, hl => by
    have ih := dec_pos (c :: d) h.2 (by rw [← last_cons b]; exact hl)
    show 0 < b.toNat % 128 + 128 * dec (c :: d)
    omega

theorem of_byte (b : UInt8) (n : Nat) (h : n = b.toNat) : UInt8.ofNat n = b := by subst h; simp
theorem enc_dec : ∀ d : List UInt8, Dig d → (d.length ≤ 1 ∨ d.getLastD 0 ≠ 0) → enc (dec d) = d
  | [], h, _ => h.elim
  | [b], h, _ => by
    have hb : b.toNat < 128 := h
    have e : dec [b] = b.toNat := by unfold dec dec; omega
    rw [e, enc_low _ hb, of_byte b _ rfl]
  | b :: c :: d, h, hl => by
    have hl' : (c :: d).getLastD 0 ≠ 0 := by
      rcases hl with hl | hl
      · simp at hl
      · rw [← last_cons b]; exact hl
    have ih := enc_dec (c :: d) h.2 (Or.inr hl')
    have hp := dec_pos (c :: d) h.2 hl'
    have hb : b.toNat < 256 := UInt8.toNat_lt b
    have hb2 := h.1
    have e : dec (b :: c :: d) = b.toNat % 128 + 128 * dec (c :: d) := rfl
    rw [e, enc_high _ (by omega), show (b.toNat % 128 + 128 * dec (c :: d)) / 128 = dec (c :: d) by omega, ih, of_byte b _ (by omega)]

theorem decP_facts (d : List UInt8) (x : Nat) (h : decP d = (x, 0)) : x = dec d ∧ (d.length ≤ 1 ∨ d.getLastD 0 ≠ 0) := by
  unfold decP at h
  split at h
  · simp at h
  · split at h
    · simp at h
    · split at h
      · simp at h
      · rename_i hn
        simp only [Prod.mk.injEq] at h
        refine ⟨h.1.symm, ?_⟩
        by_cases h1 : d.length ≤ 1
        · exact Or.inl h1
        · exact Or.inr fun e => hn ⟨by omega, e⟩

theorem dec_once (l : List UInt8) (k m x : Nat) (hm : fnum (l.drop k) = m) (h0 : 0 < m) (hd : decP ((l.drop k).take m) = (x, 0)) : (l.drop k).take m = enc x := by
  obtain ⟨rfl, h2⟩ := decP_facts _ x hd
  subst hm
  exact (enc_dec _ (dig_take _ (by omega)) h2).symm

/-! ### Read back -/
theorem enc_ne (n : Nat) : enc n ≠ [] := by
  by_cases h : n < 128
  · rw [enc_low n h]; simp
  · rw [enc_high n h]; simp
theorem low_toNat (n : Nat) (h : n < 128) : (UInt8.ofNat n).toNat = n := by rw [UInt8.toNat_ofNat']; omega
theorem high_toNat (n : Nat) : (UInt8.ofNat (n % 128 + 128)).toNat = n % 128 + 128 := by rw [UInt8.toNat_ofNat']; omega

theorem fnum_enc (n : Nat) (c : List UInt8) : fnum (enc n ++ c) = (enc n).length := by
  induction n using Nat.strongRecOn with
  | ind n ih =>
    by_cases h : n < 128
    · rw [enc_low n h]
      show (if (UInt8.ofNat n).toNat < 128 then 1 else _) = 1
      rw [low_toNat n h, if_pos h]
    · have h1 := ih (n / 128) (by omega)
      rw [enc_high n h]
      show (if (UInt8.ofNat (n % 128 + 128)).toNat < 128 then 1 else if fnum (enc (n / 128) ++ c) = 0 then 0 else fnum (enc (n / 128) ++ c) + 1) = _
      rw [high_toNat, if_neg (by omega), h1, if_neg (fun e => enc_ne _ (List.eq_nil_of_length_eq_zero e)), List.length_cons]
theorem dec_enc (n : Nat) : dec (enc n) = n := by
  induction n using Nat.strongRecOn with
  | ind n ih =>
    by_cases h : n < 128
    · rw [enc_low n h]
      show (UInt8.ofNat n).toNat % 128 + 128 * 0 = n
      rw [low_toNat n h]
      omega
    · have h1 := ih (n / 128) (by omega)
      rw [enc_high n h]
      show (UInt8.ofNat (n % 128 + 128)).toNat % 128 + 128 * dec (enc (n / 128)) = n
      rw [high_toNat, h1]
      omega
theorem last_enc (n : Nat) (hn : 0 < n) : (enc n).getLastD 0 ≠ 0 := by
  induction n using Nat.strongRecOn with
  | ind n ih =>
    by_cases h : n < 128
    · rw [enc_low n h]
      show UInt8.ofNat n ≠ 0
      intro e
      have := congrArg UInt8.toNat e
      rw [low_toNat n h] at this
      have h0 : (0 : UInt8).toNat = 0 := rfl
      omega
    · have h1 := ih (n / 128) (by omega) (by omega)
      rw [enc_high n h]
      cases he : enc (n / 128) with
      | nil => exact absurd he (enc_ne _)
      | cons c d => rw [last_cons, ← he]; exact h1
theorem enc_len9' (n : Nat) (h : n ≤ big) : (enc n).length ≤ 9 := by
  have key : ∀ k n : Nat, n < 128 ^ (k + 1) → (enc n).length ≤ k + 1 := by
    intro k
    induction k with
    | zero => intro n h; rw [enc_low n (by simpa using h)]; simp
    | succ k ih =>
      intro n h
      by_cases h1 : n < 128
      · rw [enc_low n h1]; simp
      · rw [enc_high n h1, List.length_cons]
        have := ih (n / 128) (by rw [Nat.pow_succ] at h; omega)
        omega
  unfold big at h
  exact key 8 n (Nat.lt_of_lt_of_le (show n < 9223372036854775808 by omega) (by decide))

theorem decP_enc (n : Nat) (h : n ≤ big) : decP (enc n) = (n, 0) := by
  have h9 := enc_len9' n h
  unfold decP
  rw [if_neg (by omega), dec_enc, if_neg (by omega), if_neg]
  rintro ⟨h1, h2⟩
  by_cases h0 : 0 < n
  · exact last_enc n h0 h2
  · rw [show n = 0 by omega, enc_low 0 (by decide)] at h1
    simp at h1

theorem getP_back (a c : List UInt8) (n : Nat) (h : n ≤ big) : getP (a ++ (enc n ++ c)) (a.length : Int) = (n, a.length + (enc n).length, 0) := by
  have hd : (a ++ (enc n ++ c)).drop a.length = enc n ++ c := List.drop_left
  have hl : (enc n).length ≠ 0 := fun e => enc_ne n (List.eq_nil_of_length_eq_zero e)
  unfold getP
  rw [if_neg (by rw [List.length_append]; omega), Int.toNat_natCast, hd, fnum_enc, if_neg hl, List.take_left, decP_enc n h, if_pos rfl]

theorem getS_back (a s c : List UInt8) (most : Int) (h : s.length ≤ big) (hm : (s.length : Int) ≤ most) : getS (a ++ (enc s.length ++ (s ++ c))) (a.length : Int) most = (s, a.length + (enc s.length).length + s.length, 0) := by
  have hg := getP_back a (s ++ c) s.length h
  unfold getS
  rw [hg, if_neg (by simp), if_neg (by show ¬ most < (s.length : Int); omega), if_neg]
  · show (((a ++ (enc s.length ++ (s ++ c))).drop (a.length + (enc s.length).length)).take s.length, _, _) = _
    rw [← List.append_assoc, ← List.length_append, List.drop_left, List.take_left]
  · show ¬ (a ++ (enc s.length ++ (s ++ c))).length < a.length + (enc s.length).length + s.length
    simp only [List.length_append]
    omega

theorem gl_back (c : List UInt8) : ∀ (ys : List Int) (pre : List UInt8) (xs : List Int) (p last : Int), xs.getLastD 0 = last → 0 ≤ last → (xs = [] → p = -1) → (xs ≠ [] → p = last) → incr p ys = true → (∀ y ∈ ys, y ≤ (big : Int)) →
    gl (pre ++ (dif last ys ++ c)) ys.length xs pre.length = (xs ++ ys, pre.length + (dif last ys).length, 0)
  | [], pre, xs, p, last, _, _, _, _, _, _ => by simp [gl, dif]
  | y :: ys, pre, xs, p, last, hl, h0, hp0, hp1, hi, hb => by
    have hi' : p < y ∧ incr y ys = true := by simpa [incr] using hi
    have hy := hb y (by simp)
    have hly : last ≤ y := by
      by_cases hx : xs = []
      · have := hp0 hx
        rw [hx] at hl
        simp at hl
        omega
      · have := hp1 hx; omega
    have hg := getP_back pre (dif y ys ++ c) (y - last).toNat (by omega)
    have hd : dif last (y :: ys) = enc (y - last).toNat ++ dif y ys := rfl
    have ih := gl_back c ys (pre ++ enc (y - last).toNat) (xs ++ [y]) y y (by simp) (by omega) (fun e => by simp at e) (fun _ => rfl) hi'.2 (fun z hz => hb z (by simp [hz]))
    rw [List.length_cons, hd, List.append_assoc]
    unfold gl
    rw [hg, if_neg (by simp), if_neg, if_neg, hl]
    · show gl _ ys.length (xs ++ [last + (((y - last).toNat : Nat) : Int)]) (pre.length + (enc (y - last).toNat).length) = _
      rw [show last + (((y - last).toNat : Nat) : Int) = y by omega, ← List.append_assoc, ← List.length_append, ih]
      simp [Nat.add_assoc]
    · rw [hl]
      show ¬ (big : Int) < last + (((y - last).toNat : Nat) : Int)
      omega
    · rintro ⟨hx, hz⟩
      have hz' : (y - last).toNat = 0 := hz
      have := hp1 hx
      omega

theorem getL_back (a c : List UInt8) (xs : List Int) (most : Int) (hi : incr (-1) xs = true) (hb : ∀ y ∈ xs, y ≤ (big : Int)) (hl : xs.length ≤ big) (hm : (xs.length : Int) ≤ most) :
    getL (a ++ (encL xs ++ c)) (a.length : Int) most = (xs, a.length + (encL xs).length, 0) := by
  have hg := getP_back a (dif 0 xs ++ c) xs.length hl
  have hs := gl_back c xs (a ++ enc xs.length) [] (-1) 0 rfl (by omega) (fun _ => rfl) (fun h => absurd rfl h) hi hb
  unfold getL encL
  rw [List.append_assoc, hg, if_neg (by simp), if_neg (by show ¬ most < (xs.length : Int); omega)]
  show gl _ xs.length [] (a.length + (enc xs.length).length) = _
  rw [← List.append_assoc, ← List.length_append, hs]
  simp [Nat.add_assoc]

/-! ### Lists: one encoding -/
theorem take_add (l : List UInt8) (k m n : Nat) (a b : List UInt8) (h1 : (l.drop k).take m = a) (h2 : (l.drop (k + m)).take n = b) : (l.drop k).take (m + n) = a ++ b := by
  subst h1 h2
  rw [List.take_add, List.drop_drop]

end Go.Proofs.Ytfljmnjcoagbmaa
