/- Checksums, over lists of bytes; no program. The register is a number below 2^32. -/
import Init.Data.Nat.Bitwise.Lemmas
import Init.Data.List.Lemmas
namespace Go.Proofs.Ytandmdmgleeogaa

def poly : Nat := 2197175160
/-- One bit of the register. -/
def stp (x : Nat) : Nat := if x % 2 = 1 then (x / 2) ^^^ poly else x / 2
/-- n bits. -/
def stps : Nat → Nat → Nat
  | 0, x => x
  | n + 1, x => stps n (stp x)
/-- The register takes a byte. -/
def tk (r : Nat) (b : UInt8) : Nat := stps 8 (r ^^^ b.toNat)
def regs (r : Nat) : List UInt8 → Nat
  | [] => r
  | b :: l => regs (tk r b) l
def full : Nat := 4294967295
def extP (s : Nat) (l : List UInt8) : Nat := regs (s ^^^ full) l ^^^ full
def sumP (l : List UInt8) : Nat := extP 0 l

/-! ### Linear -/
theorem stp_lt (x : Nat) (h : x < 2 ^ 32) : stp x < 2 ^ 32 := by
  unfold stp
  split
  · exact Nat.xor_lt_two_pow (by omega) (by decide)
  · omega
theorem xor_odd (x y : Nat) : (x ^^^ y) % 2 = (x % 2 + y % 2) % 2 := by
  have h := Nat.xor_mod_two_eq_one (a := x) (b := y)
  by_cases hx : x % 2 = 1 <;> by_cases hy : y % 2 = 1 <;> simp only [hx, hy, iff_true, not_true, not_false_iff, iff_false] at h <;> omega
theorem stp_xor (x y : Nat) : stp (x ^^^ y) = stp x ^^^ stp y := by
  have hd : (x ^^^ y) / 2 = x / 2 ^^^ y / 2 := Nat.xor_div_two
  have ho := xor_odd x y
  unfold stp
  rw [hd]
  by_cases hx : x % 2 = 1 <;> by_cases hy : y % 2 = 1
  · rw [if_neg (by omega), if_pos hx, if_pos hy]
    rw [show (x / 2 ^^^ poly) ^^^ (y / 2 ^^^ poly) = (x / 2 ^^^ y / 2) ^^^ (poly ^^^ poly) by ac_rfl, Nat.xor_self, Nat.xor_zero]
  · rw [if_pos (by omega), if_pos hx, if_neg hy]; ac_rfl
  · rw [if_pos (by omega), if_neg hx, if_pos hy]; ac_rfl
  · rw [if_neg (by omega), if_neg hx, if_neg hy]
theorem stp_zero (z : Nat) (hz : z < 2 ^ 32) (h : stp z = 0) : z = 0 := by
  unfold stp at h
  split at h
  · have : z / 2 = poly := by
      have h2 : (z / 2 ^^^ poly) ^^^ poly = poly := by rw [h, Nat.zero_xor]
      rwa [Nat.xor_assoc, Nat.xor_self, Nat.xor_zero] at h2
    unfold poly at this
    omega
  · omega
theorem stps_lt : ∀ (n x : Nat), x < 2 ^ 32 → stps n x < 2 ^ 32
  | 0, _, h => h
  | n + 1, x, h => stps_lt n _ (stp_lt x h)
theorem stps_xor : ∀ (n x y : Nat), stps n (x ^^^ y) = stps n x ^^^ stps n y
  | 0, _, _ => rfl
  | n + 1, x, y => by
    show stps n (stp (x ^^^ y)) = stps n (stp x) ^^^ stps n (stp y)
    rw [stp_xor, stps_xor n]
theorem stps_zero : ∀ (n z : Nat), z < 2 ^ 32 → stps n z = 0 → z = 0
  | 0, _, _, h => h
  | n + 1, z, hz, h => stp_zero z hz (stps_zero n _ (stp_lt z hz) h)
theorem stps_add : ∀ (m n x : Nat), stps (m + n) x = stps n (stps m x)
  | 0, n, x => by rw [Nat.zero_add]; rfl
  | m + 1, n, x => by rw [show m + 1 + n = (m + n) + 1 by omega]; exact stps_add m n (stp x)
theorem stps_even : ∀ (n z : Nat), stps n (z * 2 ^ n) = z
  | 0, z => by simp [stps]
  | n + 1, z => by
    have e : stp (z * 2 ^ (n + 1)) = z * 2 ^ n := by
      unfold stp
      rw [Nat.pow_succ, ← Nat.mul_assoc, if_neg (by omega)]
      omega
    show stps n (stp (z * 2 ^ (n + 1))) = z
    rw [e, stps_even n]

/-! ### The register -/
theorem byte_lt (b : UInt8) : b.toNat < 2 ^ 32 := by have := UInt8.toNat_lt b; omega
theorem tk_lt (r : Nat) (b : UInt8) (h : r < 2 ^ 32) : tk r b < 2 ^ 32 := stps_lt 8 _ (Nat.xor_lt_two_pow h (byte_lt b))
theorem regs_lt : ∀ (l : List UInt8) (r : Nat), r < 2 ^ 32 → regs r l < 2 ^ 32
  | [], _, h => h
  | b :: l, r, h => regs_lt l _ (tk_lt r b h)
theorem regs_app : ∀ (a b : List UInt8) (r : Nat), regs r (a ++ b) = regs (regs r a) b
  | [], _, _ => rfl
  | x :: a, b, r => regs_app a b (tk r x)
/-- Different registers stay different. -/
theorem tk_inj (r s : Nat) (b : UInt8) (hr : r < 2 ^ 32) (hs : s < 2 ^ 32) (h : tk r b = tk s b) : r = s := by
  unfold tk at h
  have h1 : stps 8 ((r ^^^ b.toNat) ^^^ (s ^^^ b.toNat)) = 0 := by rw [stps_xor, h, Nat.xor_self]
  have h2 := stps_zero 8 _ (Nat.xor_lt_two_pow (Nat.xor_lt_two_pow hr (byte_lt b)) (Nat.xor_lt_two_pow hs (byte_lt b))) h1
  rw [show (r ^^^ b.toNat) ^^^ (s ^^^ b.toNat) = (r ^^^ s) ^^^ (b.toNat ^^^ b.toNat) by ac_rfl, Nat.xor_self, Nat.xor_zero] at h2
  have h3 : (r ^^^ s) ^^^ s = s := by rw [h2, Nat.zero_xor]
  rwa [Nat.xor_assoc, Nat.xor_self, Nat.xor_zero] at h3
theorem regs_inj : ∀ (l : List UInt8) (r s : Nat), r < 2 ^ 32 → s < 2 ^ 32 → regs r l = regs s l → r = s
  | [], _, _, _, _, h => h
  | b :: l, r, s, hr, hs, h => tk_inj r s b hr hs (regs_inj l _ _ (tk_lt r b hr) (tk_lt s b hs) h)

/-- The exclusive or of two byte strings. -/
def xors (a b : List UInt8) : List UInt8 := List.zipWith (· ^^^ ·) a b
theorem regs_xor : ∀ (a b : List UInt8) (r s : Nat), a.length = b.length → regs (r ^^^ s) (xors a b) = regs r a ^^^ regs s b
  | [], [], _, _, _ => rfl
  | [], _ :: _, _, _, h => by simp at h
  | _ :: _, [], _, _, h => by simp at h
  | x :: a, y :: b, r, s, h => by
    have ih := regs_xor a b (tk r x) (tk s y) (by simpa using h)
    show regs (tk (r ^^^ s) (x ^^^ y)) (xors a b) = regs (tk r x) a ^^^ regs (tk s y) b
    rw [← ih]
    congr 1
    unfold tk
    rw [← stps_xor, UInt8.toNat_xor]
    congr 1
    ac_rfl

/-- Up to four bytes as a number, the first one lowest. -/
def word : List UInt8 → Nat
  | [] => 0
  | b :: l => b.toNat + 256 * word l
theorem word_lt : ∀ l : List UInt8, word l < 256 ^ l.length
  | [] => by simp [word]
  | b :: l => by
    have := word_lt l
    have := UInt8.toNat_lt b
    show b.toNat + 256 * word l < _
    rw [List.length_cons, Nat.pow_succ]
    omega
theorem low_xor (b z : Nat) (h : b < 256) : b ^^^ (z * 2 ^ 8) = b + 256 * z := by
  have h1 : b + 256 * z = 2 ^ 8 * z + b := by omega
  rw [h1, Nat.mul_comm z, Nat.two_pow_add_eq_or_of_lt (i := 8) h]
  apply Nat.eq_of_testBit_eq
  intro i
  simp only [Nat.testBit_xor, Nat.testBit_or, Nat.testBit_two_pow_mul]
  by_cases hi : 8 ≤ i
  · have : b.testBit i = false := Nat.testBit_lt_two_pow (Nat.lt_of_lt_of_le h (by
      have := Nat.pow_le_pow_right (n := 2) (by omega) hi
      omega))
    simp [this, hi]
  · simp [hi]
theorem regs_word (l : List UInt8) : ∀ r : Nat, l.length ≤ 4 → regs r l = stps (8 * l.length) (r ^^^ word l) := by
  induction l with
  | nil => intro r _; rw [show word [] = 0 from rfl, Nat.xor_zero]; rfl
  | cons b l ih =>
    intro r h
    have hl : l.length ≤ 3 := by simpa using h
    have ih := ih (tk r b) (by omega)
    have hb := UInt8.toNat_lt b
    have e1 : regs r (b :: l) = regs (tk r b) l := rfl
    have e2 : word (b :: l) = b.toNat + 256 * word l := rfl
    have e3 : tk r b = stps 8 (r ^^^ b.toNat) := rfl
    rw [e1, ih, List.length_cons, show 8 * (l.length + 1) = 8 + 8 * l.length by omega, stps_add, e2, e3, ← low_xor _ _ hb, ← Nat.xor_assoc, stps_xor 8 (r ^^^ b.toNat), stps_even]
theorem word_zero : ∀ l : List UInt8, word l = 0 → ∀ b ∈ l, b = 0
  | [], _, b, hb => by simp at hb
  | x :: l, h, b, hb => by
    have h' : x.toNat + 256 * word l = 0 := h
    rcases List.mem_cons.1 hb with rfl | hb
    · exact UInt8.toNat_inj.1 (by show b.toNat = 0; omega)
    · exact word_zero l (by omega) b hb
theorem xors_zero : ∀ (a b : List UInt8), a.length = b.length → (∀ x ∈ xors a b, x = 0) → a = b
  | [], [], _, _ => rfl
  | [], _ :: _, h, _ => by simp at h
  | _ :: _, [], h, _ => by simp at h
  | x :: a, y :: b, h, hz => by
    have h0 : x ^^^ y = 0 := hz _ (by show _ ∈ (x ^^^ y) :: xors a b; simp)
    have e : x = y := by
      have h1 : (x ^^^ y) ^^^ y = y := by rw [h0, UInt8.zero_xor]
      rwa [UInt8.xor_assoc, UInt8.xor_self, UInt8.xor_zero] at h1
    rw [e, xors_zero a b (by simpa using h) fun z hzz => hz z (by show _ ∈ (x ^^^ y) :: xors a b; simp [hzz])]
/-- A change within four consecutive bytes changes the register. -/
theorem regs_burst (p q : List UInt8) (r : Nat) (hl : p.length = q.length) (h4 : p.length ≤ 4) (h : regs r p = regs r q) : p = q := by
  have hx := regs_xor p q r r hl
  rw [h, Nat.xor_self, Nat.xor_self] at hx
  have hxl : (xors p q).length ≤ 4 := by unfold xors; rw [List.length_zipWith]; omega
  rw [regs_word _ 0 hxl, Nat.zero_xor] at hx
  have hw : word (xors p q) < 2 ^ 32 := Nat.lt_of_lt_of_le (word_lt _) (Nat.le_trans (Nat.pow_le_pow_right (by omega) hxl) (by decide))
  exact xors_zero p q hl (word_zero _ (stps_zero _ _ hw hx))

/-! ### Sums -/
theorem full_lt : full < 2 ^ 32 := by decide
theorem ext_lt (s : Nat) (l : List UInt8) (h : s < 2 ^ 32) : extP s l < 2 ^ 32 := Nat.xor_lt_two_pow (regs_lt l _ (Nat.xor_lt_two_pow h full_lt)) full_lt
theorem ext_app (s : Nat) (a b : List UInt8) : extP s (a ++ b) = extP (extP s a) b := by
  unfold extP
  rw [regs_app, Nat.xor_assoc (regs _ a), Nat.xor_self, Nat.xor_zero]
theorem sum_burst (a p q c : List UInt8) (hl : p.length = q.length) (h4 : p.length ≤ 4) (h : sumP (a ++ (p ++ c)) = sumP (a ++ (q ++ c))) : p = q := by
  unfold sumP extP at h
  have hf : (0 ^^^ full) < 2 ^ 32 := by decide
  have h1 : regs (0 ^^^ full) (a ++ (p ++ c)) = regs (0 ^^^ full) (a ++ (q ++ c)) := by
    have h2 := congrArg (· ^^^ full) h
    simpa [Nat.xor_assoc, Nat.xor_self, Nat.xor_zero] using h2
  rw [regs_app, regs_app, regs_app, regs_app] at h1
  have ha := regs_lt a _ hf
  exact regs_burst p q _ hl h4 (regs_inj c _ _ (regs_lt p _ ha) (regs_lt q _ ha) h1)
theorem sum_xor3 (a b c : List UInt8) (h1 : a.length = b.length) (h2 : a.length = c.length) : sumP (xors (xors a b) c) = sumP a ^^^ sumP b ^^^ sumP c := by
  unfold sumP extP
  have hx : (xors a b).length = c.length := by unfold xors; rw [List.length_zipWith]; omega
  have e1 := regs_xor (xors a b) c ((0 ^^^ full) ^^^ (0 ^^^ full)) (0 ^^^ full) hx
  rw [regs_xor a b _ _ h1, Nat.xor_self, Nat.zero_xor] at e1
  rw [e1]
  have e2 : full ^^^ full = 0 := Nat.xor_self _
  generalize regs (0 ^^^ full) a = x
  generalize regs (0 ^^^ full) b = y
  generalize regs (0 ^^^ full) c = z
  rw [show (x ^^^ full) ^^^ (y ^^^ full) ^^^ (z ^^^ full) = (x ^^^ y ^^^ z ^^^ full) ^^^ (full ^^^ full) by ac_rfl, e2, Nat.xor_zero]

/-- Four bytes, the highest first. -/
def four (n : Nat) : List UInt8 := [UInt8.ofNat (n / 16777216 % 256), UInt8.ofNat (n / 65536 % 256), UInt8.ofNat (n / 256 % 256), UInt8.ofNat (n % 256)]
theorem ofNat_inj (a b : Nat) (ha : a < 256) (hb : b < 256) (h : UInt8.ofNat a = UInt8.ofNat b) : a = b := by
  have := congrArg UInt8.toNat h
  rw [UInt8.toNat_ofNat', UInt8.toNat_ofNat'] at this
  omega
theorem four_inj (n m : Nat) (hn : n < 2 ^ 32) (hm : m < 2 ^ 32) (h : four n = four m) : n = m := by
  unfold four at h
  simp only [List.cons.injEq, and_true] at h
  have h0 := ofNat_inj _ _ (by omega) (by omega) h.1
  have h1 := ofNat_inj _ _ (by omega) (by omega) h.2.1
  have h2 := ofNat_inj _ _ (by omega) (by omega) h.2.2.1
  have h3 := ofNat_inj _ _ (by omega) (by omega) h.2.2.2
  omega

end Go.Proofs.Ytandmdmgleeogaa
