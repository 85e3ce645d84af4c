/- The plain specification of fields that are put one after the other. -/
import Derived.Test.YtpgoglkgaeccnaaAf
import Derived.Test.YtpgoglkgaeccnaaWG
namespace Go.Proofs.Ytpgoglkgaeccnaa

def encF (f : Fd) : List UInt8 :=
  if f.1.tmod 3 = 0 then enc f.2.1.toNat else if f.1.tmod 3 = 1 then enc f.2.2.1.size ++ f.2.2.1.data.toList else encL f.2.2.2
def encFs : List Fd → List UInt8
  | [] => []
  | f :: r => encF f ++ encFs r

theorem encF_num (f : Fd) (h : f.1.tmod 3 = 0) : encF f = enc f.2.1.toNat := by unfold encF; rw [if_pos h]
theorem encF_text (f : Fd) (h : f.1.tmod 3 = 1) : encF f = enc f.2.2.1.size ++ f.2.2.1.data.toList := by unfold encF; rw [if_neg (by omega), if_pos h]
theorem encF_list (f : Fd) (h : f.1.tmod 3 ≠ 0) (h1 : f.1.tmod 3 ≠ 1) : encF f = encL f.2.2.2 := by unfold encF; rw [if_neg h, if_neg h1]

theorem encFs_app : ∀ a b : List Fd, encFs (a ++ b) = encFs a ++ encFs b
  | [], b => rfl
  | f :: a, b => by show encF f ++ encFs (a ++ b) = _; rw [encFs_app a b, ← List.append_assoc]; rfl
theorem encFs_take (fs : List Fd) (k : Nat) (f : Fd) (h : fs[k]? = some f) : encFs (fs.take (k + 1)) = encFs (fs.take k) ++ encF f := by
  have hk := (List.getElem?_eq_some_iff.1 h).1
  rw [List.take_succ_eq_append_getElem hk, encFs_app, (List.getElem?_eq_some_iff.1 h).2]
  show _ ++ (encF f ++ []) = _
  rw [List.append_nil]
theorem encFs_drop (fs : List Fd) (k : Nat) (f : Fd) (h : fs[k]? = some f) : encFs (fs.drop k) = encF f ++ encFs (fs.drop (k + 1)) := by
  have hk := (List.getElem?_eq_some_iff.1 h).1
  rw [List.drop_eq_getElem_cons hk, (List.getElem?_eq_some_iff.1 h).2]
  rfl
theorem encFs_all (fs : List Fd) (k : Nat) : encFs fs = encFs (fs.take k) ++ encFs (fs.drop k) := by rw [← encFs_app, List.take_append_drop]

/-- A field that can be put and read back. -/
def OkF (f : Fd) : Prop := 0 ≤ f.2.1 ∧ f.2.1 ≤ 4611686018427387904 ∧ f.2.2.1.size ≤ 1000 ∧ f.2.2.2.length ≤ 1000 ∧ (0 < f.2.2.2.length → f.2.2.2.getLastD 0 ≤ 4611686018427387904) ∧ (f.1.tmod 3 ≠ 0 → f.1.tmod 3 ≠ 1 → incr (-1) f.2.2.2 = true)

theorem incr_le : ∀ (xs : List Int) (p : Int), incr p xs = true → ∀ y ∈ xs, p < y ∧ y ≤ xs.getLastD 0
  | [], _, _, y, hy => by simp at hy
  | [x], p, h, y, hy => by
    simp at hy
    subst hy
    have : p < y := by simpa [incr] using h
    exact ⟨this, by simp⟩
  | x :: z :: r, p, h, y, hy => by
    rw [incr_cons, Bool.and_eq_true, decide_eq_true_iff] at h
    have ih := incr_le (z :: r) x h.2
    have hl : (x :: z :: r).getLastD 0 = (z :: r).getLastD 0 := by simp
    rw [hl]
    rcases List.mem_cons.1 hy with rfl | hy
    · have := ih z (by simp)
      exact ⟨h.1, by omega⟩
    · have := ih y hy
      exact ⟨by omega, this.2⟩
theorem dif_len : ∀ (xs : List Int) (p last : Int), incr p xs = true → -1 ≤ p → 0 ≤ last → (p = last ∨ p = -1) → (∀ y ∈ xs, y ≤ 9223372036854775807) → (dif last xs).length ≤ 9 * xs.length
  | [], _, _, _, _, _, _, _ => by simp [dif]
  | x :: r, p, last, h, hp, h0, hpl, hb => by
    rw [incr_cons, Bool.and_eq_true, decide_eq_true_iff] at h
    have hx := hb x (by simp)
    have ih := dif_len r x x h.2 (by omega) (by omega) (Or.inl rfl) fun y hy => hb y (by simp [hy])
    have h9 := enc_len9 (x - last).toNat (by omega)
    rw [dif_cons, List.length_append, List.length_cons]
    omega
theorem okF_list {f : Fd} (h : OkF f) (hi : incr (-1) f.2.2.2 = true) : ∀ y ∈ f.2.2.2, y ≤ 4611686018427387904 := fun y hy => by
  have h1 := (incr_le _ _ hi y hy).2
  have h2 := h.2.2.2.2.1 (List.length_pos_of_mem hy)
  omega
theorem encF_len {f : Fd} (h : OkF f) : (encF f).length ≤ 9100 := by
  obtain ⟨h0, h1, h2, h3, _, h5⟩ := h
  unfold encF
  split
  · have := enc_len9 f.2.1.toNat (by omega); omega
  · split
    · have := enc_len9 f.2.2.1.size (by omega)
      rw [List.length_append, size_list]
      omega
    · rename_i ha hb
      have hi := h5 ha hb
      have := enc_len9 f.2.2.2.length (by omega)
      have hd := dif_len f.2.2.2 (-1) 0 hi (by omega) (by omega) (Or.inr rfl) fun y hy => by
        have := okF_list ⟨h0, h1, h2, h3, by assumption, h5⟩ hi y hy
        omega
      unfold encL
      rw [List.length_append]
      omega

end Go.Proofs.Ytpgoglkgaeccnaa
