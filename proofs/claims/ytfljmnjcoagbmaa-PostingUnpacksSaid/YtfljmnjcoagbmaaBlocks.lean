/- Lists in blocks of 16, as bytes; what unpacks, packs to the same; no program. Beside it: Pl and Pm (numbers and lists as bytes). -/
import Derived.Test.YtfljmnjcoagbmaaPm
import Derived.Test.YtfljmnjcoagbmaaSets
namespace Go.Proofs.Ytfljmnjcoagbmaa

/-- Valid: increasing, from 0 to 9999. -/
def valP (l : List Int) : Bool := incr (-1) l && l.all fun x => decide (x ≤ 9999)
theorem incr_up : ∀ (l : List Int) (p : Int), incr p l = true ↔ (∀ y ∈ l, p < y) ∧ Up l
  | [], p => by simp [incr, up_nil]
  | x :: l, p => by
    have ih := incr_up l x
    unfold incr
    rw [Bool.and_eq_true, decide_eq_true_iff, ih, up_cons]
    constructor
    · rintro ⟨h1, h2, h3⟩
      exact ⟨fun y hy => by
        rcases List.mem_cons.1 hy with rfl | hy
        · exact h1
        · have := h2 y hy; omega, h2, h3⟩
    · rintro ⟨h1, h2, h3⟩
      exact ⟨h1 x (by simp), h2, h3⟩
theorem val_iff (l : List Int) : valP l = true ↔ Up l ∧ ∀ x ∈ l, 0 ≤ x ∧ x ≤ 9999 := by
  unfold valP
  rw [Bool.and_eq_true, incr_up, List.all_eq_true]
  constructor
  · rintro ⟨⟨h1, h2⟩, h3⟩
    exact ⟨h2, fun x hx => ⟨by have := h1 x hx; omega, by simpa using h3 x hx⟩⟩
  · rintro ⟨h1, h2⟩
    exact ⟨⟨fun y hy => by have := h2 y hy; omega, h1⟩, fun x hx => by simpa using (h2 x hx).2⟩
theorem up_bound : ∀ (l : List Int) (a b : Int), Up l → (∀ x ∈ l, a ≤ x ∧ x < b) → a ≤ b → (l.length : Int) ≤ b - a
  | [], a, b, _, _, h => by simp; omega
  | x :: l, a, b, hu, hb, _ => by
    have hu' := up_cons.1 hu
    have hx := hb x (by simp)
    have := up_bound l (x + 1) b hu'.2 (fun y hy => ⟨by have := hu'.1 y hy; omega, (hb y (by simp [hy])).2⟩) (by omega)
    rw [List.length_cons]
    omega
theorem val_len (l : List Int) (h : valP l = true) : l.length ≤ 10000 := by
  obtain ⟨h1, h2⟩ := (val_iff l).1 h
  have := up_bound l 0 10000 h1 (fun x hx => by have := h2 x hx; omega) (by omega)
  omega

/-- The blocks. -/
def chunks : Nat → List Int → List (List Int)
  | 0, _ => []
  | k + 1, l => l.take 16 :: chunks k (l.drop 16)
def blocksP (l : List Int) : List (List Int) := chunks ((l.length + 15) / 16) l
def headsP : List (List Int) → List UInt8
  | [] => []
  | c :: cs => enc (c.getLastD 0).toNat ++ (enc (encL c).length ++ headsP cs)
def bodiesP : List (List Int) → List UInt8
  | [] => []
  | c :: cs => encL c ++ bodiesP cs
def packP (l : List Int) : List UInt8 := enc l.length ++ (headsP (blocksP l) ++ bodiesP (blocksP l))

theorem chunks_flat : ∀ (k : Nat) (l : List Int), l.length ≤ 16 * k → (chunks k l).flatten = l
  | 0, l, h => by
    have : l = [] := List.eq_nil_of_length_eq_zero (by omega)
    subst this
    rfl
  | k + 1, l, h => by
    show l.take 16 ++ (chunks k (l.drop 16)).flatten = l
    rw [chunks_flat k (l.drop 16) (by rw [List.length_drop]; omega), List.take_append_drop]
theorem blocks_flat (l : List Int) : (blocksP l).flatten = l := chunks_flat _ l (by omega)
theorem chunks_len : ∀ (k : Nat) (l : List Int), (chunks k l).length = k
  | 0, _ => rfl
  | k + 1, l => by rw [chunks, List.length_cons, chunks_len k]
theorem blocks_len (l : List Int) : (blocksP l).length = (l.length + 15) / 16 := chunks_len _ l
theorem chunks_mem : ∀ (k : Nat) (l c : List Int), c ∈ chunks k l → c.length ≤ 16 ∧ ∃ a b, l = a ++ (c ++ b)
  | 0, _, _, h => by simp [chunks] at h
  | k + 1, l, c, h => by
    rcases List.mem_cons.1 h with rfl | h
    · exact ⟨by rw [List.length_take]; omega, [], l.drop 16, by rw [List.nil_append, List.take_append_drop]⟩
    · obtain ⟨h1, a, b, h2⟩ := chunks_mem k (l.drop 16) c h
      exact ⟨h1, l.take 16 ++ a, b, by rw [List.append_assoc, ← h2, List.take_append_drop]⟩
theorem chunks_at : ∀ (k : Nat) (l : List Int) (i : Nat), i < k → (chunks k l)[i]? = some ((l.drop (16 * i)).take 16)
  | 0, _, _, h => by omega
  | k + 1, l, 0, _ => by simp [chunks]
  | k + 1, l, i + 1, h => by
    show (chunks k (l.drop 16))[i]? = _
    rw [chunks_at k (l.drop 16) i (by omega), List.drop_drop, show 16 + 16 * i = 16 * (i + 1) by omega]
theorem blocks_at (l : List Int) (i : Nat) (h : i < (l.length + 15) / 16) : (blocksP l)[i]? = some ((l.drop (16 * i)).take 16) := chunks_at _ l i h

/-- A block of a valid list. -/
def Good (c : List Int) : Prop := c.length ≤ 16 ∧ valP c = true
theorem part_val (a c b : List Int) (h : valP (a ++ (c ++ b)) = true) : valP c = true := by
  obtain ⟨h1, h2⟩ := (val_iff _).1 h
  refine (val_iff c).2 ⟨?_, fun x hx => h2 x (by simp [hx])⟩
  unfold Up at h1
  rw [List.pairwise_append, List.pairwise_append] at h1
  exact h1.2.1.1
theorem blocks_good (l : List Int) (h : valP l = true) : ∀ c ∈ blocksP l, Good c := by
  intro c hc
  obtain ⟨h1, a, b, h2⟩ := chunks_mem _ l c hc
  rw [h2] at h
  exact ⟨h1, part_val a c b h⟩
theorem heads_app : ∀ a b : List (List Int), headsP (a ++ b) = headsP a ++ headsP b
  | [], _ => rfl
  | c :: a, b => by show _ ++ (_ ++ headsP (a ++ b)) = (_ ++ (_ ++ headsP a)) ++ headsP b; rw [heads_app a b]; simp only [List.append_assoc]
theorem bodies_app : ∀ a b : List (List Int), bodiesP (a ++ b) = bodiesP a ++ bodiesP b
  | [], _ => rfl
  | c :: a, b => by show _ ++ bodiesP (a ++ b) = (_ ++ bodiesP a) ++ bodiesP b; rw [bodies_app a b, List.append_assoc]

/-! ### Unpacking -/
/-- The index after n numbers. -/
def skipP (b : List UInt8) : Nat → Int → Option Int
  | 0, i => some i
  | n + 1, i => if (getP b i).2.2 ≠ 0 then none else skipP b n ((getP b i).2.1 : Int)
/-- The elements of k lists, and where they end. -/
def partsP (b : List UInt8) : Nat → Int → List Int → Option (List Int)
  | 0, _, xs => some xs
  | k + 1, i, xs => if (getL b i 16).2.2 ≠ 0 then none else partsP b k ((getL b i 16).2.1 : Int) (xs ++ (getL b i 16).1)
/-- What the bytes are read as, whether they are an encoding or not. -/
def readP (b : List UInt8) : Option (List Int) :=
  if (getP b 0).2.2 ≠ 0 ∨ 10000 < (getP b 0).1 then none
  else (skipP b (2 * (((getP b 0).1 + 15) / 16)) ((getP b 0).2.1 : Int)).bind fun i => partsP b (((getP b 0).1 + 15) / 16) i []
/-- The list that is encoded, or none. -/
def unpackP (b : List UInt8) : Option (List Int) := (readP b).bind fun l => if valP l = true ∧ packP l = b then some l else none

theorem encL_len (c : List Int) (h : Good c) : (encL c).length ≤ 200 := by
  have hd : ∀ (l : List Int) (p : Int), 0 ≤ p → (∀ y ∈ l, p ≤ y ∧ y ≤ 9999) → Up l → (dif p l).length ≤ 9 * l.length := by
    intro l
    induction l with
    | nil => intro p _ _ _; simp [dif]
    | cons x l ih =>
      intro p hp hy hu
      have hx := hy x (by simp)
      have hu' := up_cons.1 hu
      have h1 := ih x (by omega) (fun y hy' => ⟨by have := hu'.1 y hy'; omega, (hy y (by simp [hy'])).2⟩) hu'.2
      have h2 := enc_len9' (x - p).toNat (by unfold big; omega)
      show (enc (x - p).toNat ++ dif x l).length ≤ _
      rw [List.length_append, List.length_cons]
      omega
  obtain ⟨h1, h2⟩ := (val_iff c).1 h.2
  have h3 := hd c 0 (Int.le_refl _) (fun y hy => h2 y hy) h1
  have h4 := enc_len9' c.length (by have := h.1; unfold big; omega)
  have h5 := h.1
  show (enc c.length ++ dif 0 c).length ≤ 200
  rw [List.length_append]
  omega
theorem last_good (c : List Int) (h : Good c) : 0 ≤ c.getLastD 0 ∧ c.getLastD 0 ≤ 9999 := by
  cases hc : c.getLast? with
  | none => rw [List.getLastD_eq_getLast?, hc]; simp
  | some x =>
    rw [List.getLastD_eq_getLast?, hc]
    exact ((val_iff c).1 h.2).2 x (List.mem_of_getLast? hc)
theorem skip_heads : ∀ (cs : List (List Int)) (a c : List UInt8), (∀ d ∈ cs, Good d) → skipP (a ++ (headsP cs ++ c)) (2 * cs.length) (a.length : Int) = some ((a.length + (headsP cs).length : Nat) : Int)
  | [], a, c, _ => by simp [skipP, headsP]
  | d :: cs, a, c, h => by
    have hd := h d (by simp)
    have hl := last_good d hd
    have he := encL_len d hd
    have g1 := getP_back a (enc (encL d).length ++ (headsP cs ++ c)) (d.getLastD 0).toNat (by unfold big; omega)
    have g2 := getP_back (a ++ enc (d.getLastD 0).toNat) (headsP cs ++ c) (encL d).length (by unfold big; omega)
    have e1 : a ++ (headsP (d :: cs) ++ c) = a ++ (enc (d.getLastD 0).toNat ++ (enc (encL d).length ++ (headsP cs ++ c))) := by
      show a ++ ((enc _ ++ (enc _ ++ headsP cs)) ++ c) = _
      simp only [List.append_assoc]
    have e2 : (a ++ enc (d.getLastD 0).toNat) ++ (enc (encL d).length ++ (headsP cs ++ c)) = a ++ (enc (d.getLastD 0).toNat ++ (enc (encL d).length ++ (headsP cs ++ c))) := by rw [List.append_assoc]
    rw [e2, List.length_append] at g2
    have ih := skip_heads cs (a ++ (enc (d.getLastD 0).toNat ++ enc (encL d).length)) c (fun x hx => h x (by simp [hx]))
    have e3 : (a ++ (enc (d.getLastD 0).toNat ++ enc (encL d).length)) ++ (headsP cs ++ c) = a ++ (enc (d.getLastD 0).toNat ++ (enc (encL d).length ++ (headsP cs ++ c))) := by simp only [List.append_assoc]
    rw [e3] at ih
    have el : (headsP (d :: cs)).length = (enc (d.getLastD 0).toNat).length + ((enc (encL d).length).length + (headsP cs).length) := by
      show (enc _ ++ (enc _ ++ headsP cs)).length = _
      rw [List.length_append, List.length_append]
    rw [e1, show 2 * (d :: cs).length = (2 * cs.length + 1) + 1 by rw [List.length_cons]; omega]
    show (if _ then none else skipP _ (2 * cs.length + 1) _) = _
    rw [g1, if_neg (by simp)]
    show (if _ then none else skipP _ (2 * cs.length) _) = _
    rw [g2, if_neg (by simp)]
    simp only [List.length_append] at ih
    rw [show a.length + (enc (d.getLastD 0).toNat).length + (enc (encL d).length).length = a.length + ((enc (d.getLastD 0).toNat).length + (enc (encL d).length).length) by omega, ih, el]
    congr 2
    omega
theorem parts_bodies : ∀ (cs : List (List Int)) (a : List UInt8) (xs : List Int), (∀ d ∈ cs, Good d) → partsP (a ++ bodiesP cs) cs.length (a.length : Int) xs = some (xs ++ cs.flatten)
  | [], a, xs, _ => by simp [partsP]
  | d :: cs, a, xs, h => by
    have hd := h d (by simp)
    obtain ⟨h1, h2⟩ := (val_iff d).1 hd.2
    have g1 := getL_back a (bodiesP cs) d 16 ((incr_up d (-1)).2 ⟨fun y hy => by have := h2 y hy; omega, h1⟩) (fun y hy => by have := h2 y hy; unfold big; omega) (by have := hd.1; unfold big; omega) (by have := hd.1; omega)
    have ih := parts_bodies cs (a ++ encL d) (xs ++ d) (fun x hx => h x (by simp [hx]))
    rw [List.append_assoc, List.length_append] at ih
    show (if _ then none else partsP _ cs.length _ _) = _
    rw [show a ++ bodiesP (d :: cs) = a ++ (encL d ++ bodiesP cs) from rfl, g1, if_neg (by simp)]
    show partsP _ cs.length ((a.length + (encL d).length : Nat) : Int) (xs ++ d) = _
    rw [ih, List.flatten_cons, List.append_assoc]
/-- What was packed is unpacked. -/
theorem unpack_pack (l : List Int) (h : valP l = true) : unpackP (packP l) = some l := by
  have hl := val_len l h
  have hg := blocks_good l h
  have g0 := getP_back [] (headsP (blocksP l) ++ bodiesP (blocksP l)) l.length (by unfold big; omega)
  rw [List.nil_append, List.length_nil, Nat.zero_add] at g0
  have g1 := skip_heads (blocksP l) (enc l.length) (bodiesP (blocksP l)) hg
  have g2 := parts_bodies (blocksP l) (enc l.length ++ headsP (blocksP l)) [] hg
  rw [List.nil_append, blocks_flat, List.append_assoc, List.length_append] at g2
  rw [blocks_len] at g1 g2
  have hr : readP (packP l) = some l := by
    unfold readP
    have g0' : getP (packP l) 0 = (l.length, (enc l.length).length, 0) := g0
    rw [g0', if_neg (by simp; omega)]
    have g1' : skipP (packP l) (2 * ((l.length + 15) / 16)) ((enc l.length).length : Int) = some (((enc l.length).length + (headsP (blocksP l)).length : Nat) : Int) := g1
    show (skipP (packP l) (2 * ((l.length + 15) / 16)) ((enc l.length).length : Int)).bind _ = _
    rw [g1']
    exact g2
  unfold unpackP
  rw [hr]
  show (if _ then some l else none) = some l
  rw [if_pos ⟨h, rfl⟩]
/-- What is unpacked, packs to the same bytes. -/
theorem pack_unpack (b : List UInt8) (l : List Int) (h : unpackP b = some l) : valP l = true ∧ packP l = b := by
  unfold unpackP at h
  cases hr : readP b with
  | none => rw [hr] at h; simp at h
  | some x =>
    rw [hr] at h
    simp only [Option.bind_some] at h
    split at h
    · simp only [Option.some.injEq] at h
      subst h
      assumption
    · simp at h
/-- Bytes are unpacked to a list exactly if they are its encoding. -/
theorem unpack_iff (b : List UInt8) (l : List Int) : unpackP b = some l ↔ valP l = true ∧ packP l = b :=
  ⟨pack_unpack b l, fun h => by rw [← h.2]; exact unpack_pack l h.1⟩
theorem pack_inj (l m : List Int) (hl : valP l = true) (hm : valP m = true) (h : packP l = packP m) : l = m := by
  have h1 := unpack_pack l hl
  rw [h, unpack_pack m hm] at h1
  simpa using h1.symm

end Go.Proofs.Ytfljmnjcoagbmaa
