/- Layer 8: what parsed expressions are; the program's contracts; the examples' helpers. -/
import Derived.Test.YtmiegjefmebpdaaGreatDoorKQ
import Derived.Test.YtmiegjefmebpdaaGreatDoorKF
namespace Go.Proofs.YtmiegjefmebpdaaGreatDoor
open Go.RowKit

theorem tame_set {x : List (UInt8 × UInt8)} (h : x.length ≤ 256) : Tame (setR x) := .mk _ _ _ _ _ h fun y hy => by simp at hy
theorem tame_kind (k a b : Int) {l : List Rx} (h : ∀ x ∈ l, Tame x) : Tame (.mk k [] a b l) := .mk _ _ _ _ _ (by simp) h
theorem tame_wrap (k : Int) {acc : List Rx} (h : ∀ x ∈ acc, Tame x) : Tame (wrapS k acc) := by
  unfold wrapS
  split
  · exact h _ (by simp)
  · exact tame_kind _ _ _ h
theorem tame_setS {l : List UInt8} {x : Rx} {r : List UInt8} (h : setS l = some (x, r)) : Tame x := by
  have key : ∀ a b, Tame (Rx.mk 1 (rangesS a b) 0 0 []) := fun a b => tame_set (rgN_len _ 256)
  unfold setS at h
  repeat' split at h
  all_goals first | (cases h; done) | (cases h; exact key _ _)
theorem tame_suffix {x y : Rx} {l r : List UInt8} (hx : Tame x) (h : suffixP x l = some (y, r)) : Tame y := by
  have key : ∀ a b, Tame (repS x a b) := fun a b => tame_kind _ _ _ (by simpa using hx)
  cases l with
  | nil => unfold suffixP at h; cases h; exact hx
  | cons c l =>
    simp only [suffixP] at h
    repeat' split at h
    all_goals first | (cases h; done) | (cases h; exact key _ _) | (cases h; exact hx)
theorem esc_len4 {c : UInt8} {x : List (UInt8 × UInt8)} (h : escapeS c = some x) : x.length ≤ 256 := by have := esc_len h; omega
theorem parse_tame : ∀ n, (∀ l x r, atomP n l = some (x, r) → Tame x) ∧ (∀ l x r, itemP n l = some (x, r) → Tame x) ∧
    (∀ acc l x r, (∀ y ∈ acc, Tame y) → seqP n acc l = some (x, r) → Tame x) ∧ (∀ acc l x r, (∀ y ∈ acc, Tame y) → altP n acc l = some (x, r) → Tame x)
  | 0 => ⟨fun l x r h => by simp [atomP] at h, fun l x r h => by simp [itemP] at h, fun acc l x r _ h => by simp [seqP] at h, fun acc l x r _ h => by simp [altP] at h⟩
  | n + 1 => by
    obtain ⟨h1, h2, h3, h4⟩ := parse_tame n
    have app : ∀ (acc : List Rx) (y : Rx), (∀ z ∈ acc, Tame z) → Tame y → ∀ z ∈ acc ++ [y], Tame z := fun acc y ha hy z hz => by
      rcases List.mem_append.1 hz with hz | hz
      · exact ha z hz
      · simp at hz; subst hz; exact hy
    have hz : ∀ k : Int, Tame (Rx.mk k [] 0 0 []) := fun k => tame_kind _ _ _ (fun y hy => by simp at hy)
    refine ⟨fun l x r h => ?_, fun l x r h => ?_, fun acc l x r ha h => ?_, fun acc l x r ha h => ?_⟩
    · cases l with
      | nil => simp [atomP] at h
      | cons c l =>
        unfold atomP at h
        split at h
        · split at h
          · rename_i y d l' hy
            split at h
            · cases h
              exact h4 _ _ _ _ (by simp) hy
            · cases h
          · cases h
        · split at h
          · exact tame_setS h
          · split at h
            · cases h; exact tame_set (rgN_len _ 256)
            · split at h
              · cases h; exact hz _
              · split at h
                · cases h; exact hz _
                · split at h
                  · cases l with
                    | nil => simp at h
                    | cons d l' =>
                      simp only at h
                      split at h
                      · cases h; exact hz _
                      · split at h
                        · rename_i he
                          cases h; exact tame_set (esc_len4 he)
                        · cases h
                  · split at h
                    · cases h
                    · cases h; exact tame_set (by simp)
    · unfold itemP at h
      split at h
      · rename_i y l' hy
        exact tame_suffix (h1 _ _ _ hy) h
      · cases h
    · cases l with
      | nil => unfold seqP at h; cases h; exact tame_wrap _ ha
      | cons c l =>
        unfold seqP at h
        split at h
        · cases h; exact tame_wrap _ ha
        · split at h
          · rename_i y l' hy
            exact h3 _ _ _ _ (app acc y ha (h2 _ _ _ hy)) h
          · cases h
    · unfold altP at h
      split at h
      · cases h
      · rename_i y l' hy
        have a := app acc y ha (h3 _ _ _ _ (by simp) hy)
        split at h
        · cases h; exact tame_wrap _ a
        · split at h
          · exact h4 _ _ _ _ a h
          · cases h; exact tame_wrap _ a
/-- What Parse gives is small. -/
theorem parse_small (d : List UInt8) : sizeR (parseS d).1 ≤ 1000 ∧ depthR (parseS d).1 ≤ 1000 ∧ Tame (parseS d).1 := by
  have h0 : sizeR rx0 ≤ 1000 ∧ depthR rx0 ≤ 1000 ∧ Tame rx0 := ⟨by simp [rx0, sizeR, sizeL], by simp [rx0, depthR, depthL], tame_kind _ _ _ (fun y hy => by simp at hy)⟩
  unfold parseS
  split
  · exact h0
  · rename_i hl
    split
    · rename_i r hr
      split
      · have h1 := (parse_size _).2.2.2 _ _ _ _ hr
        simp [sizeL] at h1
        have h2 := depth_size r
        exact ⟨by simp; omega, by simp; omega, (parse_tame _).2.2.2 _ _ _ _ (by simp) hr⟩
      · exact h0
    · exact h0

/-- An expression and an error. -/
def GotX (w : World) (p : Rx × Int) (e : Ending) (w' : World) : Prop :=
  ∃ v ok, e = .returned (.tuple #[v, .int .i64 p.2]) ∧ RxV w' ok v p.1 ∧ Below w.heap.size w w'
/-- What the program's functions do. -/
structure Cs : Prop where
  right : ∀ (W : World) (ok : Nat → Prop) (v : Value) (r : Rx), RxV W ok v r → sizeR r ≤ 1000 → depthR r ≤ 1000 → Calls Tryz.prog 12 #[v] W fun e w' => e = .returned (.int .i64 (rightR r)) ∧ Below W.heap.size W w'
  same : ∀ (W : World) (ok ok' : Nat → Prop) (v v' : Value) (r r' : Rx), RxV W ok v r → RxV W ok' v' r' → sizeR r ≤ 1000 → sizeR r' ≤ 1000 → depthR r ≤ 1000 → depthR r' ≤ 1000 → ∀ q : Bool, (q = true ↔ r = r') →
    Calls Tryz.prog 14 #[v, v'] W fun e w' => e = .returned (.bool q) ∧ Below W.heap.size W w'
  parse : ∀ (s : ByteArray) (W : World), s.size ≤ 100000 → Calls Tryz.prog 16 #[.string s] W (GotX W (parseS s.data.toList))
  print : ∀ (W : World) (ok : Nat → Prop) (v : Value) (r : Rx), RxV W ok v r → sizeR r ≤ 1000 → depthR r ≤ 1000 → Tame r → Calls Tryz.prog 18 #[v] W fun e w' => e = .returned (.tuple #[.string (bs (printS r).1), .int .i64 (printS r).2]) ∧ Below W.heap.size W w'
  has : ∀ (W : World) (ok : Nat → Prop) (A : Option Addr) (n c : Nat) (set : List (UInt8 × UInt8)) (x : UInt8) (q : Bool), RgS W ok A n c set → set.length ≤ 1000 → hasS set x = q →
    Calls Tryz.prog 20 #[.slice A n c, .int .u8 (x.toNat : Int)] W fun e w' => e = .returned (.bool q) ∧ Below W.heap.size W w'
  lens : ∀ (W : World) (ok : Nat → Prop) (v : Value) (r : Rx), RxV W ok v r → rightR r = 0 → Calls Tryz.prog 22 #[v] W fun e w' => e = .returned (.tuple #[.int .i64 (lenR r).1, .int .i64 (lenR r).2]) ∧ Below W.heap.size W w'
  fold : ∀ (W : World) (ok : Nat → Prop) (v : Value) (r : Rx), RxV W ok v r → rightR r = 0 → Tame r → Calls Tryz.prog 24 #[v] W fun e w' => ∃ v' ok', e = .returned v' ∧ RxV w' ok' v' (foldR r) ∧ Below W.heap.size W w'

set_option maxRecDepth 20000 in
set_option maxHeartbeats 3200000 in
theorem one27 (c : UInt8) (w : World) : Calls Tryz.prog 27 #[.int .u8 (c.toNat : Int)] w fun e w' => ∃ v, e = .returned v ∧ RxV w' (fun g => w.heap.size ≤ g) v (setR [(c, c)]) ∧ Below w.heap.size w w' := by
  obtain ⟨w0, hw0⟩ : ∃ w0, w.alloc (.cells #[.int .i64 0, .slice none 0 0, .int .i64 0, .int .i64 0, .slice none 0 0] 25) = w0 := ⟨_, rfl⟩
  have hF := hide (show FiveF w0 w.heap.size (.int .i64 0) (.slice none 0 0) (.int .i64 0) (.int .i64 0) (.slice none 0 0) by rw [← hw0]; exact fiveF_new w _ _ _ _ _ 25)
  have hB := hide (show Below w.heap.size w w0 by rw [← hw0]; exact bnew (Below.refl _ w) _)
  have hs0 : w0.heap.size = w.heap.size + 1 := by rw [← hw0]; simp
  have L := ownR_lit w0 #[.int .u8 (c.toNat : Int), .int .u8 (c.toNat : Int)] [(c, c)] 1 rfl rfl (by decide)
  have hbb := (Below.refl (w.heap.size + 1) w0).alloc (by omega) (.cells #[.int .u8 (c.toNat : Int), .int .u8 (c.toNat : Int)] 48)
  have R := hide ((L.mono (B' := w.heap.size + 1) (by omega)).rxv)
  have hfx := hF.out.at_ hbb (Nat.lt_succ_self _)
  have HFx := hide hfx
  have HBx := hide (hB.out.trans (hbb.mono (Nat.le_succ _)))
  obtain ⟨⟨-, f1, f2, f3, f4, f5⟩, f6, f7, f8, f9, f10⟩ := hfx
  clear L hbb hs0
  go_enter Tryz.func27, Tryz.ntmps27
  go_wp2
  exact bodyPost_ret (res_box rfl _ _ w.heap.size _ _ _ _ _ rfl (put5_five HFx.out (.int .i64 1) (.slice (some ⟨w0.heap.size, 0, none⟩) 1 1) (.int .i64 0) (.int .i64 0) (.slice none 0 0))) rfl ⟨_, rfl, put5_rxv R.out (Nat.lt_succ_self _) _ (Nat.le_succ _), put5_below HBx.out (Nat.le_refl _)⟩

set_option maxRecDepth 20000 in
set_option maxHeartbeats 3200000 in
theorem prints28 (C : Cs) (s t : ByteArray) (r : Rx) (u : List UInt8) (w : World) (hs : s.size ≤ 100000) (hp : parseS s.data.toList = (r, 0)) (hq : printS r = (u, 0)) (ht : bs u = t) :
    Calls Tryz.prog 28 #[.string s, .string t] w fun e w' => e = .returned (.bool true) ∧ Below w.heap.size w w' := by
  subst ht
  have h1 := C.parse s w hs
  obtain ⟨k1, k2, k3⟩ := parse_small s.data.toList
  rw [hp] at h1 k1 k2 k3
  have H1 := hide h1
  have H2 := hide (fun (W : World) (ok : Nat → Prop) (v : Value) (hv : RxV W ok v r) => C.print W ok v r hv k1 k2 k3)
  rw [hq] at H2
  clear h1 k1 k2 k3 C hp hq
  go_enter Tryz.func28, Tryz.ntmps28
  go_wp2_with fail
  with_reducible refine H1.out.mono ?_
  rintro e w3 ⟨v, ok, rfl, hr, hb⟩
  obtain ⟨q0, qA, qn, qc, q1, q2, qB, qm, qd, rfl⟩ := hr.agg9
  have hbA := bnew (Below.refl _ w3) (.cells #[.int .i64 q0, .slice qA qn qc, .int .i64 q1, .int .i64 q2, .slice qB qm qd] 25)
  have B4 := hide (bgo hb hbA)
  have R4 := hide (hr.kept hbA)
  have hfv := five_new w3 (.int .i64 q0) (.slice qA qn qc) (.int .i64 q1) (.int .i64 q2) (.slice qB qm qd) 25
  obtain ⟨-, b0, b1, b2, b3, b4⟩ := hfv
  clear hr hb hbA
  go_wp2_with fail
  with_reducible refine (H2.out _ _ _ R4.out).mono ?_
  rintro e w5 ⟨rfl, hb5⟩
  have B5 := hide (bgo B4.out hb5)
  clear hb5 b0 b1 b2 b3 b4
  go_wp2
  go_ret
  exact ⟨rfl, B5.out⟩

set_option maxRecDepth 20000 in
set_option maxHeartbeats 3200000 in
theorem refused29 (C : Cs) (s : ByteArray) (z : Int) (w : World) (hs : s.size ≤ 100000) (hp : (parseS s.data.toList).2 = z) :
    Calls Tryz.prog 29 #[.string s, .int .i64 z] w fun e w' => e = .returned (.bool true) ∧ Below w.heap.size w w' := by
  have h1 := C.parse s w hs
  unfold GotX at h1
  rw [hp] at h1
  have H1 := hide h1
  clear h1 C hp
  go_enter Tryz.func29, Tryz.ntmps29
  go_wp2_with fail
  with_reducible refine H1.out.mono ?_
  rintro e w3 ⟨v, ok, rfl, hr, hb⟩
  obtain ⟨q0, qA, qn, qc, q1, q2, qB, qm, qd, rfl⟩ := hr.agg9
  have hbA := bnew (Below.refl _ w3) (.cells #[.int .i64 q0, .slice qA qn qc, .int .i64 q1, .int .i64 q2, .slice qB qm qd] 25)
  have B4 := hide (bgo hb hbA)
  have hfv := five_new w3 (.int .i64 q0) (.slice qA qn qc) (.int .i64 q1) (.int .i64 q2) (.slice qB qm qd) 25
  obtain ⟨-, b0, b1, b2, b3, b4⟩ := hfv
  clear hr hb hbA
  go_wp2
  go_ret
  exact ⟨rfl, B4.out⟩

end Go.Proofs.YtmiegjefmebpdaaGreatDoor
