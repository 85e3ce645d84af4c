/- TopRegex: Zg. -/
import Init.Data.List.Lemmas
import Init.Data.UInt.Lemmas
import Derived.Lib.TrailingZeros
import Derived.Test.YtlnbjdlooghpeaaGreatDoorTRx
import Derived.Test.YtlnbjdlooghpeaaGreatDoorTRy
import Derived.Test.YtlnbjdlooghpeaaGreatDoorTBa
import Derived.RangeFuncNested
import Derived.RangeFuncBound
import Derived.RangeFuncCalls
import Derived.RangeFuncLeaves
import Derived.RangeFuncBox
import Derived.Shelf.Abstract
import Derived.Shelf.RegionOpen
import Derived.OwnWalkIn
import Derived.TacticsInMore
import Derived.LoopNIn
import Derived.LoopIn
import Derived.RegionIn
import Derived.Deep.RegionHeld
import Derived.TacticsIn
import Derived.Test.YtlnbjdlooghpeaaGreatDoorProg
import Derived.BigRegion
import Derived.StillTailTactics
import Derived.Shelf.Spec.TrailingZeros
import Derived.Laws.BitsAllLaws
import Derived.Laws.ResultCell
import Derived.Deep.RegionHeld3
import Derived.Deep.RegionWith
import Derived.Test.YtlnbjdlooghpeaaGreatDoorRows
import Derived.ProofKit
import Derived.OpenShut
import Derived.Lib.SmallJoins
import Derived.Lib.LaidTab
namespace Go.Proofs.YtlnbjdlooghpeaaGreatDoor
def noneC (n : Nat) : List Bool := List.replicate (n + 1) false
def bothC (a b : List Bool) : List Bool := a.zipWith (· || ·) b
def freshC (a b : List Bool) : List Bool := a.zipWith (fun x y => x && !y) b
def leafC (k : Int) (set : List (UInt8 × UInt8)) (s : List UInt8) (f : List Bool) : List Bool :=
  (List.range (s.length + 1)).map fun j => if k = 1 then (decide (0 < j) && f.getD (j - 1) false && (match s[j - 1]? with | some c => hasS set c | none => false)) else f.getD j false && standsB k s j
def frontC (T : List Bool → List Bool) : Nat → List Bool → List Bool → List Bool
  | 0, all, _ => all
  | k + 1, all, edge => frontC T k (bothC all (T edge)) (freshC (T edge) all)
def timesC (T : List Bool → List Bool) : Nat → List Bool → List Bool
  | 0, f => f
  | n + 1, f => timesC T n (T f)
def repC (T : List Bool → List Bool) (a b : Int) (N : Nat) (f : List Bool) : List Bool :=
  frontC T (if b < 0 then N + 2 else b.toNat - a.toNat) (timesC T a.toNat f) (timesC T a.toNat f)
mutual
def stepC : Rx → List UInt8 → List Bool → List Bool
  | .mk k set a b l, s, f => if k = 2 then catC l s f else if k = 3 then altC l s f else if k = 4 then repC (fun g => oneC l s g) a b s.length f else leafC k set s f
def catC : List Rx → List UInt8 → List Bool → List Bool
  | [], _, f => f
  | x :: l, s, f => catC l s (stepC x s f)
def altC : List Rx → List UInt8 → List Bool → List Bool
  | [], s, _ => noneC s.length
  | x :: l, s, f => bothC (stepC x s f) (altC l s f)
def oneC : List Rx → List UInt8 → List Bool → List Bool
  | [], s, _ => noneC s.length
  | x :: _, s, f => stepC x s f
end
def offsC (f : List Bool) : List Nat := (List.range f.length).filter fun i => f.getD i false
def endsC (r : Rx) (s : List UInt8) (i : Nat) : List Nat := offsC (stepC r s ((noneC s.length).set i true))
theorem noneC_len (n : Nat) : (noneC n).length = n + 1 := by simp [noneC]
theorem bothC_len {a b : List Bool} {n : Nat} (ha : a.length = n) (hb : b.length = n) : (bothC a b).length = n := by simp [bothC, ha, hb]
theorem freshC_len {a b : List Bool} {n : Nat} (ha : a.length = n) (hb : b.length = n) : (freshC a b).length = n := by simp [freshC, ha, hb]
theorem frontC_len {T : List Bool → List Bool} {n : Nat} (hT : ∀ f : List Bool, f.length = n → (T f).length = n) : ∀ (k : Nat) (a e : List Bool), a.length = n → e.length = n → (frontC T k a e).length = n
  | 0, _, _, ha, _ => ha
  | k + 1, _, e, ha, he => frontC_len hT k _ _ (bothC_len ha (hT e he)) (freshC_len (hT e he) ha)
theorem timesC_len {T : List Bool → List Bool} {n : Nat} (hT : ∀ f : List Bool, f.length = n → (T f).length = n) : ∀ (k : Nat) (f : List Bool), f.length = n → (timesC T k f).length = n
  | 0, _, h => h
  | k + 1, f, h => timesC_len hT k _ (hT f h)
theorem stepC_len (r : Rx) (s : List UInt8) : ∀ f : List Bool, f.length = s.length + 1 → (stepC r s f).length = s.length + 1 := by
  induction r using Rx.ind with
  | h k set a b l ih =>
    intro f hf
    unfold stepC
    split
    · have : ∀ (m : List Rx), (∀ x ∈ m, x ∈ l) → ∀ f : List Bool, f.length = s.length + 1 → (catC m s f).length = s.length + 1 := by
        intro m
        induction m with
        | nil => intro _ f hf; unfold catC; exact hf
        | cons x m ihm => intro hm f hf; unfold catC; exact ihm (fun y hy => hm y (List.mem_cons_of_mem _ hy)) _ (ih x (hm x (by simp)) f hf)
      exact this l (fun x hx => hx) f hf
    · split
      · have : ∀ (m : List Rx), (∀ x ∈ m, x ∈ l) → (altC m s f).length = s.length + 1 := by
          intro m
          induction m with
          | nil => intro _; unfold altC; exact noneC_len _
          | cons x m ihm => intro hm; unfold altC; exact bothC_len (ih x (hm x (by simp)) f hf) (ihm fun y hy => hm y (List.mem_cons_of_mem _ hy))
        exact this l fun x hx => hx
      · split
        · have hT : ∀ g : List Bool, g.length = s.length + 1 → (oneC l s g).length = s.length + 1 := by
            intro g hg
            cases l with
            | nil => unfold oneC; exact noneC_len _
            | cons x l => unfold oneC; exact ih x (by simp) g hg
          exact frontC_len hT _ _ _ (timesC_len hT _ f hf) (timesC_len hT _ f hf)
        · simp [leafC]
end Go.Proofs.YtlnbjdlooghpeaaGreatDoor
namespace Go.Proofs.YtlnbjdlooghpeaaGreatDoor
theorem getD_out {f : List Bool} {j : Nat} (h : f.length ≤ j) : f.getD j false = false := by simp [List.getD, List.getElem?_eq_none h]
def On (f : List Bool) (j : Nat) : Prop := f.getD j false = true
theorem on_lt {f : List Bool} {j : Nat} (h : On f j) : j < f.length := by
  unfold On at h
  by_cases hj : j < f.length
  · exact hj
  · rw [getD_out (by omega)] at h; cases h
theorem bothC_at {a b : List Bool} (h : a.length = b.length) (j : Nat) : On (bothC a b) j ↔ On a j ∨ On b j := by
  unfold On bothC
  by_cases hj : j < a.length
  · have hb : j < b.length := by omega
    simp [List.getD, hj, hb, List.getElem?_zipWith]
  · have hb : ¬ j < b.length := by omega
    rw [getD_out (by simp; omega), getD_out (by omega), getD_out (by omega)]
    simp
theorem freshC_at {a b : List Bool} (h : a.length = b.length) (j : Nat) : On (freshC a b) j ↔ On a j ∧ ¬ On b j := by
  unfold On freshC
  by_cases hj : j < a.length
  · have hb : j < b.length := by omega
    simp [List.getD, hj, hb, List.getElem?_zipWith]
  · have hb : ¬ j < b.length := by omega
    rw [getD_out (by simp; omega), getD_out (by omega), getD_out (by omega)]
    simp
theorem noneC_at (n j : Nat) : ¬ On (noneC n) j := by
  intro h
  have := on_lt h
  unfold On noneC at h
  simp [List.getD, List.getElem?_replicate] at h
  split at h <;> simp at h
theorem timesC_at {T : List Bool → List Bool} {R : Nat → Nat → Prop} {n : Nat} (hl : ∀ f : List Bool, f.length = n → (T f).length = n) (hT : ∀ f : List Bool, f.length = n → ∀ j, On (T f) j ↔ Img R (On f) j) :
    ∀ (k : Nat) (f : List Bool), f.length = n → ∀ j, On (timesC T k f) j ↔ ImgN R k (On f) j
  | 0, _, _, j => (imgN_zero j).symm
  | k + 1, f, hf, j => by
    unfold timesC
    rw [timesC_at hl hT k (T f) (hl f hf) j, show k + 1 = 1 + k by omega, imgN_add 1 k j]
    have e : On (T f) = ImgN R 1 (On f) := funext fun q => propext ((hT f hf q).trans (img_one q).symm)
    rw [e]
theorem frontC_at {T : List Bool → List Bool} {R : Nat → Nat → Prop} {P : Nat → Prop} {n : Nat} (hl : ∀ f : List Bool, f.length = n → (T f).length = n) (hT : ∀ f : List Bool, f.length = n → ∀ j, On (T f) j ↔ Img R (On f) j) :
    ∀ (m k : Nat) (a e : List Bool), a.length = n → e.length = n → Front R P k (On a) (On e) → ∀ j, On (frontC T m a e) j ↔ UpTo R (k + m) P j
  | 0, _, _, _, _, _, h, j => h.is j
  | m + 1, k, a, e, ha, he, h, j => by
    unfold frontC
    rw [frontC_at hl hT m (k + 1) _ _ (bothC_len ha (hl e he)) (freshC_len (hl e he) ha) (h.next (fun q => (bothC_at (by rw [ha, hl e he]) q).trans (or_congr Iff.rfl (hT e he q))) fun q => (freshC_at (by rw [ha, hl e he]) q).trans (and_congr (hT e he q) Iff.rfl)) j, show k + 1 + m = k + (m + 1) by omega]
theorem iter_short {R : Nat → Nat → Prop} {N : Nat} (h : ∀ i j, i ≤ N → R i j → i ≤ j ∧ j ≤ N) : ∀ (n i j : Nat), i ≤ N → Iter R n i j → ∃ m, m ≤ j - i ∧ Iter R m i j
  | 0, i, j, _, e => ⟨0, Nat.zero_le _, e⟩
  | n + 1, i, j, hi, ⟨q, h1, h2⟩ => by
    obtain ⟨a1, a2⟩ := h i q hi h1
    obtain ⟨b1, _⟩ := iter_le h n q j a2 h2
    obtain ⟨m, hm, k⟩ := iter_short h n q j a2 h2
    by_cases e : q = i
    · subst e; exact ⟨m, hm, k⟩
    · exact ⟨m + 1, by omega, q, h1, k⟩
theorem repC_at {T : List Bool → List Bool} {R : Nat → Nat → Prop} {N : Nat} (hl : ∀ f : List Bool, f.length = N + 1 → (T f).length = N + 1) (hT : ∀ f : List Bool, f.length = N + 1 → ∀ j, On (T f) j ↔ Img R (On f) j) (hR : ∀ i j, i ≤ N → R i j → i ≤ j ∧ j ≤ N)
    (a b : Int) (ha : 0 ≤ a) (hab : b < 0 ∨ a ≤ b) (f : List Bool) (hf : f.length = N + 1) (j : Nat) : On (repC T a b N f) j ↔ ∃ n : Nat, a ≤ n ∧ (b < 0 ∨ (n : Int) ≤ b) ∧ ImgN R n (On f) j := by
  unfold repC
  have hL := timesC_len hl a.toNat f hf
  have e : On (timesC T a.toNat f) = ImgN R a.toNat (On f) := funext fun q => propext (timesC_at hl hT a.toNat f hf q)
  rw [frontC_at hl hT _ 0 _ _ hL hL (Front.start R _) j, Nat.zero_add, e, rep_upto]
  by_cases hb : b < 0
  · rw [if_pos hb]
    constructor
    · rintro ⟨n, h1, _, h⟩
      exact ⟨n, by omega, Or.inl hb, h⟩
    · rintro ⟨n, h1, _, h⟩
      have h' : ImgN R (a.toNat + (n - a.toNat)) (On f) j := by rwa [show a.toNat + (n - a.toNat) = n by omega]
      obtain ⟨i, hi, hit⟩ := (imgN_add a.toNat (n - a.toNat) j).1 h'
      have hiN : i ≤ N := by
        obtain ⟨q, hq, hqi⟩ := hi
        have := on_lt hq
        exact (iter_le hR _ q i (by omega) hqi).2
      have hjN := (iter_le hR _ i j hiN hit).2
      obtain ⟨m, hm, k⟩ := iter_short hR _ i j hiN hit
      exact ⟨a.toNat + m, by omega, by omega, (imgN_add a.toNat m j).2 ⟨i, hi, k⟩⟩
  · rw [if_neg hb]
    have hab' := hab.resolve_left hb
    constructor
    · rintro ⟨n, h1, h2, h⟩
      exact ⟨n, by omega, Or.inr (by omega), h⟩
    · rintro ⟨n, h1, h2, h⟩
      have := h2.resolve_left hb
      exact ⟨n, by omega, by omega, h⟩
end Go.Proofs.YtlnbjdlooghpeaaGreatDoor
namespace Go.Proofs.YtlnbjdlooghpeaaGreatDoor
theorem getD_range (n : Nat) (g : Nat → Bool) (j : Nat) : ((List.range n).map g).getD j false = (decide (j < n) && g j) := by
  by_cases h : j < n
  · simp [List.getD, h]
  · simp [List.getD, h]
theorem leafC_at (k : Int) (set : List (UInt8 × UInt8)) (s : List UInt8) (f : List Bool) (a b : Int) (l : List Rx) (h2 : ¬ k = 2) (h3 : ¬ k = 3) (h4 : ¬ k = 4) (j : Nat) :
    On (leafC k set s f) j ↔ Img (mtR (.mk k set a b l) s) (On f) j := by
  unfold On leafC
  rw [getD_range, Bool.and_eq_true, decide_eq_true_eq]
  unfold Img mtR
  simp only [if_neg h2, if_neg h3, if_neg h4]
  by_cases h1 : k = 1
  · simp only [if_pos h1]
    constructor
    · rintro ⟨hj, h⟩
      simp only [Bool.and_eq_true, decide_eq_true_eq] at h
      obtain ⟨⟨h0, hfj⟩, hs⟩ := h
      split at hs
      · rename_i c hc
        exact ⟨j - 1, hfj, c, hc, hs, by omega⟩
      · cases hs
    · rintro ⟨i, hfi, c, hc, hs, rfl⟩
      have := (List.getElem?_eq_some_iff.1 hc).1
      refine ⟨by omega, ?_⟩
      simp only [Nat.add_sub_cancel, hc, hs, Bool.and_true, Bool.and_eq_true, decide_eq_true_eq]
      exact ⟨by omega, hfi⟩
  · simp only [if_neg h1]
    constructor
    · rintro ⟨hj, h⟩
      rw [Bool.and_eq_true] at h
      exact ⟨j, h.1, by omega, h.2, rfl⟩
    · rintro ⟨i, hfi, hi, hs, rfl⟩
      exact ⟨by omega, by rw [Bool.and_eq_true]; exact ⟨hfi, hs⟩⟩
theorem stepC_at (r : Rx) (s : List UInt8) : nodeR r = 0 → ∀ f : List Bool, f.length = s.length + 1 → ∀ j, On (stepC r s f) j ↔ Img (mtR r s) (On f) j := by
  induction r using Rx.ind with
  | h k set a b l ih =>
    intro hn f hf j
    obtain ⟨_, hb, hsub⟩ := node_ok hn
    unfold stepC
    by_cases h2 : k = 2
    · rw [if_pos h2]
      have : ∀ (m : List Rx), (∀ x ∈ m, x ∈ l) → ∀ f : List Bool, f.length = s.length + 1 → (On (catC m s f) j ↔ Img (mtCat m s) (On f) j) := by
        intro m
        induction m with
        | nil =>
          intro _ f _
          unfold catC
          exact ⟨fun h => ⟨j, h, by unfold mtCat; rfl⟩, fun ⟨i, hi, e⟩ => by unfold mtCat at e; cases e; exact hi⟩
        | cons x m ihm =>
          intro hm f hf
          unfold catC
          have hx := hm x (by simp)
          rw [ihm (fun y hy => hm y (List.mem_cons_of_mem _ hy)) _ (stepC_len x s f hf), img_cat]
          have e : On (stepC x s f) = Img (mtR x s) (On f) := funext fun q => propext (ih x hx (hsub x hx) f hf q)
          rw [e]
      rw [this l (fun x hx => hx) f hf]
      unfold Img mtR
      simp only [if_pos h2]
    · rw [if_neg h2]
      by_cases h3 : k = 3
      · rw [if_pos h3]
        have : ∀ (m : List Rx), (∀ x ∈ m, x ∈ l) → (altC m s f).length = s.length + 1 ∧ (On (altC m s f) j ↔ Img (mtAlt m s) (On f) j) := by
          intro m
          induction m with
          | nil =>
            intro _
            unfold altC
            exact ⟨noneC_len _, fun h => absurd h (noneC_at _ _), fun ⟨i, _, e⟩ => by unfold mtAlt at e; exact e.elim⟩
          | cons x m ihm =>
            intro hm
            have hx := hm x (by simp)
            obtain ⟨l1, l2⟩ := ihm fun y hy => hm y (List.mem_cons_of_mem _ hy)
            have lx := stepC_len x s f hf
            unfold altC
            exact ⟨bothC_len lx l1, by rw [bothC_at (by rw [lx, l1]), img_alt, l2, ih x hx (hsub x hx) f hf]⟩
        rw [(this l fun x hx => hx).2]
        unfold Img mtR
        simp only [if_neg h2, if_pos h3]
      · rw [if_neg h3]
        by_cases h4 : k = 4
        · rw [if_pos h4]
          have hbd := hb h4
          have hl : ∀ g : List Bool, g.length = s.length + 1 → (oneC l s g).length = s.length + 1 := by
            intro g hg
            cases l with
            | nil => unfold oneC; exact noneC_len _
            | cons x l => unfold oneC; exact stepC_len x s g hg
          have hT : ∀ g : List Bool, g.length = s.length + 1 → ∀ q, On (oneC l s g) q ↔ Img (mtOne l s) (On g) q := by
            intro g hg q
            cases l with
            | nil =>
              unfold oneC
              exact ⟨fun h => absurd h (noneC_at _ _), fun ⟨i, _, e⟩ => by unfold mtOne at e; exact e.elim⟩
            | cons x l =>
              unfold oneC
              rw [ih x (by simp) (hsub x (by simp)) g hg q]
              unfold Img mtOne
              exact Iff.rfl
          have hR : ∀ i q, i ≤ s.length → mtOne l s i q → i ≤ q ∧ q ≤ s.length := by
            intro i q hi h
            cases l with
            | nil => unfold mtOne at h; exact h.elim
            | cons x l => unfold mtOne at h; exact mt_le x s i q hi h
          have hab : 0 ≤ a ∧ (b < 0 ∨ a ≤ b) := by
            unfold boundsR at hbd
            simp at hbd
            omega
          rw [repC_at hl hT hR a b hab.1 hab.2 f hf j]
          unfold Img mtR
          simp only [if_neg h2, if_neg h3, if_pos h4]
          exact ⟨fun ⟨n, h5, h6, i, hi, h7⟩ => ⟨i, hi, n, h5, h6, h7⟩, fun ⟨i, hi, n, h5, h6, h7⟩ => ⟨n, h5, h6, i, hi, h7⟩⟩
        · rw [if_neg h4]
          exact leafC_at k set s f a b l h2 h3 h4 j
end Go.Proofs.YtlnbjdlooghpeaaGreatDoor
namespace Go.Proofs.YtlnbjdlooghpeaaGreatDoor
theorem offsC_mem (f : List Bool) (j : Nat) : j ∈ offsC f ↔ On f j := by
  unfold offsC
  rw [List.mem_filter, List.mem_range]
  exact ⟨fun h => h.2, fun h => ⟨on_lt h, h⟩⟩
theorem atC_at (n i : Nat) (h : i ≤ n) (j : Nat) : On ((noneC n).set i true) j ↔ j = i := by
  unfold On noneC
  by_cases hj : j = i
  · subst hj
    simp only [List.getD, List.getElem?_set_self (show j < (List.replicate (n + 1) false).length by simp; omega), Option.getD_some]
  · simp only [List.getD, List.getElem?_set]
    rw [if_neg (fun e => hj e.symm)]
    constructor
    · intro h
      exact absurd h (noneC_at n j)
    · intro e; exact absurd e hj
theorem endsC_mem (r : Rx) (s : List UInt8) (hn : nodeR r = 0) (i : Nat) (hi : i ≤ s.length) (j : Nat) : j ∈ endsC r s i ↔ mtR r s i j := by
  unfold endsC
  rw [offsC_mem, stepC_at r s hn _ (by rw [List.length_set, noneC_len]) j]
  constructor
  · rintro ⟨q, hq, h⟩
    rw [(atC_at s.length i hi q).1 hq] at h
    exact h
  · exact fun h => ⟨i, (atC_at s.length i hi i).2 rfl, h⟩
def findN (r : Rx) (s : List UInt8) : Nat → Nat → Option (Nat × Nat)
  | 0, _ => none
  | n + 1, i => match (endsC r s i).getLast? with | some j => some (i, j) | none => findN r s n (i + 1)
def findP (r : Rx) (s : List UInt8) (from_ : Int) : Option (Nat × Nat) := if rightR r = 0 ∧ from_ ≤ (s.length : Int) then findN r s (s.length + 1 - from_.toNat) from_.toNat else none
theorem findN_some (r : Rx) (s : List UInt8) : ∀ (n i a b : Nat), findN r s n i = some (a, b) → i ≤ a ∧ a < i + n ∧ (endsC r s a).getLast? = some b ∧ ∀ q, i ≤ q → q < a → endsC r s q = []
  | 0, _, _, _, h => by cases h
  | n + 1, i, a, b, h => by
    unfold findN at h
    cases he : (endsC r s i).getLast? with
    | some j =>
      rw [he] at h
      cases h
      exact ⟨Nat.le_refl _, by omega, he, fun q h1 h2 => by omega⟩
    | none =>
      rw [he] at h
      obtain ⟨h1, h2, h3, h4⟩ := findN_some r s n (i + 1) a b h
      refine ⟨by omega, by omega, h3, fun q h5 h6 => ?_⟩
      by_cases hq : q = i
      · subst hq; exact List.getLast?_eq_none_iff.1 he
      · exact h4 q (by omega) h6
theorem findN_none (r : Rx) (s : List UInt8) : ∀ (n i : Nat), findN r s n i = none → ∀ q, i ≤ q → q < i + n → endsC r s q = []
  | 0, _, _, q, h1, h2 => by omega
  | n + 1, i, h, q, h1, h2 => by
    unfold findN at h
    cases he : (endsC r s i).getLast? with
    | some j => rw [he] at h; cases h
    | none =>
      rw [he] at h
      by_cases hq : q = i
      · subst hq; exact List.getLast?_eq_none_iff.1 he
      · exact findN_none r s n (i + 1) h q (by omega) (by omega)
def allN (r : Rx) (s : List UInt8) : Nat → Nat → List (Nat × Nat)
  | 0, _ => []
  | n + 1, i => match findP r s i with | some (a, b) => (a, b) :: allN r s n (if a = b then b + 1 else b) | none => []
def allP (r : Rx) (s : List UInt8) : List (Nat × Nat) := allN r s (s.length + 2) 0
end Go.Proofs.YtlnbjdlooghpeaaGreatDoor
namespace Go.Proofs.YtlnbjdlooghpeaaGreatDoor
theorem on_ext {a b : List Bool} (hl : a.length = b.length) (h : ∀ j, On a j ↔ On b j) : a = b := by
  refine List.ext_getElem hl fun i h1 h2 => ?_
  have := h i
  unfold On at this
  simp only [List.getD, List.getElem?_eq_getElem h1, List.getElem?_eq_getElem h2, Option.getD_some] at this
  cases ha : a[i] <;> cases hb : b[i] <;> simp [ha, hb] at this ⊢
theorem timesC_fix {T : List Bool → List Bool} {f : List Bool} (h : T f = f) : ∀ n, timesC T n f = f
  | 0 => rfl
  | n + 1 => by unfold timesC; rw [h]; exact timesC_fix h n
theorem none_ext {e : List Bool} {n : Nat} (hl : e.length = n + 1) (h : ∀ j, ¬ On e j) : e = noneC n := on_ext (by rw [hl, noneC_len]) fun j => ⟨fun k => absurd k (h j), fun k => absurd k (noneC_at n j)⟩
theorem bothC_none {a : List Bool} {n : Nat} (h : a.length = n + 1) : bothC a (noneC n) = a := on_ext (by rw [bothC_len h (noneC_len n), h]) fun j => by
  rw [bothC_at (by rw [h, noneC_len])]
  exact ⟨fun k => k.resolve_right (noneC_at n j), Or.inl⟩
theorem noneC_both {a : List Bool} {n : Nat} (h : a.length = n + 1) : bothC (noneC n) a = a := on_ext (by rw [bothC_len (noneC_len n) h, h]) fun j => by
  rw [bothC_at (by rw [h, noneC_len])]
  exact ⟨fun k => k.resolve_left (noneC_at n j), Or.inr⟩
theorem bothC_assoc {a b c : List Bool} {n : Nat} (ha : a.length = n) (hb : b.length = n) (hc : c.length = n) : bothC (bothC a b) c = bothC a (bothC b c) := on_ext (by rw [bothC_len (bothC_len ha hb) hc, bothC_len ha (bothC_len hb hc)]) fun j => by
  rw [bothC_at (by rw [bothC_len ha hb, hc]), bothC_at (by rw [ha, hb]), bothC_at (by rw [ha, bothC_len hb hc]), bothC_at (by rw [hb, hc])]
  exact or_assoc
def altL (s : List UInt8) (f : List Bool) : List Rx → List Bool → List Bool
  | [], acc => acc
  | x :: l, acc => altL s f l (bothC acc (stepC x s f))
theorem altL_eq (s : List UInt8) (f : List Bool) (hf : f.length = s.length + 1) : ∀ (l : List Rx) (acc : List Bool), acc.length = s.length + 1 → altL s f l acc = bothC acc (altC l s f) ∧ (altC l s f).length = s.length + 1
  | [], acc, ha => by
    unfold altL altC
    exact ⟨(bothC_none ha).symm, noneC_len _⟩
  | x :: l, acc, ha => by
    have hx := stepC_len x s f hf
    obtain ⟨h1, h2⟩ := altL_eq s f hf l (bothC acc (stepC x s f)) (bothC_len ha hx)
    unfold altL altC
    exact ⟨by rw [h1, bothC_assoc ha hx h2], bothC_len hx h2⟩
end Go.Proofs.YtlnbjdlooghpeaaGreatDoor
namespace Go.Proofs.YtlnbjdlooghpeaaGreatDoor
def maskC : List Bool → Nat
  | [] => 0
  | b :: l => b.toNat + 2 * maskC l
theorem mask_lt : ∀ f : List Bool, maskC f < 2 ^ f.length
  | [] => by simp [maskC]
  | b :: l => by
    have := mask_lt l
    unfold maskC
    rw [List.length_cons, Nat.pow_succ]
    cases b <;> simp <;> omega
theorem mask_bit : ∀ (f : List Bool) (j : Nat), (maskC f).testBit j = f.getD j false
  | [], j => by simp [maskC, List.getD]
  | b :: l, 0 => by
    unfold maskC
    rw [Nat.testBit_zero]
    cases b <;> simp <;> omega
  | b :: l, j + 1 => by
    have := mask_bit l j
    unfold maskC
    rw [Nat.testBit_succ, show (b.toNat + 2 * maskC l) / 2 = maskC l by cases b <;> simp <;> omega, this]
    simp [List.getD]
theorem mask_on (f : List Bool) (j : Nat) : (maskC f).testBit j = true ↔ On f j := by rw [mask_bit]; rfl
theorem mask_inj {a b : List Bool} (hl : a.length = b.length) (h : maskC a = maskC b) : a = b := on_ext hl fun j => by rw [← mask_on, ← mask_on, h]
theorem mask_none (n : Nat) : maskC (noneC n) = 0 := by
  unfold noneC
  induction n + 1 with
  | zero => rfl
  | succ n ih => rw [List.replicate_succ]; unfold maskC; rw [ih]; rfl
theorem mask_both {a b : List Bool} (h : a.length = b.length) : maskC (bothC a b) = maskC a ||| maskC b := by
  refine Nat.eq_of_testBit_eq fun j => ?_
  rw [Bool.eq_iff_iff, mask_on, bothC_at h, Nat.testBit_or, Bool.or_eq_true, mask_on, mask_on]
theorem mask_fresh {a b : List Bool} (h : a.length = b.length) (j : Nat) : (maskC (freshC a b)).testBit j = ((maskC a).testBit j && !(maskC b).testBit j) := by
  rw [Bool.eq_iff_iff, mask_on, freshC_at h, Bool.and_eq_true, mask_on, Bool.not_eq_true', ← Bool.not_eq_true, mask_on]
theorem mask_set {f : List Bool} {j : Nat} (h : j < f.length) : maskC (f.set j true) = maskC f ||| 2 ^ j := by
  refine Nat.eq_of_testBit_eq fun q => ?_
  rw [Nat.testBit_or, Nat.testBit_two_pow, mask_bit, mask_bit]
  simp only [List.getD, List.getElem?_set]
  by_cases e : j = q
  · subst e; simp [h]
  · simp [e]
theorem mask_zero {f : List Bool} {n : Nat} (hl : f.length = n + 1) (h : maskC f = 0) : f = noneC n := mask_inj (by rw [hl, noneC_len]) (by rw [h, mask_none])
theorem mask_some {f : List Bool} (h : maskC f ≠ 0) : ∃ j, On f j := by
  apply Classical.byContradiction
  intro hn
  apply h
  refine Nat.eq_of_testBit_eq fun j => ?_
  rw [Nat.zero_testBit, ← Bool.not_eq_true, mask_on]
  exact fun hj => hn ⟨j, hj⟩
def bitsL (x : Nat) : List Nat := (List.range 64).filter x.testBit
theorem bits_zero : bitsL 0 = [] := by
  unfold bitsL
  rw [List.filter_eq_nil_iff]
  intro a _
  simp
theorem low_bits {x : Nat} (h0 : x ≠ 0) (h : x < 18446744073709551616) : (∀ j, j < Lib.ctz 64 x → x.testBit j = false) ∧ x.testBit (Lib.ctz 64 x) = true ∧
    (∀ j, (x &&& (x - 1)).testBit j = (x.testBit j && decide (j ≠ Lib.ctz 64 x))) ∧ Lib.ctz 64 x < 64 := by
  obtain ⟨m, hm, hk⟩ := Lib.ctzFrom_spec 64 x (by omega) h
  have e : Lib.ctz 64 x = Lib.ctzFrom 64 x := by simp [Lib.ctz, h0]
  rw [e]
  generalize Lib.ctzFrom 64 x = k at *
  have hp : 0 < 2 ^ k := Nat.pow_pos (by omega)
  have h1 : x = 2 ^ k * (2 * m + 1) + 0 := by omega
  have h2 : x - 1 = 2 ^ k * (2 * m) + (2 ^ k - 1) := by rw [hm, Nat.mul_add]; omega
  have t1 : ∀ j, x.testBit j = if j < k then false else (2 * m + 1).testBit (j - k) := fun j => by rw [h1, Nat.testBit_two_pow_mul_add _ hp]; simp
  have t2 : ∀ j, k ≤ j → (x - 1).testBit j = (2 * m).testBit (j - k) := fun j hj => by rw [h2, Nat.testBit_two_pow_mul_add _ (by omega), if_neg (by omega)]
  refine ⟨fun j hj => by rw [t1, if_pos hj], by rw [t1, if_neg (by omega), Nat.sub_self, Nat.testBit_zero]; simp, fun j => ?_, hk⟩
  rw [Nat.testBit_and]
  by_cases hj : j < k
  · rw [t1, if_pos hj]; simp
  · rw [t2 j (by omega), t1, if_neg hj]
    by_cases hjk : j = k
    · subst hjk; simp
    · obtain ⟨d, rfl⟩ : ∃ d, j = k + 1 + d := ⟨j - k - 1, by omega⟩
      rw [show k + 1 + d - k = d + 1 by omega, Nat.testBit_succ, Nat.testBit_succ, show (2 * m + 1) / 2 = m by omega, show 2 * m / 2 = m by omega]
      simp [hjk]
theorem bits_next {x : Nat} (h0 : x ≠ 0) (h : x < 18446744073709551616) : bitsL x = Lib.ctz 64 x :: bitsL (x &&& (x - 1)) := by
  obtain ⟨h1, h2, h3, hk⟩ := low_bits h0 h
  generalize Lib.ctz 64 x = k at *
  unfold bitsL
  have hr : List.range 64 = List.range k ++ k :: List.range' (k + 1) (63 - k) := by
    rw [← List.range'_succ, List.range_eq_range', List.range_eq_range', show 63 - k + 1 = 64 - k by omega]
    have := List.range'_append (s := 0) (m := k) (n := 64 - k) (step := 1)
    rw [show 0 + 1 * k = k by omega, show k + (64 - k) = 64 by omega] at this
    exact this.symm
  rw [hr, List.filter_append, List.filter_append, List.filter_cons, List.filter_cons, if_pos h2, if_neg (by rw [h3]; simp)]
  have f1 : (List.range k).filter x.testBit = [] := List.filter_eq_nil_iff.2 fun a ha => by rw [h1 a (List.mem_range.1 ha)]; simp
  have f2 : (List.range k).filter (x &&& (x - 1)).testBit = [] := List.filter_eq_nil_iff.2 fun a ha => by rw [h3, h1 a (List.mem_range.1 ha)]; simp
  rw [f1, f2, List.nil_append, List.nil_append]
  congr 1
  refine List.filter_congr fun a ha => ?_
  rw [h3]
  have : a ≠ k := by have := (List.mem_range'_1.1 ha).1; omega
  simp [this]
theorem bits_less {x : Nat} (h0 : x ≠ 0) : x &&& (x - 1) < x := Nat.lt_of_le_of_lt Nat.and_le_right (by omega)
theorem offs_bits {f : List Bool} (h : f.length ≤ 64) : bitsL (maskC f) = offsC f := by
  unfold bitsL offsC
  have hr : List.range 64 = List.range f.length ++ List.range' f.length (64 - f.length) := by
    rw [List.range_eq_range', List.range_eq_range']
    have := List.range'_append (s := 0) (m := f.length) (n := 64 - f.length) (step := 1)
    rw [show 0 + 1 * f.length = f.length by omega, show f.length + (64 - f.length) = 64 by omega] at this
    exact this.symm
  have f1 : (List.range' f.length (64 - f.length)).filter (maskC f).testBit = [] := List.filter_eq_nil_iff.2 fun a ha => by rw [mask_bit, getD_out (List.mem_range'_1.1 ha).1]; simp
  rw [hr, List.filter_append, f1, List.append_nil]
  exact List.filter_congr fun a _ => mask_bit f a
end Go.Proofs.YtlnbjdlooghpeaaGreatDoor
namespace Go.Proofs.YtlnbjdlooghpeaaGreatDoor
mutual
def mirR : Rx → Rx
  | .mk k set a b l => .mk (if k = 5 then 6 else if k = 6 then 5 else k) set a b (mirL l)
def mirL : List Rx → List Rx
  | [] => []
  | x :: l => mirL l ++ [mirR x]
end
theorem mtCat_cons (x : Rx) (l : List Rx) (s : List UInt8) (i j : Nat) : mtCat (x :: l) s i j ↔ ∃ q, mtR x s i q ∧ mtCat l s q j := by
  conv => lhs; unfold mtCat
theorem mtAlt_cons (x : Rx) (l : List Rx) (s : List UInt8) (i j : Nat) : mtAlt (x :: l) s i j ↔ mtR x s i j ∨ mtAlt l s i j := by
  conv => lhs; unfold mtAlt
theorem mtCat_app (s : List UInt8) : ∀ (l m : List Rx) (i j : Nat), mtCat (l ++ m) s i j ↔ ∃ q, mtCat l s i q ∧ mtCat m s q j
  | [], m, i, j => by
    rw [List.nil_append]
    constructor
    · intro h; exact ⟨i, by unfold mtCat; rfl, h⟩
    · rintro ⟨q, h, k⟩
      unfold mtCat at h
      subst h; exact k
  | x :: l, m, i, j => by
    rw [List.cons_append, mtCat_cons]
    simp only [mtCat_cons]
    constructor
    · rintro ⟨q, h, k⟩
      obtain ⟨p, k1, k2⟩ := (mtCat_app s l m q j).1 k
      exact ⟨p, ⟨q, h, k1⟩, k2⟩
    · rintro ⟨p, ⟨q, h, k1⟩, k2⟩
      exact ⟨q, h, (mtCat_app s l m q j).2 ⟨p, k1, k2⟩⟩
theorem mtAlt_app (s : List UInt8) (i j : Nat) : ∀ (l m : List Rx), mtAlt (l ++ m) s i j ↔ mtAlt l s i j ∨ mtAlt m s i j
  | [], m => by rw [List.nil_append]; exact ⟨Or.inr, fun h => h.resolve_left (by unfold mtAlt; exact id)⟩
  | x :: l, m => by
    rw [List.cons_append, mtAlt_cons, mtAlt_cons, mtAlt_app s i j l m, or_assoc]
theorem mtCat_le {s : List UInt8} : ∀ (l : List Rx) (i j : Nat), i ≤ s.length → mtCat l s i j → i ≤ j ∧ j ≤ s.length
  | [], i, j, hi, h => by unfold mtCat at h; subst h; exact ⟨Nat.le_refl _, hi⟩
  | x :: l, i, j, hi, h => by
    unfold mtCat at h
    obtain ⟨q, h1, h2⟩ := h
    obtain ⟨a, b⟩ := mt_le x s i q hi h1
    obtain ⟨c, d⟩ := mtCat_le l q j b h2
    exact ⟨Nat.le_trans a c, d⟩
theorem rev_at (s : List UInt8) (i : Nat) (h : i < s.length) : s.reverse[s.length - 1 - i]? = s[i]? := by
  rw [List.getElem?_reverse (by omega)]
  congr 1
  omega
theorem word_rev (s : List UInt8) (i : Nat) (h : i < s.length) : wordB s.reverse (s.length - 1 - i) = wordB s i := by unfold wordB; rw [rev_at s i h]
theorem word_out (s : List UInt8) (i : Nat) (h : s.length ≤ i) : wordB s i = false := by unfold wordB; rw [List.getElem?_eq_none h]
theorem stands_mir (k : Int) (s : List UInt8) (i : Nat) (h : i ≤ s.length) : standsB (if k = 5 then 6 else if k = 6 then 5 else k) s.reverse (s.length - i) = standsB k s i := by
  unfold standsB
  by_cases h5 : k = 5
  · subst h5
    simp only [if_pos, List.length_reverse]
    rw [if_neg (by decide)]
    by_cases h0 : i = 0
    · subst h0; simp
    · have e := rev_at s (i - 1) (by omega)
      rw [show s.length - 1 - (i - 1) = s.length - i by omega] at e
      rw [e]
      simp [show ¬ (s.length - i = s.length) by omega, h0]
  · by_cases h6 : k = 6
    · subst h6
      simp only [if_pos, if_neg h5]
      by_cases h0 : i = s.length
      · subst h0; simp
      · have e := rev_at s i (by omega)
        rw [show s.length - 1 - i = s.length - i - 1 by omega] at e
        rw [e]
        simp [show ¬ (s.length - i = 0) by omega, h0]
    · simp only [if_neg h5, if_neg h6]
      have e1 : (if s.length - i = 0 then false else wordB s.reverse (s.length - i - 1)) = wordB s i := by
        by_cases h0 : i = s.length
        · rw [if_pos (by omega), word_out s i (by omega)]
        · rw [if_neg (by omega), show s.length - i - 1 = s.length - 1 - i by omega, word_rev s i (by omega)]
      have e2 : wordB s.reverse (s.length - i) = (if i = 0 then false else wordB s (i - 1)) := by
        by_cases h0 : i = 0
        · rw [if_pos h0, word_out _ _ (by rw [List.length_reverse]; omega)]
        · rw [if_neg h0, ← word_rev s (i - 1) (by omega), show s.length - 1 - (i - 1) = s.length - i by omega]
      rw [e1, e2]
      cases wordB s i <;> cases (if i = 0 then false else wordB s (i - 1)) <;> rfl
theorem iter_mir {R R' : Nat → Nat → Prop} {N : Nat} (hle : ∀ i j, i ≤ N → R i j → i ≤ j ∧ j ≤ N) (hle' : ∀ i j, i ≤ N → R' i j → i ≤ j ∧ j ≤ N) (h : ∀ i j, i ≤ N → j ≤ N → (R' (N - j) (N - i) ↔ R i j)) :
    ∀ (n i j : Nat), i ≤ N → j ≤ N → (Iter R' n (N - j) (N - i) ↔ Iter R n i j)
  | 0, i, j, hi, hj => by unfold Iter; omega
  | n + 1, i, j, hi, hj => by
    rw [iter_last]
    show _ ↔ ∃ m, R i m ∧ Iter R n m j
    constructor
    · rintro ⟨m, h1, h2⟩
      have hm := (iter_le hle' n _ m (by omega) h1).2
      refine ⟨N - m, (h i (N - m) hi (by omega)).1 (by rw [show N - (N - m) = m by omega]; exact h2), ?_⟩
      exact (iter_mir hle hle' h n (N - m) j (by omega) hj).1 (by rw [show N - (N - m) = m by omega]; exact h1)
    · rintro ⟨m, h1, h2⟩
      have hm := (hle i m hi h1).2
      exact ⟨N - m, (iter_mir hle hle' h n m j hm hj).2 h2, (h i m hi hm).2 h1⟩
theorem mir_mt (r : Rx) (s : List UInt8) : nodeR r = 0 → ∀ i j, i ≤ s.length → j ≤ s.length → (mtR (mirR r) s.reverse (s.length - j) (s.length - i) ↔ mtR r s i j) := by
  induction r using Rx.ind with
  | h k set a b l ih =>
    have hL : (s.reverse).length = s.length := List.length_reverse
    intro hn i j hi hj
    obtain ⟨hfl, _, hsub⟩ := node_ok hn
    unfold mirR mtR
    by_cases h2 : k = 2
    · subst h2
      simp only [show ¬ ((2 : Int) = 5) by decide, show ¬ ((2 : Int) = 6) by decide, if_pos, if_neg, not_false_eq_true]
      have : ∀ (m : List Rx), (∀ x ∈ m, x ∈ l) → ∀ i j, i ≤ s.length → j ≤ s.length → (mtCat (mirL m) s.reverse (s.length - j) (s.length - i) ↔ mtCat m s i j) := by
        intro m
        induction m with
        | nil => intro _ i j hi hj; unfold mirL mtCat; omega
        | cons x m ihm =>
          intro hm i j hi hj
          unfold mirL
          rw [mtCat_app]
          conv => rhs; unfold mtCat
          constructor
          · rintro ⟨p, h1, h2⟩
            have hp := (mtCat_le _ _ p (by rw [hL]; omega) h1).2
            rw [hL] at hp
            unfold mtCat at h2
            obtain ⟨p', h2, h3⟩ := h2
            unfold mtCat at h3
            subst h3
            exact ⟨s.length - p, (ih x (hm x (by simp)) (hsub x (hm x (by simp))) i (s.length - p) hi (by omega)).1 (by rw [show s.length - (s.length - p) = p by omega]; exact h2), (ihm (fun y hy => hm y (List.mem_cons_of_mem _ hy)) (s.length - p) j (by omega) hj).1 (by rw [show s.length - (s.length - p) = p by omega]; exact h1)⟩
          · rintro ⟨q, h1, h2⟩
            have hq := (mt_le x s i q hi h1).2
            exact ⟨s.length - q, (ihm (fun y hy => hm y (List.mem_cons_of_mem _ hy)) q j hq hj).2 h2, by unfold mtCat; exact ⟨_, (ih x (hm x (by simp)) (hsub x (hm x (by simp))) i q hi hq).2 h1, by unfold mtCat; rfl⟩⟩
      exact this l (fun x hx => hx) i j hi hj
    · by_cases h3 : k = 3
      · subst h3
        simp only [show ¬ ((3 : Int) = 5) by decide, show ¬ ((3 : Int) = 6) by decide, show ¬ ((3 : Int) = 2) by decide, if_pos, if_neg, not_false_eq_true]
        have : ∀ (m : List Rx), (∀ x ∈ m, x ∈ l) → (mtAlt (mirL m) s.reverse (s.length - j) (s.length - i) ↔ mtAlt m s i j) := by
          intro m
          induction m with
          | nil => intro _; unfold mirL mtAlt; exact Iff.rfl
          | cons x m ihm =>
            intro hm
            unfold mirL
            rw [mtAlt_app, ihm (fun y hy => hm y (List.mem_cons_of_mem _ hy))]
            conv => rhs; unfold mtAlt
            rw [or_comm]
            refine or_congr ?_ Iff.rfl
            unfold mtAlt mtAlt
            rw [or_false]
            exact ih x (hm x (by simp)) (hsub x (hm x (by simp))) i j hi hj
        exact this l fun x hx => hx
      · by_cases h4 : k = 4
        · subst h4
          simp only [show ¬ ((4 : Int) = 5) by decide, show ¬ ((4 : Int) = 6) by decide, show ¬ ((4 : Int) = 2) by decide, show ¬ ((4 : Int) = 3) by decide, if_pos, if_neg, not_false_eq_true]
          have hl1 : l.length = 1 := by
            unfold fieldsR at hfl
            simp at hfl
            exact hfl.2
          obtain ⟨x, rfl⟩ := List.length_eq_one_iff.1 hl1
          have e1 : mtOne (mirL [x]) s.reverse = mtR (mirR x) s.reverse := by funext p q; unfold mirL mirL; rw [List.nil_append]; unfold mtOne; rfl
          have e2 : mtOne [x] s = mtR x s := by funext p q; unfold mtOne; rfl
          rw [e1, e2]
          have key := fun n => iter_mir (R := mtR x s) (R' := mtR (mirR x) s.reverse) (N := s.length) (mt_le x s) (fun p q hp h => by have := mt_le (mirR x) s.reverse p q (by rw [hL]; exact hp) h; rw [hL] at this; exact this) (fun p q hp hq => ih x (by simp) (hsub x (by simp)) p q hp hq) n i j hi hj
          simp only [key]
        · have e2 : ∀ c : Int, (c = 1 ∨ c = 2 ∨ c = 3 ∨ c = 4) → ((if k = 5 then 6 else if k = 6 then 5 else k) = c ↔ k = c) := by
            intro c hc
            split
            · omega
            · split <;> omega
          simp only [e2 2 (by omega), e2 3 (by omega), e2 4 (by omega), e2 1 (by omega), if_neg h2, if_neg h3, if_neg h4]
          by_cases h1 : k = 1
          · simp only [if_pos h1]
            constructor
            · rintro ⟨c, hc, hs, he⟩
              have hlt := (List.getElem?_eq_some_iff.1 hc).1
              rw [hL] at hlt
              have := rev_at s i (by omega)
              rw [show s.length - 1 - i = s.length - j by omega, hc] at this
              exact ⟨c, this.symm, hs, by omega⟩
            · rintro ⟨c, hc, hs, he⟩
              have hlt := (List.getElem?_eq_some_iff.1 hc).1
              have := rev_at s i hlt
              rw [show s.length - 1 - i = s.length - j by omega, hc] at this
              exact ⟨c, this, hs, by omega⟩
          · simp only [if_neg h1]
            constructor
            · rintro ⟨_, h, he⟩
              have : j = i := by omega
              subst this
              rw [stands_mir k s j hj] at h
              exact ⟨hi, h, rfl⟩
            · rintro ⟨_, h, rfl⟩
              exact ⟨by rw [hL]; omega, by rw [stands_mir k s j hj]; exact h, rfl⟩
end Go.Proofs.YtlnbjdlooghpeaaGreatDoor
namespace Go.Proofs.YtlnbjdlooghpeaaGreatDoor
theorem mirL_len : ∀ l : List Rx, (mirL l).length = l.length
  | [] => rfl
  | x :: l => by unfold mirL; rw [List.length_append, mirL_len l]; rfl
theorem mirL_mem {y : Rx} : ∀ {l : List Rx}, y ∈ mirL l → ∃ x ∈ l, y = mirR x
  | x :: l, h => by
    unfold mirL at h
    rcases List.mem_append.1 h with h | h
    · obtain ⟨z, hz, e⟩ := mirL_mem h
      exact ⟨z, by simp [hz], e⟩
    · exact ⟨x, by simp, by simpa using h⟩
theorem nodeL_nul {l : List Rx} (h : ∀ x ∈ l, nodeR x = 0) : nodeL l = 0 := by
  induction l with
  | nil => rfl
  | cons x l ih =>
    unfold nodeL
    rw [if_pos (h x (by simp))]
    exact ih fun y hy => h y (by simp [hy])
theorem sizeL_join (l m : List Rx) : sizeL (l ++ m) = sizeL l + sizeL m := by
  induction l with
  | nil => simp [sizeL]
  | cons x l ih => simp only [List.cons_append, sizeL, ih]; omega
theorem mir_size (r : Rx) : sizeR (mirR r) = sizeR r := by
  induction r using Rx.ind with
  | h k s a b l ih =>
    have : ∀ m : List Rx, (∀ x ∈ m, sizeR (mirR x) = sizeR x) → sizeL (mirL m) = sizeL m := by
      intro m
      induction m with
      | nil => intro _; rfl
      | cons x m ihm =>
        intro h
        unfold mirL
        rw [sizeL_join, ihm (fun y hy => h y (by simp [hy]))]
        simp only [sizeL, h x (by simp)]
        omega
    unfold mirR
    simp only [sizeR]
    rw [this l ih]
theorem node_mir (r : Rx) : nodeR r = 0 → nodeR (mirR r) = 0 := by
  induction r using Rx.ind with
  | h k set a b l ih =>
    intro h
    obtain ⟨hf, hb, hs⟩ := node_ok h
    have hsub : nodeL (mirL l) = 0 := nodeL_nul fun y hy => by
      obtain ⟨x, hx, rfl⟩ := mirL_mem hy
      exact ih x hx (hs x hx)
    unfold mirR
    unfold nodeR
    have hf' : fieldsR (.mk (if k = 5 then 6 else if k = 6 then 5 else k) set a b (mirL l)) = true := by
      unfold fieldsR at hf ⊢
      simp only [] at hf ⊢
      rw [mirL_len]
      by_cases h5 : k = 5
      · subst h5; simpa using hf
      · by_cases h6 : k = 6
        · subst h6; simpa using hf
        · rw [if_neg h5, if_neg h6]; exact hf
    rw [if_neg (by rw [hf']; simp), if_neg ?_]
    · exact hsub
    · rintro ⟨h4, h5⟩
      have h4' : k = 4 := by split at h4; omega; split at h4; omega; exact h4
      rw [hb h4'] at h5
      cases h5
def bgsC (r : Rx) (s : List UInt8) : List Nat := (List.range (s.length + 1)).filter fun i => decide (endsC r s i ≠ [])
theorem bgs_mem (r : Rx) (s : List UInt8) (i : Nat) : i ∈ bgsC r s ↔ i ≤ s.length ∧ endsC r s i ≠ [] := by
  unfold bgsC
  rw [List.mem_filter, List.mem_range, decide_eq_true_eq]
  exact and_congr (by omega) Iff.rfl
theorem bgs_sorted (r : Rx) (s : List UInt8) : (bgsC r s).Pairwise (· < ·) := List.Pairwise.filter _ (List.pairwise_lt_range)
theorem ends_some (r : Rx) (s : List UInt8) (hn : nodeR r = 0) (i : Nat) (hi : i ≤ s.length) : endsC r s i ≠ [] ↔ ∃ j, mtR r s i j := by
  constructor
  · intro h
    obtain ⟨j, hj⟩ := List.exists_mem_of_ne_nil _ h
    exact ⟨j, (endsC_mem r s hn i hi j).1 hj⟩
  · rintro ⟨j, hj⟩ h
    have := (endsC_mem r s hn i hi j).2 hj
    rw [h] at this
    cases this
theorem range_rev (N : Nat) : ((List.range (N + 1)).map fun x => N - x).reverse = List.range (N + 1) := by
  refine List.ext_getElem (by simp) fun i h1 h2 => ?_
  simp at h1 h2 ⊢
  omega
theorem mir_on (r : Rx) (s : List UInt8) (hn : nodeR r = 0) (all : List Bool) (hl : all.length = s.length + 1) (hall : ∀ j, On all j ↔ j ≤ s.length) (x : Nat) (hx : x ≤ s.length) :
    (On (stepC (mirR r) s.reverse all) x) ↔ endsC r s (s.length - x) ≠ [] := by
  rw [stepC_at (mirR r) s.reverse (node_mir r hn) all (by rw [List.length_reverse]; exact hl) x, ends_some r s hn _ (by omega)]
  constructor
  · rintro ⟨y, hy, h⟩
    have hy' := (hall y).1 hy
    refine ⟨s.length - y, (mir_mt r s hn (s.length - x) (s.length - y) (by omega) (by omega)).1 ?_⟩
    rw [show s.length - (s.length - y) = y by omega, show s.length - (s.length - x) = x by omega]
    exact h
  · rintro ⟨j, hj⟩
    have hle := mt_le r s (s.length - x) j (by omega) hj
    refine ⟨s.length - j, (hall _).2 (by omega), ?_⟩
    have := (mir_mt r s hn (s.length - x) j (by omega) hle.2).2 hj
    rwa [show s.length - (s.length - x) = x by omega] at this
theorem bgs_is (r : Rx) (s : List UInt8) (hn : nodeR r = 0) (all : List Bool) (hl : all.length = s.length + 1) (hall : ∀ j, On all j ↔ j ≤ s.length) :
    ((offsC (stepC (mirR r) s.reverse all)).map fun x => s.length - x).reverse = bgsC r s := by
  have hL : (stepC (mirR r) s.reverse all).length = s.length + 1 := by
    rw [stepC_len (mirR r) s.reverse all (by rw [List.length_reverse]; exact hl), List.length_reverse]
  unfold bgsC
  conv => rhs; rw [← range_rev s.length]
  rw [List.filter_reverse, List.filter_map]
  unfold offsC
  rw [hL]
  congr 2
  refine List.filter_congr fun x hx => ?_
  have hx' : x ≤ s.length := by rw [List.mem_range] at hx; omega
  have h := mir_on r s hn all hl hall x hx'
  show (stepC (mirR r) s.reverse all).getD x false = decide (endsC r s (s.length - x) ≠ [])
  rw [Bool.eq_iff_iff, decide_eq_true_eq]
  exact h
theorem findN_at (r : Rx) (s : List UInt8) : ∀ (n i a : Nat), i ≤ a → a < i + n → (∀ q, i ≤ q → q < a → endsC r s q = []) → ∀ b, (endsC r s a).getLast? = some b → findN r s n i = some (a, b)
  | 0, i, a, h1, h2, _, _, _ => by omega
  | n + 1, i, a, h1, h2, h3, b, h4 => by
    unfold findN
    rcases Nat.lt_or_ge i a with h | h
    · rw [h3 i (Nat.le_refl _) h]
      exact findN_at r s n (i + 1) a h (by omega) (fun q h5 h6 => h3 q (by omega) h6) b h4
    · obtain rfl : i = a := by omega
      rw [h4]
theorem findN_no (r : Rx) (s : List UInt8) : ∀ (n i : Nat), (∀ q, i ≤ q → q < i + n → endsC r s q = []) → findN r s n i = none
  | 0, _, _ => rfl
  | n + 1, i, h => by
    unfold findN
    rw [h i (Nat.le_refl _) (by omega)]
    exact findN_no r s n (i + 1) fun q h1 h2 => h q (by omega) (by omega)
theorem find_at (r : Rx) (s : List UInt8) (h0 : rightR r = 0) (from_ : Int) (k a : Nat) (hk : (bgsC r s)[k]? = some a) (hlt : ∀ x ∈ (bgsC r s).take k, (x : Int) < from_) (ha : from_ ≤ (a : Int)) : findP r s from_ = some (a, (endsC r s a).getLast?.getD 0) := by
  have hmem := List.mem_of_getElem? hk
  obtain ⟨h1, h2⟩ := (bgs_mem r s a).1 hmem
  unfold findP
  rw [if_pos ⟨h0, by omega⟩]
  obtain ⟨b, hb⟩ : ∃ b, (endsC r s a).getLast? = some b := by
    cases h : (endsC r s a).getLast? with
    | some b => exact ⟨b, rfl⟩
    | none => exact absurd (List.getLast?_eq_none_iff.1 h) h2
  rw [hb]
  refine findN_at r s _ _ a (by omega) (by omega) (fun q h3 h4 => ?_) b hb
  by_cases hq : endsC r s q = []
  · exact hq
  · exfalso
    have hqm := (bgs_mem r s q).2 ⟨by omega, hq⟩
    obtain ⟨j, hj⟩ := List.getElem?_of_mem hqm
    have hjk : j < k := by
      rcases Nat.lt_or_ge j k with h | h
      · exact h
      · exfalso
        obtain ⟨j1, j2⟩ := List.getElem?_eq_some_iff.1 hj
        obtain ⟨k1, k2⟩ := List.getElem?_eq_some_iff.1 hk
        rcases Nat.lt_or_ge k j with h' | h'
        · have := List.pairwise_iff_getElem.1 (bgs_sorted r s) k j k1 j1 h'
          omega
        · obtain rfl : j = k := by omega
          omega
    have := hlt q (by
      obtain ⟨j1, j2⟩ := List.getElem?_eq_some_iff.1 hj
      rw [List.mem_take_iff_getElem]
      exact ⟨j, by omega, j2⟩)
    omega
theorem find_none (r : Rx) (s : List UInt8) (from_ : Int) (hlt : ∀ x ∈ bgsC r s, (x : Int) < from_) : findP r s from_ = none := by
  unfold findP
  split
  · rename_i h
    refine findN_no r s _ _ fun q h1 h2 => ?_
    by_cases hq : endsC r s q = []
    · exact hq
    · have := hlt q ((bgs_mem r s q).2 ⟨by omega, hq⟩)
      omega
  · rfl
end Go.Proofs.YtlnbjdlooghpeaaGreatDoor
namespace Go.Proofs.YtlnbjdlooghpeaaGreatDoor
def lastE (r : Rx) (s : List UInt8) (x : Nat) : Nat := (endsC r s x).getLast?.getD 0
def progA (r : Rx) (s : List UInt8) : List Nat → Nat → List (Nat × Nat)
  | [], _ => []
  | x :: l, from_ => if x < from_ then progA r s l from_ else (x, lastE r s x) :: progA r s l (lastE r s x)
def stepA (r : Rx) (s : List UInt8) (p : List (Nat × Nat) × Nat) (x : Nat) : List (Nat × Nat) × Nat := if x < p.2 then p else (p.1 ++ [(x, lastE r s x)], lastE r s x)
theorem fold_prog (r : Rx) (s : List UInt8) : ∀ (l : List Nat) (p : List (Nat × Nat) × Nat), (l.foldl (stepA r s) p).1 = p.1 ++ progA r s l p.2
  | [], p => by simp [progA]
  | x :: l, p => by
    rw [List.foldl_cons, fold_prog r s l]
    rw [show progA r s (x :: l) p.2 = if x < p.2 then progA r s l p.2 else (x, lastE r s x) :: progA r s l (lastE r s x) from rfl]
    unfold stepA
    by_cases h : x < p.2
    · rw [if_pos h, if_pos h]
    · rw [if_neg h, if_neg h]; simp
theorem last_ge (r : Rx) (s : List UInt8) (hn : nodeR r = 0) (x : Nat) (hx : x ∈ bgsC r s) : x ≤ lastE r s x ∧ lastE r s x ≤ s.length := by
  obtain ⟨h1, h2⟩ := (bgs_mem r s x).1 hx
  unfold lastE
  cases h : (endsC r s x).getLast? with
  | none => exact absurd (List.getLast?_eq_none_iff.1 h) h2
  | some b =>
    have hb : b ∈ endsC r s x := List.mem_of_getLast? h
    exact mt_le r s x b h1 ((endsC_mem r s hn x h1 b).1 hb)
theorem all_prog (r : Rx) (s : List UInt8) (h0 : rightR r = 0) (hn : nodeR r = 0) : ∀ (L P : List Nat) (i from_ n : Nat), bgsC r s = P ++ L → (∀ x ∈ P, x < i) → (∀ x ∈ L, (x < from_ ↔ x < i)) → L.length + 1 ≤ n → allN r s n i = progA r s L from_
  | [], P, i, from_, n, hb, hP, _, hf => by
    obtain ⟨n, rfl⟩ : ∃ m, n = m + 1 := ⟨n - 1, by omega⟩
    unfold allN progA
    rw [find_none r s i (fun x hx => by
      rw [hb, List.append_nil] at hx
      have := hP x hx
      omega)]
  | x :: L, P, i, from_, n, hb, hP, hL, hf => by
    have hb2 : bgsC r s = (P ++ [x]) ++ L := by rw [hb]; simp
    have hsort := bgs_sorted r s
    have hxm : x ∈ bgsC r s := by rw [hb]; simp
    have hlow : ∀ y ∈ P, y < x := fun y hy => by
      rw [hb, List.pairwise_append] at hsort
      exact hsort.2.2 y hy x (by simp)
    have hup : ∀ y ∈ L, x < y := fun y hy => by
      rw [hb, List.pairwise_append] at hsort
      have := hsort.2.1
      rw [List.pairwise_cons] at this
      exact this.1 y hy
    unfold progA
    by_cases h : x < from_
    · rw [if_pos h]
      refine all_prog r s h0 hn L (P ++ [x]) i from_ n hb2 (fun y hy => ?_) (fun y hy => hL y (by simp [hy])) (by simp at hf; omega)
      rcases List.mem_append.1 hy with hy | hy
      · exact hP y hy
      · rw [List.mem_singleton] at hy
        subst hy
        exact (hL y (by simp)).1 h
    · rw [if_neg h]
      obtain ⟨n, rfl⟩ : ∃ m, n = m + 1 := ⟨n - 1, by omega⟩
      have hxi : ¬ x < i := fun e => h ((hL x (by simp)).2 e)
      have hfind : findP r s i = some (x, lastE r s x) := find_at r s h0 i P.length x (by rw [hb]; simp) (fun y hy => by
        rw [hb, List.take_left' rfl] at hy
        have := hP y hy
        omega) (by omega)
      have hxl := (last_ge r s hn x hxm).1
      unfold allN
      rw [hfind]
      simp only []
      congr 1
      refine all_prog r s h0 hn L (P ++ [x]) _ (lastE r s x) n hb2 (fun y hy => ?_) (fun y hy => ?_) (by simp at hf; omega)
      · have hyx : y ≤ x := by
          rcases List.mem_append.1 hy with hy | hy
          · have := hlow y hy; omega
          · rw [List.mem_singleton] at hy; omega
        split <;> omega
      · have := hup y hy
        split <;> omega
theorem all_is (r : Rx) (s : List UInt8) (h0 : rightR r = 0) (hn : nodeR r = 0) : ((bgsC r s).foldl (stepA r s) ([], 0)).1 = allP r s := by
  rw [fold_prog, List.nil_append]
  have hbl : (bgsC r s).length ≤ s.length + 1 := by
    unfold bgsC
    exact Nat.le_trans (List.length_filter_le _ _) (by simp)
  exact (all_prog r s h0 hn (bgsC r s) [] 0 0 _ rfl (fun x hx => (by cases hx)) (fun x _ => Iff.rfl) (by omega)).symm
theorem all_bad (r : Rx) (s : List UInt8) (h0 : rightR r ≠ 0) : allP r s = [] := by
  unfold allP
  show allN r s (s.length + 1 + 1) 0 = []
  unfold allN
  have : findP r s (0 : Nat) = none := by unfold findP; rw [if_neg (fun h => h0 h.1)]
  rw [this]
end Go.Proofs.YtlnbjdlooghpeaaGreatDoor
namespace Go.Proofs.YtlnbjdlooghpeaaGreatDoor
open Go.RowKit
def rowC (m : Nat) : List Value := [.int .i64 0, .int .u64 (m : Int), .int .u64 0, .int .u64 0, .int .u64 0]
def SetV (W : World) (v : Value) (m : Nat) : Prop :=
  (m = 0 ∧ ∃ A c, v = .slice A 0 c ∧ c ≤ 9223372036854775807) ∨ (m ≠ 0 ∧ ∃ b c, v = .slice (some ⟨b, 0, none⟩) 1 c ∧ 1 ≤ c ∧ c ≤ 9223372036854775807 ∧ b < W.heap.size ∧ ∀ j, j < 5 → W.cell? ⟨b, j, none⟩ = (rowC m)[j]?)
def OffV (W : World) (v : Value) (m : Nat) : Prop := ∃ s, v = .agg #[s] ∧ SetV W s m
theorem SetV.below {W W' : World} {v : Value} {m : Nat} (h : SetV W v m) (hb : Below W.heap.size W W') : SetV W' v m := by
  rcases h with ⟨h0, h⟩ | ⟨h0, b, c, hv, h1, h2, hlt, hc⟩
  · exact Or.inl ⟨h0, h⟩
  · exact Or.inr ⟨h0, b, c, hv, h1, h2, by have := hb.size; omega, fun j hj => (hb.cell (p := ⟨b, j, none⟩) hlt).trans (hc j hj)⟩
theorem OffV.none (W : World) : OffV W (.agg #[.slice none 0 0]) 0 := ⟨_, rfl, Or.inl ⟨rfl, Option.none, 0, rfl, by omega⟩⟩
def Acc (n0 : Nat) (W : World) (v : Value) (m : Nat) : Prop := (m = 0 ∧ v = .slice none 0 0) ∨ (m ≠ 0 ∧ W.ownsRow n0 127 5 v 1 (rowC m))
theorem Acc.set {n0 : Nat} {W : World} {v : Value} {m : Nat} (h : Acc n0 W v m) : SetV W v m := by
  rcases h with ⟨h0, rfl⟩ | ⟨h0, h⟩
  · exact Or.inl ⟨h0, Option.none, 0, rfl, by omega⟩
  · obtain ⟨g, cap, hv, hB, hlt⟩ := World.ownsRow.form h (by omega)
    refine Or.inr ⟨h0, g, cap, hv, ?_⟩
    rcases h.2 with ⟨_, e⟩ | ⟨g', cap', cur, hv', _, _, h1, h2, _⟩
    · omega
    · rw [hv] at hv'
      simp only [Value.slice.injEq, Option.some.injEq, Addr.mk.injEq, and_true, true_and] at hv'
      obtain ⟨rfl, rfl⟩ := hv'
      subst hv
      exact ⟨h1, by unfold maxLen at h2; omega, hlt, fun j hj => World.ownsRow.cellAt h j (by omega)⟩
theorem Acc.below {n0 : Nat} {W W' : World} {v : Value} {m : Nat} (h : Acc n0 W v m) (hb : Below W.heap.size W W') : Acc n0 W' v m := by
  rcases h with h | ⟨h0, h⟩
  · exact Or.inl h
  · exact Or.inr ⟨h0, owns_below' h hb⟩
theorem Acc.none (n0 : Nat) (W : World) : Acc n0 W (.slice none 0 0) 0 := Or.inl ⟨rfl, rfl⟩
def Box (n0 : Nat) (W : World) (B : Nat) (v : Value) (m : Nat) : Prop := n0 ≤ B ∧ W.heap[B]? = some (.cells #[v] 62 (0, 0)) ∧ Acc n0 W v m
theorem Box.lt {n0 : Nat} {W : World} {B : Nat} {v : Value} {m : Nat} (h : Box n0 W B v m) : B < W.heap.size := lt_of_block h.2.1
theorem Box.below {n0 : Nat} {W W' : World} {B : Nat} {v : Value} {m : Nat} (h : Box n0 W B v m) (hb : Below W.heap.size W W') : Box n0 W' B v m := ⟨h.1, (hb.block B h.lt).trans h.2.1, h.2.2.below hb⟩
theorem Box.low {n0 : Nat} {W : World} {B : Nat} {v : Value} {m : Nat} (h : Box n0 W B v m) {k : Nat} (hk : v.ownBlock = some k) : n0 ≤ k ∧ k < W.heap.size := by
  rcases h.2.2 with ⟨_, rfl⟩ | ⟨_, ho⟩
  · simp [Value.ownBlock] at hk
  · exact World.ownsRow.lt ho k hk
theorem Box.new {n0 : Nat} (W : World) (h : n0 ≤ W.heap.size) : Box n0 (W.alloc (.cells #[.slice none 0 0] 62)) W.heap.size (.slice none 0 0) 0 := ⟨h, heap_alloc_new W _, Acc.none _ _⟩
structure Turns (p : Nat → Prop) (W W' : World) : Prop where
  os : W'.os = W.os
  tape : W'.tape = W.tape
  output : W'.output = W.output
  size : W.heap.size ≤ W'.heap.size
  block : ∀ k, k < W.heap.size → ¬ p k → W'.heap[k]? = W.heap[k]?
theorem Turns.refl (p : Nat → Prop) (W : World) : Turns p W W := ⟨rfl, rfl, rfl, Nat.le_refl _, fun _ _ _ => rfl⟩
theorem Turns.trans {p q r : Nat → Prop} {A B C : World} (h : Turns p A B) (k : Turns q B C) (hp : ∀ i, i < A.heap.size → p i → r i) (hq : ∀ i, i < A.heap.size → q i → r i) : Turns r A C :=
  ⟨k.os.trans h.os, k.tape.trans h.tape, k.output.trans h.output, Nat.le_trans h.size k.size, fun i hi hr => (k.block i (by have := h.size; omega) fun x => hr (hq i hi x)).trans (h.block i hi fun x => hr (hp i hi x))⟩
theorem Turns.of_below {p : Nat → Prop} {A B : World} (h : Below A.heap.size A B) : Turns p A B := ⟨h.os, h.tape, h.output, h.size, fun k hk _ => h.block k hk⟩
theorem Turns.below {p : Nat → Prop} {A B : World} {n : Nat} (h : Turns p A B) (hn : n ≤ A.heap.size) (hp : ∀ k, p k → n ≤ k) : Below n A B := ⟨h.os, h.tape, h.output, h.size, fun k hk => h.block k (by omega) fun x => by have := hp k x; omega⟩
theorem Turns.set {p : Nat → Prop} {A B : World} {a : Addr} {u : Value} (h : Turns p A B) (hp : a.block < A.heap.size → p a.block) : Turns p A (B.setCell a u) :=
  ⟨h.os, h.tape, h.output, by have := h.size; simp [World.setCell]; omega, fun k hk hn => (Below.heap_setCell _ _ _ _ (fun e => hn (by rw [e]; exact hp (by omega)))).trans (h.block k hk hn)⟩
theorem Turns.drew {p : Nat → Prop} {A B : World} (h : Turns p A B) : Turns p A B.drew := ⟨h.os, h.tape, h.output, h.size, h.block⟩
theorem Turns.alloc {p : Nat → Prop} {A B : World} (h : Turns p A B) (o : Obj) : Turns p A (B.alloc o) :=
  ⟨h.os, h.tape, h.output, by have := h.size; simp; omega, fun k hk hn => (Below.heap_alloc _ _ _ (by have := h.size; omega)).trans (h.block k hk hn)⟩
theorem Turns.drawn {p : Nat → Prop} {A B : World} (h : Turns p A B) (j : Nat) : Turns p A (B.drewN j) := ⟨h.os, h.tape, h.output, h.size, h.block⟩
theorem Turns.grown {p : Nat → Prop} {A B C : World} {row : Option Nat} (h : Turns p A B) (hg : B.grownBy C row) (hr : ∀ k, row = some k → p k) : Turns p A C :=
  ⟨hg.os.trans h.os, hg.tape.trans h.tape, hg.output.trans h.output, Nat.le_trans h.size hg.size, fun k hk hn => (hg.block k (by have := h.size; omega) (fun e => hn (hr k e.symm))).trans (h.block k hk hn)⟩
theorem c1_row (w : World) (c0 c1 c2 c3 c4 : Value) (T : TypeId) : ∀ (j : Nat) (u : Value), [c0, c1, c2, c3, c4][j]? = some u → (w.alloc (.cells #[c0, c1, c2, c3, c4] T)).cell? ((⟨w.heap.size, 0, none⟩ : Addr).add j) = some u := by
  intro j u h
  match j, h with
  | 0, h => simp at h; subst h; rw [addr0, World.cell?_alloc_mark]; rfl
  | 1, h => simp at h; subst h; rw [addr0, World.cell?_alloc_mark]; rfl
  | 2, h => simp at h; subst h; rw [addr0, World.cell?_alloc_mark]; rfl
  | 3, h => simp at h; subst h; rw [addr0, World.cell?_alloc_mark]; rfl
  | 4, h => simp at h; subst h; rw [addr0, World.cell?_alloc_mark]; rfl
theorem rowC_one (m : Nat) : ∀ u ∈ rowC m, u.oneCell' = true := by
  intro u hu
  simp [rowC] at hu
  rcases hu with rfl | rfl | rfl <;> rfl
theorem row_setZ {w : World} {B e g n cap sz : Nat} {xs : List Value} (h : w.ownsRow B e sz (.slice (some ⟨g, 0, none⟩) n cap) n xs) (j : Nat) (u : Value) : (w.setCell ⟨g, j, none⟩ u).ownsRow B e sz (.slice (some ⟨g, 0, none⟩) n cap) n (xs.set j u) := by
  obtain ⟨h1, h2⟩ := h
  refine ⟨by rw [List.length_set]; exact h1, ?_⟩
  rcases h2 with ⟨h0, _⟩ | ⟨g', cap', cur, hv, hB, hh, hn, hm, hs, ht⟩
  · cases h0
  · simp only [Value.slice.injEq, Option.some.injEq, Addr.mk.injEq, and_true, true_and] at hv
    obtain ⟨rfl, rfl⟩ := hv
    refine Or.inr ⟨g, cap, cur.setIfInBounds j u, rfl, hB, Go.Joins.block_setCell hh u, hn, hm, by simpa using hs, ?_⟩
    rw [Array.toList_setIfInBounds, List.take_set, ht]
theorem or_pow_ne (m q : Nat) : m ||| 2 ^ q ≠ 0 := fun h => by
  have : (m ||| 2 ^ q).testBit q = true := by simp
  rw [h] at this
  simp at this
theorem or_pow_lt {m q N : Nat} (hm : m < 2 ^ N) (hq : q < N) : m ||| 2 ^ q < 2 ^ N := Nat.or_lt_two_pow hm (Nat.pow_lt_pow_right (by omega) hq)
theorem or_u64 (a q : Nat) (ha : a < 2305843009213693952) (hq : q < 61) : bits .or .u64 (a : Int) (IntKind.u64.wrap (2 ^ q)) = ((a ||| 2 ^ q : Nat) : Int) := by
  have h2 : 2 ^ q < 2 ^ 61 := Nat.pow_lt_pow_right (by omega) hq
  have e : (IntKind.u64.wrap (2 ^ q)) = ((2 ^ q : Nat) : Int) := by
    rw [show ((2 : Int) ^ q) = ((2 ^ q : Nat) : Int) by norm_cast, IntKind.wrap_u64]
    generalize 2 ^ q = E at *
    omega
  rw [e, bits_or_u64_nat a _ (by omega) (by omega)]
def PutV (n0 : Nat) (W : World) (B : Nat) (v : Value) (m : Nat) (e : Ending) (W' : World) : Prop :=
  e = .returned (.tuple #[]) ∧ ∃ v', Box n0 W' B v' m ∧ Turns (fun k => k = B ∨ v.ownBlock = some k) W W' ∧ (v'.ownBlock = v.ownBlock ∨ ∀ k, v'.ownBlock = some k → W.heap.size ≤ k)
theorem put_end {n0 B g cap m q : Nat} {W X : World} {v : Value} (hB : n0 ≤ B) (hXB : X.heap[B]? = some (.cells #[.slice (some ⟨g, 0, none⟩) 1 cap] 62 (0, 0))) (hO : X.ownsRow n0 127 5 (.slice (some ⟨g, 0, none⟩) 1 cap) 1 (rowC m))
    (hT : Turns (fun k => k = B ∨ v.ownBlock = some k) W X) (hg : v.ownBlock = some g ∨ W.heap.size ≤ g) (hm : m < 2305843009213693952) (hq : q < 61) (a : Int) (ha : a = (m : Int)) :
    ∃ v', Box n0 ((X.setCell ⟨g, 1, none⟩ (.int .u64 (bits .or .u64 a (IntKind.u64.wrap (2 ^ q))))).drew) B v' (m ||| 2 ^ q) ∧ Turns (fun k => k = B ∨ v.ownBlock = some k) W ((X.setCell ⟨g, 1, none⟩ (.int .u64 (bits .or .u64 a (IntKind.u64.wrap (2 ^ q))))).drew) ∧
      (v'.ownBlock = v.ownBlock ∨ ∀ k, v'.ownBlock = some k → W.heap.size ≤ k) := by
  subst ha
  rw [or_u64 m q hm hq]
  have hgB : g ≠ B := fun e => by
    subst e
    exact own_far hO hXB (by decide) rfl
  refine ⟨.slice (some ⟨g, 0, none⟩) 1 cap, ⟨hB, ?_, Or.inr ⟨or_pow_ne m q, ?_⟩⟩, (hT.set fun hlt => Or.inr ?_).drew, ?_⟩
  · exact (Below.heap_setCell X ⟨g, 1, none⟩ _ B (fun e => hgB e.symm)).trans hXB
  · exact row_setZ hO 1 (.int .u64 ((m ||| 2 ^ q : Nat) : Int))
  · rcases hg with h | h
    · exact h
    · exact absurd hlt (by show ¬ g < _; omega)
  · rcases hg with h | h
    · exact Or.inl h.symm
    · exact Or.inr fun k e => by simp [Value.ownBlock] at e; omega
section
variable {P : Program} {ops : Array Oper} {rest : List Oper} {o : Oper} {a : Act} {Q : Exit → Act → World → Prop}
theorem wp_push_row (hgd : o.guard = none) (s x : Operand) (t : TypeId) (ho : o.op = .call { callee := .builtin .append, args := #[s, x], argTypes := #[t, t] })
    (i : TypeInfo) (z : Value) (bytes : Nat) (ht : P.underlying t = some (.slice 127)) (hi : P.info? 127 = some i) (hz : i.zero = some z) (hsize : i.size = 5) (hby : i.bytes = bytes) (hzs : z.cells.size = 5)
    (hb : bytes ≤ 100) (w0 : World) (c0 c1 c2 c3 c4 : Value) (hone : ∀ u ∈ [c0, c1, c2, c3, c4], u.oneCell' = true) (hs : a.eval s = .slice none 0 0) (H : Nat) (hH : H = w0.heap.size) (hx : a.eval x = .slice (some ⟨H, 0, none⟩) 1 1)
    (h : ∀ g cap w', w0.heap.size ≤ g → w'.ownsRow w0.heap.size 127 5 (.slice (some ⟨g, 0, none⟩) 1 cap) 1 [c0, c1, c2, c3, c4] → Below w0.heap.size w0 w' → wpList P ops Q rest (a.put o.dst (.slice (some ⟨g, 0, none⟩) 1 cap)) w') :
    wpList P ops Q (o :: rest) a (w0.alloc (.cells #[c0, c1, c2, c3, c4] 127)) := by
  subst hH
  have hz1 : (w0.alloc (.cells #[c0, c1, c2, c3, c4] 127)).ownsRow w0.heap.size 127 5 (.slice none 0 0) 0 [] := World.ownsRow_nil _ _ _ _
  refine wpList_append_own _ hgd s x t ho w0.heap.size 127 i z 5 bytes ht hi hz hsize hby hzs (by decide) (.slice none 0 0) 0 [] hs hz1 ⟨w0.heap.size, 0, none⟩ 1 1 [c0, c1, c2, c3, c4] hx rfl (c1_row _ _ _ _ _ _ _) hone (by unfold maxLen; omega) (by omega) (by simp) ?_
  intro v' w' hown' hg _
  rw [Nat.zero_add, List.nil_append] at hown'
  obtain ⟨g, cap, rfl, hB, _⟩ := World.ownsRow.form hown' (by omega)
  exact h g cap w' hB hown' (((Below.refl _ w0).alloc (Nat.le_refl _) _).grown hg (by simp) fun k hk => by cases hk)
end
end Go.Proofs.YtlnbjdlooghpeaaGreatDoor
namespace Go.Proofs.YtlnbjdlooghpeaaGreatDoor
open Go.RowKit Go.Shelf
def Stay (n c : Nat) (Kp : World → World → Prop) (A B : World) : Prop := A.heap.size ≤ B.heap.size ∧ (∀ q, n ≤ q → q < n + c → B.heap[q]? = A.heap[q]?) ∧ Kp A B
def Iters {α : Type} (P : Program) (gf : Nat) (first caps : Array Value) (encs : α → Array Value) (c : Nat) (Kp : World → World → Prop) (xs : List α) (w : World) : Prop :=
  ∀ (l : Nat) (J : Nat → World → Prop) (W : World), Below w.heap.size w W → (∀ k A B, J k A → Below A.heap.size A B → J k B) →
    (∀ k x W1, xs[k]? = some x → J k W1 → W.heap.size + c ≤ W1.heap.size → YieldAt Fence.wide 6 P l (encs x) W1 fun e W' => e = .returned (.bool true) ∧ J (k + 1) W' ∧ Stay W.heap.size c Kp W1 W') →
    J 0 W → CallsIn Fence.wide 7 P gf (first ++ #[.func (.yield l) #[] #[]] ++ caps) W fun e W' => (∃ v, e = .returned v) ∧ J xs.length W'
def roundEnd (R : World → Prop) : Exit → Act → World → Prop
  | .normal, _, W => R W
  | _, _, _ => False
theorem range_all {α : Type} {P : Program} {g : Operand} {ps : Array Tmp} {assign body : Code} {Q : Exit → Act → World → Prop} {a : Act} {w : World} {gf : Nat} {first caps : Array Value} (hg : a.eval g = .func (.func gf) first caps)
    (eg : ∀ args w, (callFunc gf args).run P w = .ok (.enter gf args) w) {encs : α → Array Value} {c : Nat} {Kp : World → World → Prop} {xs : List α} (hc : Iters P gf first caps encs c Kp xs w) (hps : ∀ x, (encs x).size = ps.size)
    (hKt : ∀ A B C, Kp A B → Kp B C → Kp A C) (hKb : ∀ W l o, w.heap.size ≤ l → Kp W (W.putObj l o))
    (I : Nat → World → Prop) (hI : ∀ k A B, I k A → Below A.heap.size A B → I k B) (hIp : ∀ k A o, I k A → I k (A.putObj (w.heap.size + 1) o)) (h0 : I 0 w) (a₁ : α → Act)
    (hassign : ∀ (l : Nat) (x : α) (W : World) (K : Act → World → Prop), K (a₁ x) W →
      assign.wpIn (Fence.wide.inRound l) 6 P (Exit.then K (fun _ _ _ => False)) { tmps := (ps.zip (encs x)).foldl (fun t (p, v) => t.setIfInBounds p v) a.tmps, defers := [] } W)
    (hbody : ∀ (l k : Nat) (x : α) (W : World), xs[k]? = some x → I k W → w.heap.size + 2 + c ≤ W.heap.size → body.wpIn (Fence.wide.inRound l) 6 P (roundEnd fun W' => Stay w.heap.size (2 + c) Kp W W' ∧ I (k + 1) W') (a₁ x) W)
    (hdone : ∀ W, I xs.length W → W.heap[w.heap.size]? = some (.deferred (some [])) → Q .normal { a with defers := { target := .collected w.heap.size, args := #[] } :: a.defers } W) :
    (Code.rangeFunc g ps assign body).wpIn Fence.wide 8 P Q a w := by
  refine wpIn_rangeFunc fun fn hfn => ?_
  obtain ⟨rc, hrc⟩ : ∃ rc : LoopState → Loop, rc = fun st => { state := st, pending := none, fn, tmps := a.tmps, params := ps, assign, body, defers := w.heap.size } := ⟨_, rfl⟩
  obtain ⟨W1, hW1⟩ : ∃ W1, (w.alloc (.deferred (some []))).alloc (.loop (rc .ready)) = W1 := ⟨_, rfl⟩
  have hsz : W1.heap.size = w.heap.size + 2 := by rw [← hW1]; simp
  have hL : W1.heap[w.heap.size + 1]? = some (.loop (rc .ready)) := by
    have := World.alloc_heap_new (w.alloc (.deferred (some []))) (.loop (rc .ready))
    rwa [World.size_alloc, hW1] at this
  have hD : W1.heap[w.heap.size]? = some (.deferred (some [])) := by rw [← hW1]; exact (Below.heap_alloc _ _ _ (by simp)).trans (World.alloc_heap_new w _)
  have hB : Below w.heap.size w W1 := by rw [← hW1]; exact ((Below.refl _ w).alloc (Nat.le_refl _) _).alloc (by simp) _
  refine ⟨w.heap.size + 1, [{ target := .collected w.heap.size, args := #[] }], W1, { target := .fn (.func gf) caps, args := first ++ #[.func (.yield (w.heap.size + 1)) #[] #[]] }, W1, gf, first ++ #[.func (.yield (w.heap.size + 1)) #[] #[]] ++ caps, W1, ?_, ?_, fun f' _ => trivial, ?_, fun _ => by omega, ?_⟩
  · rw [← hW1, hrc]; exact run_enterLoop_outer _ _ _ _ _
  · simp only [resolve, hg]
    simp [go_sem]
  · simp [invoke, go_sem, eg]
  have hI1 : I 0 W1 := hI 0 w W1 h0 hB
  refine (hc (w.heap.size + 1) (fun k W => I k W ∧ W.heap[w.heap.size + 1]? = some (.loop (rc .ready)) ∧ W.heap[w.heap.size]? = some (.deferred (some []))) W1 hB ?_ ?_ ⟨hI1, hL, hD⟩).mono ?_
  · rintro k A B ⟨h1, h2, h3⟩ hb
    exact ⟨hI k A B h1 hb, (hb.block _ (Array.getElem?_eq_some_iff.1 h2).1).trans h2, (hb.block _ (Array.getElem?_eq_some_iff.1 h3).1).trans h3⟩
  · rintro k x W hx ⟨hi, hl, hd⟩ hle
    rw [hsz] at hle ⊢
    have hlt : w.heap.size + 1 < W.heap.size := (Array.getElem?_eq_some_iff.1 hl).1
    have hy := run_yield (P := P) (args := encs x) hl (by rw [hrc]; exact hps x)
    rw [hrc] at hy
    refine ⟨fn, _, assign, body, hy, roundIn_of_wpIn hfn (hassign _ x W _ ⟨_, run_beginRound hl (by rw [hrc]), ?_⟩)⟩
    have hl2 := World.putObj_heap_same (o := .loop { rc .ready with state := .busy }) hlt
    have hd2 : (W.putObj (w.heap.size + 1) (.loop { rc .ready with state := .busy })).heap[w.heap.size]? = some (.deferred (some [])) := (World.putObj_heap_other (by omega)).trans hd
    refine wpIn_mono (hbody _ k x _ hx (hIp k W _ hi) (by rw [World.putObj_size]; omega)) ?_
    rintro e a3 W3 hp
    cases e with
    | normal =>
      obtain ⟨⟨hs3, hst, hk3⟩, hi3⟩ := hp
      have hl3 := (hst (w.heap.size + 1) (by omega) (by omega)).trans hl2
      have hd3 := (hst w.heap.size (by omega) (by omega)).trans hd2
      have hlt3 : w.heap.size + 1 < W3.heap.size := (Array.getElem?_eq_some_iff.1 hl3).1
      have hr := run_endRound (P := P) none hl3
      rw [World.putObj_size] at hs3
      refine ⟨_, _, hr, rfl, ⟨hIp _ _ _ hi3, ?_, (World.putObj_heap_other (by omega)).trans hd3⟩, by rw [World.putObj_size]; exact hs3, fun q h1 h2 => ?_, hKt _ _ _ (hKt _ _ _ (hKb W _ _ (by omega)) hk3) (hKb W3 _ _ (by omega))⟩
      · rw [World.putObj_heap_same hlt3, hrc]
        rfl
      · rw [World.putObj_heap_other (by omega), hst q (by omega) (by omega), World.putObj_heap_other (by omega)]
    | ret => exact hp.elim
    | exit id => exact hp.elim
    | goto t => exact hp.elim
    | panic ch => exact hp.elim
    | outgrown => exact hp.elim
  · rintro e W2 ⟨⟨v, rfl⟩, hi, hl, hd⟩
    have he := run_endLoop (P := P) hl (by rw [hrc]; simp)
    have hq := hdone _ (hIp _ _ (.loop { rc .ready with state := .exhausted }) hi) ((World.putObj_heap_other (by omega)).trans hd)
    rw [hrc] at he hq
    exact ⟨none, _, he, hq⟩
end Go.Proofs.YtlnbjdlooghpeaaGreatDoor
namespace Go.Proofs.YtlnbjdlooghpeaaGreatDoor
open Go.RowKit
def calm (ops : Array Oper) : Bool := ops.all fun o => match o.op with | .defer _ => false | _ => true
theorem calm_at {ops : Array Oper} (h : calm ops = true) {i : Nat} {o : Oper} (ho : ops[i]? = some o) : ∀ c, o.op ≠ .defer c := by
  intro c e
  unfold calm at h
  rw [Array.all_eq_true] at h
  obtain ⟨hi, rfl⟩ := Array.getElem?_eq_some_iff.1 ho
  have := h i hi
  rw [e] at this
  cases this
section
variable {P : Program} {o : Oper} {a : Act} {w : World} {next : Act → World → Prop} {Q : Exit → Act → World → Prop} {ops : Array Oper}
theorem op_round (l n : Nat) (hd : ∀ c, o.op ≠ .defer c) (h : o.wp P a w next Q) : o.wpIn (Fence.wide.inRound l) n P a w next Q := by
  refine ⟨fun _ _ => trivial, ?_⟩
  rw [show (Fence.wide.inRound l).round = some l from rfl, Oper.semAt_some l a.eval o hd]
  unfold Oper.wp at h
  generalize (execOp a.eval o).run P w = r at *
  cases r with
  | ok v w' =>
    cases v with
    | value u => exact h
    | skip => exact h
    | defer d => exact h
    | enter f args => exact ⟨fun e => by simp [Fence.inRound, Fence.wide] at e, CallsIn.inRound l (callsIn_wide.2 h)⟩
    | row r args => exact ⟨fun e => by simp [Fence.inRound, Fence.wide] at e, fun c cs _ => let ⟨v, w', r, s⟩ := h c cs; ⟨v, w', r, stepsIn_wide.2 s⟩⟩
    | _ => exact h.elim
  | halt x w' =>
    cases x with
    | panic u => exact h
    | _ => exact h.elim
theorem ops_round (l n : Nat) (hd : calm ops = true) (hL : ¬ LetsOut Q) : ∀ (idx : List Nat) (a : Act) (w : World), wpOps P ops Q idx a w → wpOpsIn (Fence.wide.inRound l) n P ops Q idx a w
  | [], _, _, h => h
  | i :: rest, a, w, h => by
    unfold wpOps at h
    unfold wpOpsIn
    cases ho : ops[i]? with
    | none =>
      rw [ho] at h
      exact ops_round l n hd hL rest a w h
    | some o =>
      rw [ho] at h
      by_cases hw : Region.wanted o (yielded ops a.tmps) = true
      · simp only [hw, if_true] at h ⊢
        exact op_round l n (calm_at hd ho) (Oper.wp_mono (fun a w => ops_round l n hd hL rest a w) (h.resolve_right fun hx => hL hx.2))
      · simp only [hw, Bool.false_eq_true, if_false] at h ⊢
        exact ⟨fun _ _ => trivial, ops_round l n hd hL rest _ w h⟩
theorem region_round {S : World → Prop} {id : Nat} (l n : Nat) (hd : calm ops = true) (hL : ¬ LetsOut Q) (hm : P.follows .mixedOrders = true)
    (h : wpAnyH P .any ops Q S ops.size (Array.replicate ops.size false) a w.drew) : (Code.region id ops true).wpIn (Fence.wide.inRound l) n P Q a w :=
  wpIn_region_draw fun t => ops_round l n hd hL _ _ _ (by
    simp only [Region.schedule, hm, Bool.true_or, if_true]
    exact wpAny_sound ops.size t _ a _ (wpAny_of_held _ _ _ _ h))
end
end Go.Proofs.YtlnbjdlooghpeaaGreatDoor
namespace Go.Proofs.YtlnbjdlooghpeaaGreatDoor
open Go.RowKit
theorem info84 : (Tryz.prog.info? 127).map (fun i => (i.zero, i.size, i.bytes)) = some (some (.agg #[.int .i64 0, .int .u64 0, .int .u64 0, .int .u64 0, .int .u64 0]), 5, 40) := by kernel_rfl
theorem empty37 (b : Bool) (B n c : Nat) (A : Option Addr) (W : World) (h : W.cell? ⟨B, 0, none⟩ = some (.slice A n c)) (hb : ((n : Int) == 0) = b) : Calls Tryz.prog 32 #[.pointer (some ⟨B, 0, none⟩)] W fun e w' => e = .returned (.bool b) ∧ W = w' := by
  have Hb := hide hb
  clear hb
  go_enter Tryz.func32, Tryz.ntmps32
  go_wp2
  go_ret
  exact ⟨ret_bool Hb.out, rfl⟩
set_option maxRecDepth 100000 in
set_option maxHeartbeats 4000000 in
theorem put59 (n0 B m q : Nat) (v : Value) (W : World) (h : Box n0 W B v m) (hm : m < 2305843009213693952) (hq : q < 61) :
    Calls Tryz.prog 71 #[.pointer (some ⟨B, 0, none⟩), .int .i64 (q : Int)] W (PutV n0 W B v (m ||| 2 ^ q)) := by
  have hBn := h.1
  have hac := h.2.2
  have hcell := cell_of_one h.2.1
  have hfree := free_of_one h.2.1
  have d1 : (q : Int).tdiv 256 = 0 := by rw [Int.tdiv_eq_ediv_of_nonneg (by omega)]; omega
  have d2 : (q : Int) / 256 = 0 := by omega
  have Hm := hide hm
  have H := hide h
  clear h hm
  obtain ⟨i0, hi, hz0, hz1, hz2⟩ := info_parts info84
  rcases hac with ⟨h0, rfl⟩ | ⟨h0, hown⟩
  · have HE := hide (fun j => (show (W.drewN j).cell? ⟨B, 0, none⟩ = some (.slice none 0 0) from hcell))
    have H0 := hide h0
    clear h0
    go_enter Tryz.func71, Tryz.ntmps71
    go_wp2
    go_quiet ((go_at_call 32; exact quiet_left (empty37 true _ _ _ _ _ (HE.out _) rfl)))
    go_wp2_with (at_builtin; refine wp_push_row rfl (.tmp 30) (.tmp 33) 60 rfl i0 _ _ Tryz.underlying60 hi hz0 hz1 hz2 rfl (by decide) _ _ _ _ _ _ (rowC_one 0) rfl _ rfl rfl ?_)
    intro g cap w1 hg hown hb
    have O1 := hide hown
    have B1 := hide ((show Below W.heap.size W (W.drewN nq) from Drawn.below ⟨nq, rfl⟩ _).trans hb)
    have hcell1 := (B1.out.cell (p := ⟨B, 0, none⟩) H.out.lt).trans hcell
    have hfree1 := (B1.out.frozen (p := ⟨B, 0, none⟩) H.out.lt).trans hfree
    clear hown hb hcell hfree
    go_wp2
    obtain ⟨X, hX⟩ : ∃ X, w1.setCell ⟨B, 0, none⟩ (.slice (some ⟨g, 0, none⟩) 1 cap) = X := ⟨_, rfl⟩
    rw [hX]
    have hgB : g ≠ B := by have := H.out.lt; omega
    have x0 : X.cell? ⟨B, 0, none⟩ = some (.slice (some ⟨g, 0, none⟩) 1 cap) := by rw [← hX]; exact World.cell?_setCell_same _ _ _ hcell1
    have OX := hide (show X.ownsRow W.heap.size 127 5 (.slice (some ⟨g, 0, none⟩) 1 cap) 1 (rowC 0) by
      rw [← hX]; exact ownsRow_setCell_other O1.out (fun e => hgB (by simpa [Value.ownBlock] using e)) _)
    have x1 : X.cell? ⟨g, 1, none⟩ = some (.int .u64 0) := World.ownsRow.cellAt OX.out 1 (by omega)
    have x2 : X.frozen? ⟨g, 1, none⟩ = false := World.ownsRow.frozenAt OX.out 1
    have HX := hide hX
    have Hg := hide hg
    have e1 : (q : Int).tmod 256 = q := by rw [Int.tmod_eq_emod_of_nonneg (by omega)]; omega
    have e2 : (q : Int).tdiv 64 = 0 := by rw [Int.tdiv_eq_ediv_of_nonneg (by omega)]; omega
    have e3 : (q : Int).tmod 64 = q := by rw [Int.tmod_eq_emod_of_nonneg (by omega)]; omega
    clear hcell1 hfree1 hX
    have w0 : IntKind.i64.wrap 0 = 0 := rfl
    have wq : IntKind.i64.wrap (q : Int) = (q : Int) := IntWalk.i64_in _ (by omega)
    go_still_tail 23, (by kernel_rfl)
    change wpList _ _ _ _ _ X.drew
    go_wp2
    go_end0
    have hm0 := H0.out
    subst hm0
    refine ⟨rfl, put_end hBn ?_ (owns_mono OX.out (by have := H.out.lt; omega)) ?_ (Or.inr Hg.out) Hm.out hq 0 rfl⟩
    · rw [← HX.out]
      exact one_setCell ((B1.out.block B H.out.lt).trans H.out.2.1)
    · rw [← HX.out]
      exact (Turns.of_below B1.out).set fun _ => Or.inl rfl
  · obtain ⟨g, cap, rfl, hgB, hglt⟩ := World.ownsRow.form hown (by omega)
    have hne : g ≠ B := fun e => own_far hown H.out.2.1 (by decide) (by rw [e]; rfl)
    have x0 : W.cell? ⟨g, 0, none⟩ = some (.int .i64 0) := World.ownsRow.cellAt hown 0 (by omega)
    have x1 : W.cell? ⟨g, 1, none⟩ = some (.int .u64 (m : Int)) := World.ownsRow.cellAt hown 1 (by omega)
    have x2 : W.frozen? ⟨g, 1, none⟩ = false := World.ownsRow.frozenAt hown 1
    have HE := hide (fun j => (show (W.drewN j).cell? ⟨B, 0, none⟩ = some (.slice (some ⟨g, 0, none⟩) 1 cap) from hcell))
    have H0 := hide h0
    have HO := hide hown
    have w0 : IntKind.i64.wrap 0 = 0 := rfl
    have wq : IntKind.i64.wrap (q : Int) = (q : Int) := IntWalk.i64_in _ (by omega)
    clear h0 hown hfree
    go_enter Tryz.func71, Tryz.ntmps71
    go_wp2
    go_quiet ((go_at_call 32; exact quiet_left (empty37 false _ _ _ _ _ (HE.out _) rfl)))
    go_wp2
    obtain ⟨X, hX⟩ : ∃ X, W.drewN nq = X := ⟨_, rfl⟩
    rw [hX]
    have hcell' : X.cell? ⟨B, 0, none⟩ = some (.slice (some ⟨g, 0, none⟩) 1 cap) := by rw [← hX]; exact hcell
    have x1' : X.cell? ⟨g, 1, none⟩ = some (.int .u64 (m : Int)) := by rw [← hX]; exact x1
    have x2' : X.frozen? ⟨g, 1, none⟩ = false := by rw [← hX]; exact x2
    have HX := hide hX
    have e1 : (q : Int).tmod 256 = q := by rw [Int.tmod_eq_emod_of_nonneg (by omega)]; omega
    have e2 : (q : Int).tdiv 64 = 0 := by rw [Int.tdiv_eq_ediv_of_nonneg (by omega)]; omega
    have e3 : (q : Int).tmod 64 = q := by rw [Int.tmod_eq_emod_of_nonneg (by omega)]; omega
    clear hX hcell x0 x1 x2
    go_still_tail 23, (by kernel_rfl)
    change wpList _ _ _ _ _ X.drew
    go_wp2
    go_end0
    refine ⟨rfl, put_end (cap := cap) hBn ?_ ?_ ?_ (Or.inl rfl) Hm.out hq _ rfl⟩
    · rw [← HX.out]; exact H.out.2.1
    · rw [← HX.out]; exact HO.out
    · rw [← HX.out]; exact (Turns.refl _ _).drawn _
end Go.Proofs.YtlnbjdlooghpeaaGreatDoor
namespace Go.Proofs.YtlnbjdlooghpeaaGreatDoor
open Go.RowKit
theorem Acc.form {n0 : Nat} {W : World} {v : Value} {m : Nat} (h : Acc n0 W v m) : ∃ A n c, v = .slice A n c := by
  rcases h with ⟨_, rfl⟩ | ⟨_, h⟩
  · exact ⟨_, _, _, rfl⟩
  · obtain ⟨g, cap, rfl, _, _⟩ := World.ownsRow.form h (by omega)
    exact ⟨_, _, _, rfl⟩
theorem acc_off {n0 : Nat} {W : World} {v : Value} {m : Nat} (h : Acc n0 W v m) (b : Nat) (u : Value) (hb : b < n0) : Acc n0 (W.setCell ⟨b, 0, none⟩ u) v m := by
  rcases h with h | ⟨h0, h⟩
  · exact Or.inl h
  · exact Or.inr ⟨h0, ownsRow_setCell_other h (fun e => absurd (World.ownsRow.lt h b e).1 (by omega)) u⟩
theorem put_own (n0 B m q : Nat) (v : Value) (W : World) (h : Box n0 W B v m) (hn : n0 ≤ W.heap.size) (hm : m < 2305843009213693952) (hq : q < 61) :
    Calls Tryz.prog 71 #[.pointer (some ⟨B, 0, none⟩), .int .i64 (q : Int)] W fun e w' => e = .returned (.tuple #[]) ∧ ∃ A n c, Box n0 w' B (.slice A n c) (m ||| 2 ^ q) ∧ Below n0 W w' :=
  (put59 n0 B m q v W h hm hq).mono fun e w' ⟨he, v', hb, ht, _⟩ => by
    obtain ⟨A, n, c, rfl⟩ := hb.2.2.form
    exact ⟨he, A, n, c, hb, ht.below hn fun k hk => by
      rcases hk with rfl | hk
      · exact h.1
      · exact (h.low hk).1⟩
def RetO (W : World) (m : Nat) (e : Ending) (W' : World) : Prop := ∃ u, e = .returned u ∧ OffV W' u m ∧ Below W.heap.size W W'
theorem pow_or (k : Nat) : (2 ^ k - 1) ||| 2 ^ k = 2 ^ (k + 1) - 1 := by
  refine Nat.eq_of_testBit_eq fun j => ?_
  rw [Nat.testBit_or, Nat.testBit_two_pow_sub_one, Nat.testBit_two_pow, Nat.testBit_two_pow_sub_one]
  by_cases h : k = j
  · subst h; simp
  · simp [h]; omega
end Go.Proofs.YtlnbjdlooghpeaaGreatDoor
namespace Go.Proofs.YtlnbjdlooghpeaaGreatDoor
open Go.RowKit Go.Shelf
def HasT (w : World) : Prop := TabAt 0 Lib.deBruijn64tab w
theorem HasT.below {w w' : World} (h : HasT w) (hb : Below w.heap.size w w') : HasT w' := fun j hj =>
  (hb.cell (p := ⟨0, j, none⟩) (World.block_lt_of_cell? _ _ (h j hj))).trans (h j hj)
theorem HasT.kept {w w' : World} (h : HasT w) (hb : w'.heap[0]? = w.heap[0]?) : HasT w' := fun j hj => (World.cell?_of_block (a := ⟨0, j, none⟩) hb).trans (h j hj)
theorem HasT.pos {w : World} (h : HasT w) : 0 < w.heap.size := World.block_lt_of_cell? _ _ (h 0 (by decide))
set_option maxHeartbeats 1000000 in
theorem tz60_core (x k idx : Nat) (w : World) (hx0 : ((x : Int) == 0) = false)
    (key : IntKind.u64.wrap (bits BinOp.and IntKind.u64 (x : Int) (IntKind.u64.wrap (-(x : Int))) * 285870213051353865) / 288230376151711744 = (idx : Int))
    (hi : idx < 64) (hk : k < 64) (hcell : w.cell? ⟨0, idx, none⟩ = some (.int .u8 k)) :
    Calls Tryz.prog 118 #[.int .u64 (x : Int)] w fun e w' => e = .returned (.int .i64 (k : Int)) ∧ w = w' := by
  go_enter Tryz.func118, Tryz.ntmps118
  go_wp2_with (simp only [key])
  go_ret
  exact ⟨rfl, rfl⟩
theorem tz60 (x : Nat) (hx : x < 18446744073709551616) (hx0 : x ≠ 0) (w : World) (hT : HasT w) : Calls Tryz.prog 118 #[.int .u64 (x : Int)] w fun e w' => e = .returned (.int .i64 (Lib.ctz 64 x : Nat)) ∧ w = w' := by
  obtain ⟨hlow, hk⟩ := Lib.lowest_bit 64 x hx0 hx
  obtain ⟨hi, htab⟩ := Lib.deBruijn64_at _ hk
  have hcell := hT _ hi
  rw [htab] at hcell
  exact tz60_core x _ _ w (by simp; omega) (tz64_key x _ hx hx0 hlow) hi hk hcell
theorem cell_of_five {w : World} {b m : Nat} (h : w.heap[b]? = some (.cells (rowC m).toArray 127 (0, 0))) : w.cell? ⟨b, 0, none⟩ = some (.int .i64 0) := by
  simp [World.cell?, h, rowC]
def Kp0 (A B : World) : Prop := B.heap[0]? = A.heap[0]?
theorem bits_len_zero : (bitsL 0).length = 0 := by rw [bits_zero]; rfl
theorem idx0 (x0 x1 x2 x3 : Int) (w : World) : (Instr.index 125 (.agg #[.int .u64 x0, .int .u64 x1, .int .u64 x2, .int .u64 x3]) (.int .i64 0)).run Tryz.prog w = .ok (.int .u64 x0) w := by kernel_rfl
theorem idx1 (x0 x1 x2 x3 : Int) (w : World) : (Instr.index 125 (.agg #[.int .u64 x0, .int .u64 x1, .int .u64 x2, .int .u64 x3]) (.int .i64 1)).run Tryz.prog w = .ok (.int .u64 x1) w := by kernel_rfl
theorem idx2 (x0 x1 x2 x3 : Int) (w : World) : (Instr.index 125 (.agg #[.int .u64 x0, .int .u64 x1, .int .u64 x2, .int .u64 x3]) (.int .i64 2)).run Tryz.prog w = .ok (.int .u64 x2) w := by kernel_rfl
theorem idx3 (x0 x1 x2 x3 : Int) (w : World) : (Instr.index 125 (.agg #[.int .u64 x0, .int .u64 x1, .int .u64 x2, .int .u64 x3]) (.int .i64 3)).run Tryz.prog w = .ok (.int .u64 x3) w := by kernel_rfl
theorem idx_at (m : Nat) (i : Nat) (hi : i < 4) : ∃ x : Nat, (∀ w, (Instr.index 125 (.agg #[.int .u64 (m : Int), .int .u64 0, .int .u64 0, .int .u64 0]) (.int .i64 (i : Int))).run Tryz.prog w = .ok (.int .u64 (x : Int)) w) ∧ (i = 0 → x = m) ∧ (0 < i → x = 0) := by
  by_cases h0 : i = 0
  · subst h0; exact ⟨m, idx0 _ _ _ _, fun _ => rfl, fun h => by omega⟩
  · refine ⟨0, fun w => ?_, fun h => by omega, fun _ => rfl⟩
    have h : i = 1 ∨ i = 2 ∨ i = 3 := by omega
    rcases h with rfl | rfl | rfl
    · exact idx1 _ _ _ _ w
    · exact idx2 _ _ _ _ w
    · exact idx3 _ _ _ _ w
attribute [local go_sem] Oper.semAt_some
set_option maxRecDepth 100000 in
set_option maxHeartbeats 4000000 in
theorem each31 (s : Value) (m : Nat) (hm : m < 2305843009213693952) (w : World) (hs : SetV w s m) (hT : HasT w) :
    Iters Tryz.prog 88 #[.agg #[s]] #[] (fun q : Nat => #[.int .i64 (q : Int)]) 2 Kp0 (bitsL m) w := by
  intro l J W hW hJ hY h0
  show CallsIn Fence.wide 7 Tryz.prog 88 #[.agg #[s], .func (.yield l) #[] #[]] W _
  have hTW := hT.below hW
  have hsW := hs.below hW
  have hB1 := bnew (Below.refl _ W) (.cells #[s] 62)
  have hsW1 := hide (hsW.below hB1)
  have hTW1 := hide (hTW.below hB1)
  have hJ1 := hide (hJ 0 W _ h0 hB1)
  have Hm := hide hm
  have hmx : Tryz.prog.follows .mixedOrders = true := by kernel_rfl
  have HY := hide hY
  have HJ := hide hJ
  clear hTW hsW hs hT hm hY hJ
  rcases hsW1.out with ⟨rfl, A, c, rfl, hc⟩ | ⟨hm0, b, c, rfl, hc1, hc2, hblt, hcells⟩
  · refine callsIn_of_wp Tryz.func88 rfl trivial ?_ rfl
    simp only [Tryz.ntmps88, List.size_toArray, List.length_cons, List.length_nil, Nat.reduceAdd, Nat.reduceSub, Array.replicate_succ, Array.replicate_zero, List.push_toArray, List.append_toArray, List.nil_append, List.cons_append]
    gi_wp2
    gi_loopw [11] (fun x wr => x = .int .i64 0 ∧ J 0 wr) (fun _ _ => 0)
    case atStart => exact ⟨rfl, hJ1.out⟩
    case round =>
      obtain ⟨rfl, hj⟩ := hrel
      gi_wp2
      go_end0
      exact ⟨⟨_, rfl⟩, by rw [bits_len_zero]; exact hj⟩
  · have t0 := hcells 0 (by omega)
    have t1 := hcells 1 (by omega)
    have t2 := hcells 2 (by omega)
    have t3 := hcells 3 (by omega)
    have t4 := hcells 4 (by omega)
    simp [rowC] at t0 t1 t2 t3 t4
    have Hm0 := hide hm0
    clear hm0 hcells
    refine callsIn_of_wp Tryz.func88 rfl trivial ?_ rfl
    simp only [Tryz.ntmps88, List.size_toArray, List.length_cons, List.length_nil, Nat.reduceAdd, Nat.reduceSub, Array.replicate_succ, Array.replicate_zero, List.push_toArray, List.append_toArray, List.nil_append, List.cons_append]
    gi_wp2
    gi_loopw [11] (fun x wr => (x = .int .i64 0 ∧ wr = W.alloc (.cells #[.slice (some ⟨b, 0, none⟩) 1 c] 62)) ∨ (x = .int .i64 1 ∧ J (bitsL m).length wr)) (fun x _ => 1 - (intOf x).toNat)
    case atStart => exact Or.inl ⟨rfl, rfl⟩
    case round =>
      rcases hrel with ⟨rfl, rfl⟩ | ⟨rfl, hj⟩
      · have hdummy : True := trivial
        gi_wp2
        gi_loopw [17] (fun y wr => ∃ i : Nat, i ≤ 4 ∧ y = .int .i64 (i : Int) ∧ (i = 0 → J 0 wr) ∧ (0 < i → J (bitsL m).length wr) ∧ wr.heap[W.heap.size + 1]? = some (.cells (rowC m).toArray 127 (0, 0)) ∧ HasT wr) (fun y _ => 4 - (intOf y).toNat)
        case atStart =>
          refine ⟨0, by omega, rfl, fun _ => HJ.out 0 _ _ hJ1.out (bnew (Below.refl _ _) _), fun h => by omega, ?_, hTW1.out.below (bnew (Below.refl _ _) _)⟩
          have := heap_alloc_new (W.alloc (.cells #[.slice (some ⟨b, 0, none⟩) 1 c] 62)) (.cells (rowC m).toArray 127)
          rw [World.size_alloc] at this
          exact this
        case round =>
          obtain ⟨i, hi, rfl, hi0, hi1, hrow, hTr⟩ := hrel
          by_cases hlt : i < 4
          · obtain ⟨x, hix, hx0, hx1⟩ := idx_at m i hlt
            have Hix := hide hix
            have R := hide hrow
            have T := hide hTr
            have hcr := cell_of_five hrow
            have hd4 : decide ((i : Int) < 4) = true := decide_eq_true (by omega)
            clear hrow hTr
            gi_wp2
            gi_loopw [7] (fun z wr => ∃ y q : Nat, z = .int .u64 (y : Int) ∧ y < 2305843009213693952 ∧ (0 < i → y = 0) ∧ bitsL y = (bitsL m).drop q ∧ q ≤ (bitsL m).length ∧ J q wr ∧ wr.heap[W.heap.size + 1]? = some (.cells (rowC m).toArray 127 (0, 0)) ∧ HasT wr) (fun z _ => (intOf z).toNat)
            case atStart =>
              by_cases h0 : i = 0
              · exact ⟨x, 0, rfl, by rw [hx0 h0]; exact Hm.out, fun h => by omega, by rw [hx0 h0, List.drop_zero], by omega, hi0 h0, R.out, T.out⟩
              · exact ⟨x, (bitsL m).length, rfl, by rw [hx1 (by omega)]; omega, hx1, by rw [hx1 (by omega), bits_zero, List.drop_length], Nat.le_refl _, hi1 (by omega), R.out, T.out⟩
            case round =>
              obtain ⟨y, q, rfl, hy, hiy, hby, hqL, hJq, hrow, hTr⟩ := hrel
              by_cases hy0 : y = 0
              · subst hy0
                have hqe : q = (bitsL m).length := by
                  have := congrArg List.length hby
                  rw [bits_len_zero, List.length_drop] at this
                  omega
                have JL := hide (show J (bitsL m).length wr by rw [← hqe]; exact hJq)
                have R2 := hide hrow
                have T2 := hide hTr
                clear hqe hrow hTr hJq hby hix hi0 hi1 hx0 hx1 hcr hiy
                gi_wp2
                go_roundw
                case rel => exact ⟨i + 1, by omega, by go_num, fun h => by omega, fun _ => JL.out, R2.out, T2.out⟩
                case measure => simp [intOf]; omega
              · have hi00 : i = 0 := by omega
                have hn0 : (y : Int) ≠ 0 := by omega
                have hn1 : ((y : Int) != 0) = true := by rw [bne_iff_ne]; exact hn0
                obtain ⟨z, hz⟩ : ∃ z, Lib.ctz 64 y = z := ⟨_, rfl⟩
                have hbn := bits_next hy0 (by omega)
                have hzlt := (low_bits hy0 (by omega)).2.2.2
                rw [hz] at hbn hzlt
                have hq : (bitsL m)[q]? = some z := by
                  have := congrArg List.head? hby
                  rw [hbn, List.head?_drop] at this
                  exact this.symm
                have hdrop : bitsL (y &&& (y - 1)) = (bitsL m).drop (q + 1) := by
                  rw [← List.drop_drop, ← hby, hbn]
                  rfl
                have hcr2 := cell_of_five hrow
                have hsz := lt_of_block hrow
                have R2 := hide hrow
                have T2 := hide hTr
                have hqlt : q < (bitsL m).length := (List.getElem?_eq_some_iff.1 hq).1
                have hC : Calls Tryz.prog 118 #[.int .u64 (y : Int)] wr.drew fun e w' => e = .returned (.int .i64 (z : Int)) ∧ wr.drew = w' := by
                  rw [← hz]; exact tz60 y (by omega) hy0 _ (hTr.below (bel_drew wr))
                have e1 : IntKind.i64.wrap ((i : Int) * 64) = 0 := by rw [hi00]; rfl
                have e2 : IntKind.i64.wrap 0 = 0 := rfl
                have e3 : IntKind.i64.wrap (z : Int) = (z : Int) := IntWalk.i64_in _ (by omega)
                obtain ⟨fn, tmps, assign, body, hyl, hR⟩ := HY.out q z wr.drew hq (HJ.out q wr _ hJq (bel_drew wr)) (by show W.heap.size + 2 ≤ wr.heap.size; omega)
                have e4 : IntKind.u64.wrap ((y : Int) - 1) = (y : Int) - 1 := by rw [IntKind.wrap_u64]; omega
                have e5 : bits .and .u64 (y : Int) ((y : Int) - 1) = ((y &&& (y - 1) : Nat) : Int) := by
                  rw [show (y : Int) - 1 = ((y - 1 : Nat) : Int) by omega, bits_and_u64_nat y _ (by omega) (by omega)]
                have hless := bits_less hy0
                have HC := hide hC
                have HR := hide hR
                have Hd := hide hdrop
                have Hlow := hide hiy
                clear hC hR hiy hby hbn hz hq hdrop hrow hTr hJq hi0 hi1 hx0 hx1 hcr hi00 hn0 hy0 hix t0 t1 t2 t3 t4 hB1
                gi_wp2
                gi_region_with_o (first | (refine ⟨trivial, ?_⟩; gi_at_call 118; refine (callsIn_wide.2 HC.out).mono ?_; rintro e w' ⟨rfl, rfl⟩) | (refine HR.out.mono ?_; rintro e W3 ⟨rfl, hJ3, hst⟩))
                all_goals
                  have J3 := hide hJ3
                  have R3 := hide ((hst.2.1 (W.heap.size + 1) (by omega) (by omega)).trans R2.out)
                  have T3 := hide ((show HasT wr.drew from T2.out).kept hst.2.2)
                  clear hJ3 hst hyl HC HR
                  gi_wp2
                  go_roundw
                  case rel => first | exact ⟨y &&& (y - 1), q + 1, rfl, by omega, fun h => by have := Hlow.out h; omega, Hd.out, by omega, J3.out, R3.out, T3.out⟩ | ((repeat apply Exists.intro); exact ⟨⟨y &&& (y - 1), q + 1, rfl, by omega, fun h => by have := Hlow.out h; omega, Hd.out, by omega, J3.out, R3.out, T3.out⟩, rfl⟩)
                  case measure => simp [intOf]; omega
          · have JL := hide (hi1 (by omega))
            clear hi0 hi1 hrow hTr
            gi_wp2
            go_roundw
            case rel => exact Or.inr ⟨rfl, JL.out⟩
            case measure => simp [intOf]
      · have Hj := hide hj
        clear hj
        gi_wp2
        go_end0
        exact ⟨⟨_, rfl⟩, Hj.out⟩
end Go.Proofs.YtlnbjdlooghpeaaGreatDoor
namespace Go.Proofs.YtlnbjdlooghpeaaGreatDoor
open Go.RowKit
theorem nan94 (x : Int) (W : World) : Calls Tryz.prog 150 #[.int .i64 x] W fun e w' => e = .returned (.bool false) ∧ W = w' := by
  have h : (x != x) = false := by simp
  go_enter Tryz.func150, Tryz.ntmps150
  go_wp2
  go_ret
  exact ⟨rfl, rfl⟩
theorem cmp87 (W : World) : Calls Tryz.prog 126 #[.int .i64 0, .int .i64 0] W fun e w' => e = .returned (.int .i64 0) ∧ W = w' := by
  go_enter Tryz.func126, Tryz.ntmps126
  go_wp2_with (go_at_call 150; refine (nan94 _ _).mono ?_; rintro e w' ⟨rfl, rfl⟩)
  go_ret
  exact ⟨rfl, rfl⟩
theorem by86 (m : Nat) (W : World) : Calls Tryz.prog 125 #[.agg #[.int .i64 0, .int .u64 (m : Int), .int .u64 0, .int .u64 0, .int .u64 0], .int .i64 0] W fun e w' => e = .returned (.int .i64 0) ∧ Below W.heap.size W w' := by
  have F := five_new W (.int .i64 0) (.int .u64 (m : Int)) (.int .u64 0) (.int .u64 0) (.int .u64 0) 127
  obtain ⟨_, t0, t1, t2, t3, t4⟩ := F
  have BB := hide (bnew (Below.refl _ W) (.cells #[.int .i64 0, .int .u64 (m : Int), .int .u64 0, .int .u64 0, .int .u64 0] 127))
  go_enter Tryz.func125, Tryz.ntmps125
  go_wp2_with (go_at_call 126; refine (cmp87 _).mono ?_; rintro e w' ⟨rfl, rfl⟩)
  go_ret
  exact ⟨rfl, BB.out⟩
theorem search88_none (A : Option Addr) (c : Nat) (W : World) : Calls Tryz.prog 127 #[.slice A 0 c, .int .i64 0, .func (.func 125) #[] #[]] W fun e w' => e = .returned (.tuple #[.int .i64 0, .bool false]) ∧ W = w' := by
  go_enter Tryz.func127, Tryz.ntmps127
  go_wp2
  go_loop [9, 10] (fun x y => x = .int .i64 0 ∧ y = .int .i64 0) (fun _ _ => 0)
  case atStart => exact ⟨rfl, rfl⟩
  case round =>
    obtain ⟨rfl, rfl⟩ := hrel
    go_wp2
    go_ret2
    exact ⟨rfl, rfl⟩
def Row1 (W : World) (g m : Nat) : Prop := g < W.heap.size ∧ ∀ j, j < 5 → W.cell? ⟨g, j, none⟩ = (rowC m)[j]?
theorem Row1.below {W W' : World} {g m : Nat} (h : Row1 W g m) (hb : Below W.heap.size W W') : Row1 W' g m := ⟨by have := hb.size; have := h.1; omega, fun j hj => (hb.cell (p := ⟨g, j, none⟩) h.1).trans (h.2 j hj)⟩
theorem Row1.five {W : World} {g m : Nat} (h : Row1 W g m) : Five W g (.int .i64 0) (.int .u64 (m : Int)) (.int .u64 0) (.int .u64 0) (.int .u64 0) := ⟨h.1, h.2 0 (by omega), h.2 1 (by omega), h.2 2 (by omega), h.2 3 (by omega), h.2 4 (by omega)⟩
set_option maxRecDepth 100000 in
set_option maxHeartbeats 1000000 in
theorem search88_one (g c m : Nat) (W : World) (h : Row1 W g m) : Calls Tryz.prog 127 #[.slice (some ⟨g, 0, none⟩) 1 c, .int .i64 0, .func (.func 125) #[] #[]] W fun e w' => e = .returned (.tuple #[.int .i64 0, .bool true]) ∧ Below W.heap.size W w' := by
  have H := hide h
  clear h
  go_enter Tryz.func127, Tryz.ntmps127
  go_wp2
  go_loopw [9, 10] (fun x y wr => ∃ j : Nat, j ≤ 1 ∧ x = .int .i64 0 ∧ y = .int .i64 (j : Int) ∧ Below W.heap.size W wr) (fun _ y _ => (intOf y).toNat)
  case atStart => exact ⟨1, by omega, rfl, rfl, Below.refl _ _⟩
  case round =>
    obtain ⟨j, hj, rfl, rfl, hb⟩ := hrel
    obtain ⟨w1, hw1⟩ : ∃ w1, w1 = wr := ⟨wr, rfl⟩
    subst hw1
    have B := hide hb
    obtain ⟨_, t0, t1, t2, t3, t4⟩ := (H.out.below hb).five
    have HC := hide (by86 m w1)
    clear hb
    by_cases hlt : j = 1
    · subst hlt
      go_wp2_with fail
      with_reducible refine HC.out.mono ?_
      rintro e w2 ⟨rfl, hb2⟩
      have B2 := hide (B.out.trans (hb2.mono B.out.size))
      clear hb2
      go_wp2
      go_roundw
      case rel => exact ⟨0, by omega, rfl, rfl, B2.out⟩
      case measure => simp [intOf]
    · obtain rfl : j = 0 := by omega
      go_wp2_with fail
      with_reducible refine HC.out.mono ?_
      rintro e w2 ⟨rfl, hb2⟩
      have B2 := hide (B.out.trans (hb2.mono B.out.size))
      clear hb2
      go_wp2
      go_ret2
      exact ⟨rfl, B2.out⟩
set_option maxRecDepth 100000 in
set_option maxHeartbeats 1000000 in
theorem insert89 (b m : Nat) (W : World) (h : Row1 W b m) : Calls Tryz.prog 128 #[.slice none 0 0, .int .i64 0, .slice (some ⟨b, 0, none⟩) 1 1] W fun e w' => ∃ g cap, e = .returned (.slice (some ⟨g, 0, none⟩) 1 cap) ∧ w'.ownsRow W.heap.size 127 5 (.slice (some ⟨g, 0, none⟩) 1 cap) 1 (rowC m) ∧ Below W.heap.size W w' := by
  obtain ⟨i0, hi, hz0, hz1, hz2⟩ := info_parts info84
  have hown : W.ownsRow W.heap.size 127 5 (.slice none 0 0) 0 [] := World.ownsRow_nil _ _ _ _
  have H := hide h
  clear h
  go_enter Tryz.func128, Tryz.ntmps128
  go_wp2_with (at_builtin; refine wpList_append_own _ rfl (.tmp 23) (.tmp 24) 60 rfl W.heap.size 127 i0 _ 5 40 Tryz.underlying60 hi hz0 hz1 hz2 rfl (by decide) (.slice none 0 0) 0 [] rfl hown ⟨b, 0, none⟩ 1 1 (rowC m) rfl rfl (fun j u hu => by rw [addr0]; exact (H.out.2 j (by have := (List.getElem?_eq_some_iff.1 hu).1; simpa [rowC] using this)).trans hu) (rowC_one m) (by unfold maxLen; omega) (by omega) (Nat.le_refl _) ?_; intro v' w' hown' hg _)
  have hbel := (Below.refl W.heap.size W).grown hg (Nat.le_refl _) fun k hk => by cases hk
  rw [Nat.zero_add, List.nil_append] at hown'
  obtain ⟨g, cap, rfl, hB, _⟩ := World.ownsRow.form hown' (by omega)
  have O := hide hown'
  have BB := hide hbel
  clear hown' hg hbel hB
  go_wp2
  go_ret
  exact ⟨g, cap, rfl, O.out, BB.out⟩
theorem right_nodeB {r : Rx} (h : rightR r = 0) : nodeR r = 0 ∧ sizeR r ≤ 40 := by
  unfold rightR at h
  split at h
  · rename_i h1
    refine ⟨h1, ?_⟩
    split at h
    · omega
    · omega
  · rename_i h1
    exact absurd h h1
end Go.Proofs.YtlnbjdlooghpeaaGreatDoor
namespace Go.Proofs.YtlnbjdlooghpeaaGreatDoor
open Go.RowKit
def diffN (b a : Nat) : Nat := b &&& (18446744073709551615 - a)
theorem diff_bit {b a : Nat} (_hb : b < 18446744073709551616) (ha : a < 18446744073709551616) (j : Nat) : (diffN b a).testBit j = (b.testBit j && !a.testBit j) := by
  unfold diffN
  rw [Nat.testBit_and, show 18446744073709551615 - a = 2 ^ 64 - (a + 1) by omega, Nat.testBit_two_pow_sub_succ (by omega : a < 2 ^ 64)]
  by_cases h : j < 64
  · simp [h]
  · have : b.testBit j = false := Nat.testBit_lt_two_pow (Nat.lt_of_lt_of_le (by omega : b < 2 ^ 64) (Nat.pow_le_pow_right (by omega) (by omega)))
    rw [this]; simp
theorem diff_le (b a : Nat) : diffN b a ≤ b := Nat.and_le_left
theorem rowC_at (x i : Nat) (hi : i < 4) : (rowC x)[1 + i]? = some (.int .u64 ((if i = 0 then x else 0 : Nat) : Int)) := by
  match i, hi with
  | 0, _ => rfl
  | 1, _ => rfl
  | 2, _ => rfl
  | 3, _ => rfl
theorem rowC_set (x v i : Nat) (hi : i < 4) (h : i ≠ 0 → v = 0) : (rowC x).set (1 + i) (.int .u64 (v : Int)) = rowC (if i = 0 then v else x) := by
  match i, hi with
  | 0, _ => rfl
  | 1, _ => rw [h (by omega)]; rfl
  | 2, _ => rw [h (by omega)]; rfl
  | 3, _ => rw [h (by omega)]; rfl
theorem rowA_at {w : World} {H x : Nat} (h : w.heap[H]? = some (.cells (rowC x).toArray 127 (0, 0))) (j : Nat) : w.cell? ⟨H, j, none⟩ = (rowC x)[j]? ∧ w.frozen? ⟨H, j, none⟩ = false := by
  constructor
  · simp [World.cell?, h]
  · simp [World.frozen?, h]
def FiveFZ (w : World) (b : Nat) (c0 c1 c2 c3 c4 : Value) : Prop := Five w b c0 c1 c2 c3 c4 ∧ w.frozen? ⟨b, 0, none⟩ = false ∧ w.frozen? ⟨b, 1, none⟩ = false ∧ w.frozen? ⟨b, 2, none⟩ = false ∧ w.frozen? ⟨b, 3, none⟩ = false ∧ w.frozen? ⟨b, 4, none⟩ = false
def put5Z (w : World) (b : Nat) (u0 u1 u2 u3 u4 : Value) : World := ((((w.setCell ⟨b, 0, none⟩ u0).setCell ⟨b, 1, none⟩ u1).setCell ⟨b, 2, none⟩ u2).setCell ⟨b, 3, none⟩ u3).setCell ⟨b, 4, none⟩ u4
theorem set_offZ (w : World) (b j k : Nat) (u : Value) (h : j ≠ k) : (w.setCell ⟨b, j, none⟩ u).cell? ⟨b, k, none⟩ = w.cell? ⟨b, k, none⟩ := World.cell?_setCell_other _ _ _ _ (fun e => h (congrArg Addr.off e))
theorem put5_fiveZ {w : World} {b : Nat} {c0 c1 c2 c3 c4 : Value} (h : FiveFZ w b c0 c1 c2 c3 c4) (u0 u1 u2 u3 u4 : Value) : Five (put5Z w b u0 u1 u2 u3 u4) b u0 u1 u2 u3 u4 := by
  obtain ⟨⟨h0, h1, h2, h3, h4, h5⟩, _⟩ := h
  unfold put5Z
  refine ⟨by simpa [World.setCell] using h0, ?_, ?_, ?_, ?_, ?_⟩
  · rw [set_offZ _ _ _ _ _ (by decide), set_offZ _ _ _ _ _ (by decide), set_offZ _ _ _ _ _ (by decide), set_offZ _ _ _ _ _ (by decide)]
    exact World.cell?_setCell_same _ _ _ h1
  · rw [set_offZ _ _ _ _ _ (by decide), set_offZ _ _ _ _ _ (by decide), set_offZ _ _ _ _ _ (by decide)]
    exact World.cell?_setCell_same _ _ _ (by rw [set_offZ _ _ _ _ _ (by decide)]; exact h2)
  · rw [set_offZ _ _ _ _ _ (by decide), set_offZ _ _ _ _ _ (by decide)]
    exact World.cell?_setCell_same _ _ _ (by rw [set_offZ _ _ _ _ _ (by decide), set_offZ _ _ _ _ _ (by decide)]; exact h3)
  · rw [set_offZ _ _ _ _ _ (by decide)]
    exact World.cell?_setCell_same _ _ _ (by rw [set_offZ _ _ _ _ _ (by decide), set_offZ _ _ _ _ _ (by decide), set_offZ _ _ _ _ _ (by decide)]; exact h4)
  · exact World.cell?_setCell_same _ _ _ (by rw [set_offZ _ _ _ _ _ (by decide), set_offZ _ _ _ _ _ (by decide), set_offZ _ _ _ _ _ (by decide), set_offZ _ _ _ _ _ (by decide)]; exact h5)
theorem put5_belowZ {B b : Nat} {w w' : World} {u0 u1 u2 u3 u4 : Value} (h : Below B w w') (hb : B ≤ b) : Below B w (put5Z w' b u0 u1 u2 u3 u4) :=
  ((((h.setCell (by exact hb) _).setCell (by exact hb) _).setCell (by exact hb) _).setCell (by exact hb) _).setCell (by exact hb) _
theorem put5_cellZ {w : World} {b : Nat} {u0 u1 u2 u3 u4 : Value} {p : Addr} (h : p.block ≠ b) : (put5Z w b u0 u1 u2 u3 u4).cell? p = w.cell? p := by
  unfold put5Z
  have key : ∀ (W : World) (j : Nat) (u : Value), (W.setCell ⟨b, j, none⟩ u).cell? p = W.cell? p := fun W j u => World.cell?_setCell_other _ _ _ _ (fun e => h (congrArg Addr.block e).symm)
  rw [key, key, key, key, key]
theorem load_five84 {W : World} {b : Nat} {c0 c1 c2 c3 c4 : Value} (h : Five W b c0 c1 c2 c3 c4) : (loadVar 127 ⟨b, 0, none⟩).run Tryz.prog W = .ok (.agg #[c0, c1, c2, c3, c4]) W := by
  obtain ⟨h0, h1, h2, h3, h4, h5⟩ := h
  go_simp
theorem load_five25 {W : World} {b : Nat} {c0 c1 c2 c3 c4 : Value} (h : Five W b c0 c1 c2 c3 c4) : (loadVar 25 ⟨b, 0, none⟩).run Tryz.prog W = .ok (.agg #[c0, c1, c2, c3, c4]) W := by
  obtain ⟨h0, h1, h2, h3, h4, h5⟩ := h
  go_simp
theorem put5_own {w : World} {b B e n sz : Nat} {v : Value} {xs : List Value} {u0 u1 u2 u3 u4 : Value} (h : w.ownsRow B e sz v n xs) (hb : v.ownBlock ≠ some b) : (put5Z w b u0 u1 u2 u3 u4).ownsRow B e sz v n xs :=
  ownsRow_setCell_other (a := ⟨b, 4, none⟩) (ownsRow_setCell_other (a := ⟨b, 3, none⟩) (ownsRow_setCell_other (a := ⟨b, 2, none⟩) (ownsRow_setCell_other (a := ⟨b, 1, none⟩) (ownsRow_setCell_other (a := ⟨b, 0, none⟩) h hb _) hb _) hb _) hb _) hb _
theorem put5_turns {p : Nat → Prop} {w w' : World} {b : Nat} {u0 u1 u2 u3 u4 : Value} (h : Turns p w w') (hb : w.heap.size ≤ b) : Turns p w (put5Z w' b u0 u1 u2 u3 u4) :=
  ((((h.set (a := ⟨b, 0, none⟩) fun hx => absurd hx (by show ¬ b < _; omega)).set (a := ⟨b, 1, none⟩) fun hx => absurd hx (by show ¬ b < _; omega)).set (a := ⟨b, 2, none⟩) fun hx => absurd hx (by show ¬ b < _; omega)).set (a := ⟨b, 3, none⟩) fun hx => absurd hx (by show ¬ b < _; omega)).set (a := ⟨b, 4, none⟩) fun hx => absurd hx (by show ¬ b < _; omega)
theorem res_box84 {fn : Func} {p : Tmp} (h : fn.results = #[.cell p 127]) (tmps : Array Value) (W : World) (b : Nat) (c0 c1 c2 c3 c4 : Value) (hp : tmps.getD p undef = .pointer (some ⟨b, 0, none⟩)) (hf : Five W b c0 c1 c2 c3 c4) :
    (results fn tmps).run Tryz.prog W = .ok (.agg #[c0, c1, c2, c3, c4]) W := by
  have hp' : tmps[p]?.getD undef = .pointer (some ⟨b, 0, none⟩) := by simpa using hp
  simp [results, h, hp', asAddr, load_five84 hf]
theorem res_box25 {fn : Func} {p : Tmp} (h : fn.results = #[.cell p 25]) (tmps : Array Value) (W : World) (b : Nat) (c0 c1 c2 c3 c4 : Value) (hp : tmps.getD p undef = .pointer (some ⟨b, 0, none⟩)) (hf : Five W b c0 c1 c2 c3 c4) :
    (results fn tmps).run Tryz.prog W = .ok (.agg #[c0, c1, c2, c3, c4]) W := by
  have hp' : tmps[p]?.getD undef = .pointer (some ⟨b, 0, none⟩) := by simpa using hp
  simp [results, h, hp', asAddr, load_five25 hf]
theorem rowA_five {w : World} {H x : Nat} (h : w.heap[H]? = some (.cells (rowC x).toArray 127 (0, 0))) : FiveFZ w H (.int .i64 0) (.int .u64 (x : Int)) (.int .u64 0) (.int .u64 0) (.int .u64 0) :=
  ⟨⟨lt_of_block h, (rowA_at h 0).1, (rowA_at h 1).1, (rowA_at h 2).1, (rowA_at h 3).1, (rowA_at h 4).1⟩, (rowA_at h 0).2, (rowA_at h 1).2, (rowA_at h 2).2, (rowA_at h 3).2, (rowA_at h 4).2⟩
theorem radd_step {n0 g cap a b H i x z p q : Nat} {W w1 : World} (hgH : g < H) (hi : i < 4) (h0 : i = 0 → x = a ∧ z = b) (h1 : 0 < i → x = a ||| b ∧ z = diffN b a) (hp : (if i = 0 then x else 0) = p) (hq : (if i = 0 then z else 0) = q) (hH : W.heap.size ≤ H)
    (hO : w1.ownsRow n0 127 5 (.slice (some ⟨g, 0, none⟩) 1 cap) 1 (rowC x)) (hz : w1.heap[H]? = some (.cells (rowC z).toArray 127 (0, 0))) (hr : w1.heap[H + 1]? = some (.cells (rowC 0).toArray 127 (0, 0))) (ht : Turns (fun k => k = g) W w1) :
    ((w1.setCell ⟨g, 1 + i, none⟩ (.int .u64 ((p ||| q : Nat) : Int))).setCell ⟨H, 1 + i, none⟩ (.int .u64 ((diffN q p : Nat) : Int))).drew.ownsRow n0 127 5 (.slice (some ⟨g, 0, none⟩) 1 cap) 1 (rowC (a ||| b)) ∧
    ((w1.setCell ⟨g, 1 + i, none⟩ (.int .u64 ((p ||| q : Nat) : Int))).setCell ⟨H, 1 + i, none⟩ (.int .u64 ((diffN q p : Nat) : Int))).drew.heap[H]? = some (.cells (rowC (diffN b a)).toArray 127 (0, 0)) ∧
    ((w1.setCell ⟨g, 1 + i, none⟩ (.int .u64 ((p ||| q : Nat) : Int))).setCell ⟨H, 1 + i, none⟩ (.int .u64 ((diffN q p : Nat) : Int))).drew.heap[H + 1]? = some (.cells (rowC 0).toArray 127 (0, 0)) ∧
    Turns (fun k => k = g) W ((w1.setCell ⟨g, 1 + i, none⟩ (.int .u64 ((p ||| q : Nat) : Int))).setCell ⟨H, 1 + i, none⟩ (.int .u64 ((diffN q p : Nat) : Int))).drew := by
  have ex : rowC (a ||| b) = (rowC x).set (1 + i) (.int .u64 ((p ||| q : Nat) : Int)) := by
    rw [rowC_set x _ i hi (fun h => by rw [← hp, ← hq, if_neg h, if_neg h]; rfl)]
    by_cases e : i = 0
    · obtain ⟨rfl, rfl⟩ := h0 e
      rw [if_pos e] at hp hq ⊢
      rw [hp, hq]
    · rw [if_neg e, (h1 (by omega)).1]
  have ez : rowC (diffN b a) = (rowC z).set (1 + i) (.int .u64 ((diffN q p : Nat) : Int)) := by
    rw [rowC_set z _ i hi (fun h => by rw [← hp, ← hq, if_neg h, if_neg h]; rfl)]
    by_cases e : i = 0
    · obtain ⟨rfl, rfl⟩ := h0 e
      rw [if_pos e] at hp hq ⊢
      rw [hp, hq]
    · rw [if_neg e, (h1 (by omega)).2]
  refine ⟨?_, ?_, ?_, ((ht.set fun _ => rfl).set fun h => by simp at h; omega).drew⟩
  · rw [ex]
    exact ownsRow_setCell_other (row_setZ hO (1 + i) _) (fun e => by simp [Value.ownBlock] at e; omega) _
  · rw [ez]
    have := Go.Joins.block_setCell (w := w1.setCell ⟨g, 1 + i, none⟩ (.int .u64 ((p ||| q : Nat) : Int))) (i := 1 + i) ((Below.heap_setCell _ _ _ _ (by show H ≠ g; omega)).trans hz) (.int .u64 ((diffN q p : Nat) : Int))
    rw [List.setIfInBounds_toArray] at this
    exact this
  · exact (Below.heap_setCell _ _ _ _ (by show H + 1 ≠ H; omega)).trans ((Below.heap_setCell _ _ _ _ (by show H + 1 ≠ g; omega)).trans hr)
set_option maxRecDepth 100000 in
set_option maxHeartbeats 4000000 in
theorem radd90 (n0 g cap a b : Nat) (W : World) (hO : W.ownsRow n0 127 5 (.slice (some ⟨g, 0, none⟩) 1 cap) 1 (rowC a)) (ha : a < 2305843009213693952) (hb : b < 2305843009213693952) :
    Calls Tryz.prog 129 #[.pointer (some ⟨g, 0, none⟩), .agg #[.int .i64 0, .int .u64 (b : Int), .int .u64 0, .int .u64 0, .int .u64 0]] W fun e w' =>
      e = .returned (.agg #[.int .i64 0, .int .u64 (diffN b a : Nat), .int .u64 0, .int .u64 0, .int .u64 0]) ∧ w'.ownsRow n0 127 5 (.slice (some ⟨g, 0, none⟩) 1 cap) 1 (rowC (a ||| b)) ∧ Turns (fun k => k = g) W w' ∧ W.heap.size + 2 ≤ w'.heap.size := by
  have hg : g < W.heap.size := (World.ownsRow.lt hO g rfl).2
  have OO := hide hO
  have Ha := hide ha
  have Hb := hide hb
  clear hO ha hb
  go_enter Tryz.func129, Tryz.ntmps129
  go_wp2
  go_loopw [7] (fun y wr => ∃ i x z : Nat, i ≤ 4 ∧ x < 2305843009213693952 ∧ z < 2305843009213693952 ∧ y = .int .i64 (i : Int) ∧ (i = 0 → x = a ∧ z = b) ∧ (0 < i → x = a ||| b ∧ z = diffN b a) ∧ wr.ownsRow n0 127 5 (.slice (some ⟨g, 0, none⟩) 1 cap) 1 (rowC x) ∧
    wr.heap[W.heap.size]? = some (.cells (rowC z).toArray 127 (0, 0)) ∧ wr.heap[W.heap.size + 1]? = some (.cells (rowC 0).toArray 127 (0, 0)) ∧ Turns (fun k => k = g) W wr) (fun y _ => 4 - (intOf y).toNat)
  case atStart =>
    refine ⟨0, a, b, by omega, Ha.out, Hb.out, rfl, fun _ => ⟨rfl, rfl⟩, fun h => by omega, (OO.out.alloc _).alloc _, ?_, ?_, ((Turns.refl _ W).alloc _).alloc _⟩
    · exact (Below.heap_alloc _ _ _ (by simp)).trans (heap_alloc_new W _)
    · have := heap_alloc_new (W.alloc (.cells (rowC b).toArray 127)) (.cells (rowC 0).toArray 127)
      rw [World.size_alloc] at this
      exact this
  case round =>
    obtain ⟨i, x, z, hi, hx61, hz61, rfl, h0, h1, hO, hz, hr, ht⟩ := hrel
    obtain ⟨w1, hw1⟩ : ∃ w1, w1 = wr := ⟨wr, rfl⟩
    subst hw1
    have O := hide hO
    have Z := hide hz
    have R := hide hr
    have T := hide ht
    have H0 := hide h0
    have H1 := hide h1
    by_cases hlt : i < 4
    · obtain ⟨p, hp⟩ : ∃ p, (if i = 0 then x else 0) = p := ⟨_, rfl⟩
      obtain ⟨q, hq⟩ : ∃ q, (if i = 0 then z else 0) = q := ⟨_, rfl⟩
      have hp61 : p < 2305843009213693952 := by rw [← hp]; split <;> omega
      have hq61 : q < 2305843009213693952 := by rw [← hq]; split <;> omega
      have c1 : w1.cell? ⟨g, 1 + i, none⟩ = some (.int .u64 (p : Int)) := by rw [← hp]; exact (World.ownsRow.cellAt hO (1 + i) (by omega)).trans (rowC_at x i hlt)
      have c2 : w1.frozen? ⟨g, 1 + i, none⟩ = false := World.ownsRow.frozenAt hO (1 + i)
      have c3 : w1.cell? ⟨W.heap.size, 1 + i, none⟩ = some (.int .u64 (q : Int)) := by rw [← hq]; exact (rowA_at hz (1 + i)).1.trans (rowC_at z i hlt)
      have c4 : w1.frozen? ⟨W.heap.size, 1 + i, none⟩ = false := (rowA_at hz (1 + i)).2
      have hd : decide ((i : Int) < 4) = true := decide_eq_true (by omega)
      have Hp := hide hp
      have Hq := hide hq
      clear hO hz hr ht h0 h1 hp hq
      go_wp2
      have eo : bits .or .u64 (p : Int) (q : Int) = ((p ||| q : Nat) : Int) := bits_or_u64_nat p q (by omega) (by omega)
      have ea : bits .andNot .u64 (q : Int) (p : Int) = ((diffN q p : Nat) : Int) := u64_andNot_nat q p (by omega) (by omega)
      have hi4 : (i : Int) < 4 := by omega
      have hi0 : (0 : Int) ≤ (i : Int) := by omega
      go_still_tail 13, (by kernel_rfl)
      change wpList _ _ _ _ _ w1.drew
      go_wp2
      go_roundw
      case rel =>
        obtain ⟨k1, k2, k3, k4⟩ := radd_step hg hlt H0.out H1.out Hp.out Hq.out (Nat.le_refl _) O.out Z.out R.out T.out
        exact ⟨i + 1, a ||| b, diffN b a, by omega, Nat.or_lt_two_pow (n := 61) Ha.out Hb.out, Nat.lt_of_le_of_lt (diff_le b a) Hb.out, by go_num, fun h => by omega, fun _ => ⟨rfl, rfl⟩, k1, k2, k3, k4⟩
      case measure => simp [intOf]; omega
    · obtain ⟨rfl, rfl⟩ := h1 (by omega)
      obtain ⟨⟨_, t0, t1, t2, t3, t4⟩, _⟩ := rowA_five hz
      have HR5 := hide (rowA_five hr)
      obtain ⟨⟨_, r0, r1, r2, r3, r4⟩, f0, f1, f2, f3, f4⟩ := HR5.out
      clear hO hz hr ht h0 h1
      go_wp2
      refine bodyPost_ret (res_box84 rfl _ _ (W.heap.size + 1) _ _ _ _ _ rfl (put5_fiveZ HR5.out (.int .i64 0) (.int .u64 (diffN b a : Nat)) (.int .u64 0) (.int .u64 0) (.int .u64 0))) rfl ⟨rfl, ?_, ?_, ?_⟩
      · exact put5_own O.out (fun e => by simp [Value.ownBlock] at e; omega)
      · exact put5_turns T.out (by omega)
      · have := lt_of_block R.out
        simp [World.setCell]
        omega
end Go.Proofs.YtlnbjdlooghpeaaGreatDoor
namespace Go.Proofs.YtlnbjdlooghpeaaGreatDoor
open Go.RowKit
def AddV (n0 : Nat) (W : World) (B : Nat) (v : Value) (a b : Nat) (e : Ending) (W' : World) : Prop :=
  ∃ u v', e = .returned (.agg #[u]) ∧ SetV W' u (diffN b a) ∧ Box n0 W' B v' (a ||| b) ∧ Turns (fun k => k = B ∨ v.ownBlock = some k) W W' ∧ (v'.ownBlock = v.ownBlock ∨ ∀ k, v'.ownBlock = some k → W.heap.size ≤ k)
theorem SetV.row {W : World} {v : Value} {m : Nat} (h : SetV W v m) (hm : m ≠ 0) : ∃ r c, v = .slice (some ⟨r, 0, none⟩) 1 c ∧ Row1 W r m := by
  rcases h with ⟨h0, _⟩ | ⟨_, b, c, hv, _, _, hlt, hc⟩
  · exact absurd h0 hm
  · exact ⟨b, c, hv, hlt, hc⟩
theorem SetV.nil {W : World} {v : Value} (h : SetV W v 0) : ∃ A c, v = .slice A 0 c := by
  rcases h with ⟨_, A, c, hv, _⟩ | ⟨h0, _⟩
  · exact ⟨A, c, hv⟩
  · exact absurd rfl h0
theorem eq82 (n : Nat) (x y : Int) (b : Bool) (h : (x == y) = b) (w : World) : (Op.equalIn (n + 2) 125 (.agg #[.int .u64 x, .int .u64 0, .int .u64 0, .int .u64 0]) (.agg #[.int .u64 y, .int .u64 0, .int .u64 0, .int .u64 0])).run Tryz.prog w = .ok b w := by
  unfold Op.equalIn
  cases b
  · simp [run_underlying Tryz.underlying125, Sem.run_bind, go_sem, List.range']
    simpa using h
  · simp [run_underlying Tryz.underlying125, Sem.run_bind, go_sem, List.range']
    simpa using h
theorem Turns.wide {p q : Nat → Prop} {A B : World} (h : Turns p A B) (hp : ∀ k, p k → q k) : Turns q A B := ⟨h.os, h.tape, h.output, h.size, fun k hk hn => h.block k hk fun x => hn (hp k x)⟩
theorem setv_off {W : World} {v : Value} {m b : Nat} {u : Value} (h : SetV W v m) (hb : v.ownBlock ≠ some b) : SetV (W.setCell ⟨b, 0, none⟩ u) v m := by
  rcases h with h | ⟨h0, g, c, hv, h1, h2, hlt, hc⟩
  · exact Or.inl h
  · subst hv
    refine Or.inr ⟨h0, g, c, rfl, h1, h2, by simpa [World.setCell] using hlt, fun j hj => ?_⟩
    exact (World.cell?_setCell_other _ _ _ _ (fun e => hb (congrArg some (congrArg Addr.block e).symm))).trans (hc j hj)
theorem bel_allocZ (w : World) (o : Obj) : Below w.heap.size w (w.alloc o) := bnew (Below.refl _ _) o
set_option maxRecDepth 100000 in
set_option maxHeartbeats 4000000 in
theorem add76_none (n0 B a : Nat) (v x : Value) (W : World) (hb : Box n0 W B v a) (hx : SetV W x 0) : Calls Tryz.prog 103 #[.pointer (some ⟨B, 0, none⟩), .agg #[x]] W (AddV n0 W B v a 0) := by
  obtain ⟨A, c, rfl⟩ := hx.nil
  have HB := hide hb
  have s0 := heap_alloc_new ((W.alloc (.cells #[.slice A 0 c] 62)).alloc (.cells #[.slice none 0 0] 62)) (.cells #[.slice none 0 0] 62)
  clear hb hx
  go_enter Tryz.func103, Tryz.ntmps103
  go_wp2
  go_loop [15] (fun y => y = .int .i64 0) (fun _ => 0)
  case atStart => rfl
  case round =>
    subst hrel
    go_wp2
    refine bodyPost_ret (v := .agg #[.slice none 0 0]) (by simp [results, Tryz.results103, go_sem]) rfl ⟨_, v, rfl, ?_, ?_, ?_, Or.inl rfl⟩
    · rw [show diffN 0 a = 0 by unfold diffN; exact Nat.zero_and _]
      exact Or.inl ⟨rfl, Option.none, 0, rfl, by omega⟩
    · rw [Nat.or_zero]
      exact HB.out.below (bnew (bnew (bnew (Below.refl _ _) _) _) _)
    · exact (((Turns.refl _ W).alloc _).alloc _).alloc _
set_option maxRecDepth 100000 in
set_option maxHeartbeats 8000000 in
theorem add76_some (n0 B a b g cap r c : Nat) (W : World) (hb : Box n0 W B (.slice (some ⟨g, 0, none⟩) 1 cap) a) (ha0 : a ≠ 0) (ha : a < 2305843009213693952) (hb0 : b ≠ 0) (hb6 : b < 2305843009213693952) (hr : Row1 W r b) (hc : 1 ≤ c ∧ c ≤ 9223372036854775807) :
    Calls Tryz.prog 103 #[.pointer (some ⟨B, 0, none⟩), .agg #[.slice (some ⟨r, 0, none⟩) 1 c]] W (AddV n0 W B (.slice (some ⟨g, 0, none⟩) 1 cap) a b) := by
  obtain ⟨i0, hi, hz0, hz1, hz2⟩ := info_parts info84
  have hown : W.ownsRow n0 127 5 (.slice (some ⟨g, 0, none⟩) 1 cap) 1 (rowC a) := by
    rcases hb.2.2 with ⟨h, _⟩ | ⟨_, h⟩
    · exact absurd h ha0
    · exact h
  have hgB : g ≠ B := fun e => own_far hown hb.2.1 (by decide) (by rw [e]; rfl)
  have hBlt := hb.lt
  have hglt : g < W.heap.size := (World.ownsRow.lt hown g rfl).2
  have HB := hide hb
  have HO := hide hown
  have HR := hide hr
  have Ha := hide ha
  have Hb6 := hide hb6
  have Ha0 := hide ha0
  have Hb0 := hide hb0
  clear hb hown hr ha hb6 ha0 hb0
  go_enter Tryz.func103, Tryz.ntmps103
  go_wp2
  obtain ⟨W3, hW3⟩ : ∃ W3, ((W.alloc (.cells #[.slice (some ⟨r, 0, none⟩) 1 c] 62)).alloc (.cells #[.slice none 0 0] 62)).alloc (.cells #[.slice none 0 0] 62) = W3 := ⟨_, rfl⟩
  have h3 : W3.heap.size = W.heap.size + 3 := by rw [← hW3]; simp
  have b3 : Below W.heap.size W W3 := by rw [← hW3]; exact bnew (bnew (bnew (Below.refl _ _) _) _) _
  have k1 : W3.heap[W.heap.size + 1]? = some (.cells #[.slice none 0 0] 62 (0, 0)) := by
    rw [← hW3]
    have := heap_alloc_new (W.alloc (.cells #[.slice (some ⟨r, 0, none⟩) 1 c] 62)) (.cells #[.slice none 0 0] 62)
    rw [World.size_alloc] at this
    exact (Below.heap_alloc _ _ _ (by simp)).trans this
  have k2 : W3.heap[W.heap.size + 1 + 1]? = some (.cells #[.slice none 0 0] 62 (0, 0)) := by
    rw [← hW3]
    have := heap_alloc_new ((W.alloc (.cells #[.slice (some ⟨r, 0, none⟩) 1 c] 62)).alloc (.cells #[.slice none 0 0] 62)) (.cells #[.slice none 0 0] 62)
    rw [World.size_alloc, World.size_alloc] at this
    exact this
  rw [hW3]
  clear hW3
  have K1 := hide k1
  have K2 := hide k2
  have H3 := hide h3
  have B3 := hide b3
  have Hn := hide hc
  clear k1 k2 h3 b3 hc
  go_loopw [15] (fun y wr => (y = .int .i64 0 ∧ wr = W3) ∨ (y = .int .i64 1 ∧ ∃ u n cu, wr.heap[B]? = some (.cells #[.slice (some ⟨g, 0, none⟩) 1 cap] 62 (0, 0)) ∧ wr.ownsRow n0 127 5 (.slice (some ⟨g, 0, none⟩) 1 cap) 1 (rowC (a ||| b)) ∧ Turns (fun k => k = g ∨ k = W.heap.size + 1 + 1) W3 wr ∧
    wr.heap[W.heap.size + 1 + 1]? = some (.cells #[.slice u n cu] 62 (0, 0)) ∧ SetV wr (.slice u n cu) (diffN b a) ∧ (∀ k, (Value.slice u n cu).ownBlock = some k → W.heap.size + 3 ≤ k))) (fun y _ => 1 - (intOf y).toNat)
  case atStart => exact Or.inl ⟨rfl, rfl⟩
  case round =>
    rcases hrel with ⟨rfl, rfl⟩ | ⟨rfl, u, n, cu, hbx, ho, ht, q2, hsv, hfar⟩
    · obtain ⟨w3, hw3⟩ : ∃ w3, w3 = wr := ⟨wr, rfl⟩
      subst hw3
      obtain ⟨_, t0, t1, t2, t3, t4⟩ := (HR.out.below B3.out).five
      go_wp2
      obtain ⟨W4, hW4⟩ : ∃ W4, w3.alloc (.cells #[.int .i64 0, .int .u64 (b : Int), .int .u64 0, .int .u64 0, .int .u64 0] 127) = W4 := ⟨_, rfl⟩
      have b4 : Below w3.heap.size w3 W4 := by rw [← hW4]; exact bnew (Below.refl _ _) _
      have h4 : W4.heap.size = w3.heap.size + 1 := by rw [← hW4]; simp
      have row4 : W4.heap[w3.heap.size]? = some (.cells (rowC b).toArray 127 (0, 0)) := by rw [← hW4]; exact heap_alloc_new _ _
      rw [hW4]
      have cB : W4.cell? ⟨B, 0, none⟩ = some (.slice (some ⟨g, 0, none⟩) 1 cap) := cell_of_one (HB.out.below (bgo B3.out b4)).2.1
      obtain ⟨⟨_, r0, r1, r2, r3, r4⟩, _⟩ := rowA_five row4
      have B4 := hide b4
      have H4 := hide h4
      have R4 := hide row4
      have HC := hide (search88_one g cap a W4.drew ⟨by show g < W4.heap.size; have := B3.out.size; have := b4.size; omega, fun j hj => (World.ownsRow.cellAt (owns_below' HO.out (bgo B3.out b4)) j (by omega))⟩)
      have HK := hide (show ∀ w', Below W4.drew.heap.size W4.drew w' → w'.cell? ⟨B, 0, none⟩ = some (.slice (some ⟨g, 0, none⟩) 1 cap) ∧ w'.cell? ⟨w3.heap.size, 0, none⟩ = some (.int .i64 0) from fun w' hb => by
        have key : ∀ p v, W4.cell? p = some v → w'.cell? p = some v := fun p v h => (hb.cell (p := p) (World.block_lt_of_cell? _ _ h)).trans h
        exact ⟨key _ _ cB, key _ _ r0⟩)
      clear hW4 b4 h4 row4 t0 t1 t2 t3 t4
      go_region_held3 (fun w' => w'.cell? ⟨B, 0, none⟩ = some (.slice (some ⟨g, 0, none⟩) 1 cap) ∧ w'.cell? ⟨w3.heap.size, 0, none⟩ = some (.int .i64 0))
        (first | go_keep | exact HK.out _ hb5)
        (first | (go_at_call 127; refine HC.out.mono ?_; rintro e w5 ⟨rfl, hb5⟩))
      have B5 := hide ((show Below W4.heap.size W4 W4.drew from bel_drew _).trans hb5)
      have hsz5 := hb5.size
      have hbB5 := HB.out.below (bgo B3.out (bgo B4.out B5.out))
      have R5 := hide ((B5.out.block _ (by rw [H4.out]; omega)).trans R4.out)
      have cB5 := cell_of_one hbB5.2.1
      obtain ⟨⟨_, r0, r1, r2, r3, r4⟩, _⟩ := rowA_five R5.out
      have O5 := hide (owns_below' HO.out (bgo B3.out (bgo B4.out B5.out)))
      have HB5 := hide hbB5
      have hlo : W.heap.size + 4 ≤ w5.heap.size := by have := B5.out.size; rw [H4.out, H3.out] at this; omega
      have B35 := hide (Turns.of_below (p := fun k => k = g) (bgo B4.out B5.out))
      obtain ⟨N, hN⟩ : ∃ N, w5.heap.size + 1 = N := ⟨_, rfl⟩
      have hRB : w3.heap.size < w5.heap.size := by rw [H3.out]; omega
      have hgR : w3.heap.size ≠ g := by rw [H3.out]; omega
      have hBR : B ≠ g := fun e => hgB e.symm
      have HKs := hide (show ∀ X Y, ((X.cell? ⟨B, 0, none⟩ = some (.slice (some ⟨g, 0, none⟩) 1 cap) ∧ X.cell? ⟨w3.heap.size, 0, none⟩ = some (.int .i64 0) ∧ X.cell? ⟨w3.heap.size, 1, none⟩ = some (.int .u64 (b : Int)) ∧ X.cell? ⟨w3.heap.size, 2, none⟩ = some (.int .u64 0) ∧ X.cell? ⟨w3.heap.size, 3, none⟩ = some (.int .u64 0) ∧ X.cell? ⟨w3.heap.size, 4, none⟩ = some (.int .u64 0)) ∧ (X.heap.size ≤ N → Below w5.heap.size w5 X)) → Below X.heap.size X Y → (Y.cell? ⟨B, 0, none⟩ = some (.slice (some ⟨g, 0, none⟩) 1 cap) ∧ Y.cell? ⟨w3.heap.size, 0, none⟩ = some (.int .i64 0) ∧ Y.cell? ⟨w3.heap.size, 1, none⟩ = some (.int .u64 (b : Int)) ∧ Y.cell? ⟨w3.heap.size, 2, none⟩ = some (.int .u64 0) ∧ Y.cell? ⟨w3.heap.size, 3, none⟩ = some (.int .u64 0) ∧ Y.cell? ⟨w3.heap.size, 4, none⟩ = some (.int .u64 0)) ∧ (Y.heap.size ≤ N → Below w5.heap.size w5 Y) from fun X Y ⟨⟨c0, c1, c2, c3, c4, c5⟩, hX⟩ hb => by
        have key : ∀ p v, X.cell? p = some v → Y.cell? p = some v := fun p v h => (hb.cell (p := p) (World.block_lt_of_cell? _ _ h)).trans h
        exact ⟨⟨key _ _ c0, key _ _ c1, key _ _ c2, key _ _ c3, key _ _ c4, key _ _ c5⟩, fun hy => bgo (hX (by have := hb.size; omega)) hb⟩)
      have HKt := hide (show ∀ X Y, ((X.cell? ⟨B, 0, none⟩ = some (.slice (some ⟨g, 0, none⟩) 1 cap) ∧ X.cell? ⟨w3.heap.size, 0, none⟩ = some (.int .i64 0) ∧ X.cell? ⟨w3.heap.size, 1, none⟩ = some (.int .u64 (b : Int)) ∧ X.cell? ⟨w3.heap.size, 2, none⟩ = some (.int .u64 0) ∧ X.cell? ⟨w3.heap.size, 3, none⟩ = some (.int .u64 0) ∧ X.cell? ⟨w3.heap.size, 4, none⟩ = some (.int .u64 0)) ∧ (X.heap.size ≤ N → Below w5.heap.size w5 X)) → Turns (fun k => k = g) X Y → N < Y.heap.size → (Y.cell? ⟨B, 0, none⟩ = some (.slice (some ⟨g, 0, none⟩) 1 cap) ∧ Y.cell? ⟨w3.heap.size, 0, none⟩ = some (.int .i64 0) ∧ Y.cell? ⟨w3.heap.size, 1, none⟩ = some (.int .u64 (b : Int)) ∧ Y.cell? ⟨w3.heap.size, 2, none⟩ = some (.int .u64 0) ∧ Y.cell? ⟨w3.heap.size, 3, none⟩ = some (.int .u64 0) ∧ Y.cell? ⟨w3.heap.size, 4, none⟩ = some (.int .u64 0)) ∧ (Y.heap.size ≤ N → Below w5.heap.size w5 Y) from fun X Y ⟨⟨c0, c1, c2, c3, c4, c5⟩, hX⟩ ht hn => by
        have key : ∀ p v, p.block ≠ g → X.cell? p = some v → Y.cell? p = some v := fun p v hp h => (World.cell?_of_block (a := p) (ht.block _ (World.block_lt_of_cell? _ _ h) hp)).trans h
        exact ⟨⟨key ⟨B, 0, none⟩ _ hBR c0, key ⟨w3.heap.size, 0, none⟩ _ hgR c1, key ⟨w3.heap.size, 1, none⟩ _ hgR c2, key ⟨w3.heap.size, 2, none⟩ _ hgR c3, key ⟨w3.heap.size, 3, none⟩ _ hgR c4, key ⟨w3.heap.size, 4, none⟩ _ hgR c5⟩, fun hy => by omega⟩)
      have HS0 := hide (show (w5.drew.cell? ⟨B, 0, none⟩ = some (.slice (some ⟨g, 0, none⟩) 1 cap) ∧ w5.drew.cell? ⟨w3.heap.size, 0, none⟩ = some (.int .i64 0) ∧ w5.drew.cell? ⟨w3.heap.size, 1, none⟩ = some (.int .u64 (b : Int)) ∧ w5.drew.cell? ⟨w3.heap.size, 2, none⟩ = some (.int .u64 0) ∧ w5.drew.cell? ⟨w3.heap.size, 3, none⟩ = some (.int .u64 0) ∧ w5.drew.cell? ⟨w3.heap.size, 4, none⟩ = some (.int .u64 0)) ∧ (w5.drew.heap.size ≤ N → Below w5.heap.size w5 w5.drew) from ⟨⟨cB5, r0, r1, r2, r3, r4⟩, fun _ => bel_drew _⟩)
      have HC2 := hide (fun X (hs : (X.cell? ⟨B, 0, none⟩ = some (.slice (some ⟨g, 0, none⟩) 1 cap) ∧ X.cell? ⟨w3.heap.size, 0, none⟩ = some (.int .i64 0) ∧ X.cell? ⟨w3.heap.size, 1, none⟩ = some (.int .u64 (b : Int)) ∧ X.cell? ⟨w3.heap.size, 2, none⟩ = some (.int .u64 0) ∧ X.cell? ⟨w3.heap.size, 3, none⟩ = some (.int .u64 0) ∧ X.cell? ⟨w3.heap.size, 4, none⟩ = some (.int .u64 0)) ∧ (X.heap.size ≤ N → Below w5.heap.size w5 X)) (hn : X.heap.size ≤ N) (h5 : w5.heap.size ≤ X.heap.size) => (radd90 n0 g cap a b X (owns_below' O5.out (hs.2 hn)) Ha.out Hb6.out).mono (R' := fun e w' => e = .returned (.agg #[.int .i64 0, .int .u64 (diffN b a : Nat), .int .u64 0, .int .u64 0, .int .u64 0]) ∧ w'.ownsRow n0 127 5 (.slice (some ⟨g, 0, none⟩) 1 cap) 1 (rowC (a ||| b)) ∧ Turns (fun k => k = g) X w' ∧ N < w'.heap.size) fun e w' ⟨he, h1, h2, h3⟩ => ⟨he, h1, h2, by omega⟩)
      have HS1 := hide (HKs.out w5.drew (w5.alloc (.cells #[.int .i64 0, .int .u64 0, .int .u64 0, .int .u64 0, .int .u64 0] 127)).drew HS0.out (by have := bel_allocZ w5.drew (.cells #[.int .i64 0, .int .u64 0, .int .u64 0, .int .u64 0, .int .u64 0] 127); exact this))
      have HC3 := hide ((HC2.out _ HS1.out (by simp; omega) (by simp)).mono (R' := fun e w' => e = .returned (.agg #[.int .i64 0, .int .u64 (diffN b a : Nat), .int .u64 0, .int .u64 0, .int .u64 0]) ∧ w'.ownsRow n0 127 5 (.slice (some ⟨g, 0, none⟩) 1 cap) 1 (rowC (a ||| b)) ∧ Turns (fun k => k = g) (w5.alloc (.cells #[.int .i64 0, .int .u64 0, .int .u64 0, .int .u64 0, .int .u64 0] 127)).drew w' ∧ N < w'.heap.size ∧
        FiveFZ w' w5.heap.size (.int .i64 0) (.int .u64 0) (.int .u64 0) (.int .u64 0) (.int .u64 0)) fun e w' ⟨he, h1, h2, h3⟩ => ⟨he, h1, h2, h3, rowA_five (x := 0) ((h2.block w5.heap.size (by simp) (by omega)).trans (heap_alloc_new w5 _))⟩)
      have HKp := hide (show ∀ X u0 u1 u2 u3 u4, ((X.cell? ⟨B, 0, none⟩ = some (.slice (some ⟨g, 0, none⟩) 1 cap) ∧ X.cell? ⟨w3.heap.size, 0, none⟩ = some (.int .i64 0) ∧ X.cell? ⟨w3.heap.size, 1, none⟩ = some (.int .u64 (b : Int)) ∧ X.cell? ⟨w3.heap.size, 2, none⟩ = some (.int .u64 0) ∧ X.cell? ⟨w3.heap.size, 3, none⟩ = some (.int .u64 0) ∧ X.cell? ⟨w3.heap.size, 4, none⟩ = some (.int .u64 0)) ∧ (X.heap.size ≤ N → Below w5.heap.size w5 X)) → N < X.heap.size → ((((((X.setCell ⟨w5.heap.size, 0, none⟩ u0).setCell ⟨w5.heap.size, 1, none⟩ u1).setCell ⟨w5.heap.size, 2, none⟩ u2).setCell ⟨w5.heap.size, 3, none⟩ u3).setCell ⟨w5.heap.size, 4, none⟩ u4).cell? ⟨B, 0, none⟩ = some (.slice (some ⟨g, 0, none⟩) 1 cap) ∧ (((((X.setCell ⟨w5.heap.size, 0, none⟩ u0).setCell ⟨w5.heap.size, 1, none⟩ u1).setCell ⟨w5.heap.size, 2, none⟩ u2).setCell ⟨w5.heap.size, 3, none⟩ u3).setCell ⟨w5.heap.size, 4, none⟩ u4).cell? ⟨w3.heap.size, 0, none⟩ = some (.int .i64 0) ∧ (((((X.setCell ⟨w5.heap.size, 0, none⟩ u0).setCell ⟨w5.heap.size, 1, none⟩ u1).setCell ⟨w5.heap.size, 2, none⟩ u2).setCell ⟨w5.heap.size, 3, none⟩ u3).setCell ⟨w5.heap.size, 4, none⟩ u4).cell? ⟨w3.heap.size, 1, none⟩ = some (.int .u64 (b : Int)) ∧ (((((X.setCell ⟨w5.heap.size, 0, none⟩ u0).setCell ⟨w5.heap.size, 1, none⟩ u1).setCell ⟨w5.heap.size, 2, none⟩ u2).setCell ⟨w5.heap.size, 3, none⟩ u3).setCell ⟨w5.heap.size, 4, none⟩ u4).cell? ⟨w3.heap.size, 2, none⟩ = some (.int .u64 0) ∧ (((((X.setCell ⟨w5.heap.size, 0, none⟩ u0).setCell ⟨w5.heap.size, 1, none⟩ u1).setCell ⟨w5.heap.size, 2, none⟩ u2).setCell ⟨w5.heap.size, 3, none⟩ u3).setCell ⟨w5.heap.size, 4, none⟩ u4).cell? ⟨w3.heap.size, 3, none⟩ = some (.int .u64 0) ∧ (((((X.setCell ⟨w5.heap.size, 0, none⟩ u0).setCell ⟨w5.heap.size, 1, none⟩ u1).setCell ⟨w5.heap.size, 2, none⟩ u2).setCell ⟨w5.heap.size, 3, none⟩ u3).setCell ⟨w5.heap.size, 4, none⟩ u4).cell? ⟨w3.heap.size, 4, none⟩ = some (.int .u64 0)) ∧ ((((((X.setCell ⟨w5.heap.size, 0, none⟩ u0).setCell ⟨w5.heap.size, 1, none⟩ u1).setCell ⟨w5.heap.size, 2, none⟩ u2).setCell ⟨w5.heap.size, 3, none⟩ u3).setCell ⟨w5.heap.size, 4, none⟩ u4).heap.size ≤ N → Below w5.heap.size w5 (((((X.setCell ⟨w5.heap.size, 0, none⟩ u0).setCell ⟨w5.heap.size, 1, none⟩ u1).setCell ⟨w5.heap.size, 2, none⟩ u2).setCell ⟨w5.heap.size, 3, none⟩ u3).setCell ⟨w5.heap.size, 4, none⟩ u4)) from fun X u0 u1 u2 u3 u4 ⟨⟨c0, c1, c2, c3, c4, c5⟩, hX⟩ hn => by
        have e1 : B ≠ w5.heap.size := by omega
        have e2 : w3.heap.size ≠ w5.heap.size := by omega
        exact ⟨⟨(put5_cellZ (p := ⟨B, 0, none⟩) e1).trans c0, (put5_cellZ (p := ⟨w3.heap.size, 0, none⟩) e2).trans c1, (put5_cellZ (p := ⟨w3.heap.size, 1, none⟩) e2).trans c2, (put5_cellZ (p := ⟨w3.heap.size, 2, none⟩) e2).trans c3, (put5_cellZ (p := ⟨w3.heap.size, 3, none⟩) e2).trans c4, (put5_cellZ (p := ⟨w3.heap.size, 4, none⟩) e2).trans c5⟩, fun hy => by simp [World.setCell] at hy; omega⟩)
      clear hbB5 hb5
      go_wp2
      go_region_held3 (fun w' => (w'.cell? ⟨B, 0, none⟩ = some (.slice (some ⟨g, 0, none⟩) 1 cap) ∧ w'.cell? ⟨w3.heap.size, 0, none⟩ = some (.int .i64 0) ∧ w'.cell? ⟨w3.heap.size, 1, none⟩ = some (.int .u64 (b : Int)) ∧ w'.cell? ⟨w3.heap.size, 2, none⟩ = some (.int .u64 0) ∧ w'.cell? ⟨w3.heap.size, 3, none⟩ = some (.int .u64 0) ∧ w'.cell? ⟨w3.heap.size, 4, none⟩ = some (.int .u64 0)) ∧ (w'.heap.size ≤ N → Below w5.heap.size w5 w'))
        (first | (with_reducible exact HS0.out) | (with_reducible exact HS1.out) | (with_reducible exact HKt.out _ _ HS0.out ht8 hn8) | (with_reducible exact HKt.out _ _ HS1.out ht8 hn8) | (with_reducible exact HKs.out _ _ (HKt.out _ _ HS0.out ht8 hn8) (bel_allocZ _ _)) | (with_reducible exact HKp.out _ _ _ _ _ _ (HKt.out _ _ HS1.out ht8 hn8) hn8))
        (first
          | (go_at_call 129; (with_reducible refine HC3.out.mono ?_); rintro e w8 ⟨rfl, ho8, ht8, hn8, ⟨⟨hz8, z0, z1, z2, z3, z4⟩, y0, y1, y2, y3, y4⟩⟩)
          | (go_at_call 129; (with_reducible refine (HC2.out _ HS0.out (by simp; omega) (by simp)).mono ?_); rintro e w8 ⟨rfl, ho8, ht8, hn8⟩))
      rotate_left
      · have F9 := put5_fiveZ (u0 := .int .i64 0) (u1 := .int .u64 (diffN b a : Nat)) (u2 := .int .u64 0) (u3 := .int .u64 0) (u4 := .int .u64 0) (show FiveFZ w8 w5.heap.size (.int .i64 0) (.int .u64 0) (.int .u64 0) (.int .u64 0) (.int .u64 0) from ⟨⟨hz8, z0, z1, z2, z3, z4⟩, y0, y1, y2, y3, y4⟩)
        have O9 := put5_own (b := w5.heap.size) (u0 := .int .i64 0) (u1 := .int .u64 (diffN b a : Nat)) (u2 := .int .u64 0) (u3 := .int .u64 0) (u4 := .int .u64 0) ho8 (fun e => by simp [Value.ownBlock] at e; omega)
        have T9 := put5_turns (b := w5.heap.size) (u0 := .int .i64 0) (u1 := .int .u64 (diffN b a : Nat)) (u2 := .int .u64 0) (u3 := .int .u64 0) (u4 := .int .u64 0) ((B35.out.alloc _).drew.trans ht8 (r := fun k => k = g) (fun _ _ h => h) (fun _ _ h => h)) (by omega)
        unfold put5Z at F9 O9 T9
        generalize (((((w8.setCell ⟨w5.heap.size, 0, none⟩ (.int .i64 0)).setCell ⟨w5.heap.size, 1, none⟩ (.int .u64 (diffN b a : Nat))).setCell ⟨w5.heap.size, 2, none⟩ (.int .u64 0)).setCell ⟨w5.heap.size, 3, none⟩ (.int .u64 0)).setCell ⟨w5.heap.size, 4, none⟩ (.int .u64 0)) = wx at F9 O9 T9 ⊢
        have Bx9 := hide ((T9.block B (by rw [H3.out]; omega) hBR).trans (HB.out.below B3.out).2.1)
        have K9 := hide ((T9.block (W.heap.size + 1 + 1) (by rw [H3.out]; omega) (by omega)).trans K2.out)
        have hcK := cell_of_one K9.out
        have hfK := free_of_one K9.out
        obtain ⟨_, x0, x1, x2, x3, x4⟩ := F9
        have O99 := hide O9
        have T99 := hide T9
        have hx3 := T9.size
        clear O9 T9 HC2 HC3 HS0 HS1 HKs HKt HKp ho8 ht8 HK HC hsz5 cB5 r0 r1 r2 r3 r4 cB
        by_cases hd0 : diffN b a = 0
        · have heq := fun w => eq82 9998 (diffN b a : Nat) 0 true (by rw [hd0]; rfl) w
          have Hd0 := hide hd0
          clear hd0
          go_wp2
          go_roundw
          case rel => exact Or.inr ⟨rfl, none, 0, 0, Bx9.out, O99.out, T99.out.wide fun _ h => Or.inl h, K9.out, by rw [Hd0.out]; exact Or.inl ⟨rfl, none, 0, rfl, by omega⟩, fun k hk => by cases hk⟩
          case measure => simp [intOf]
        · have heq := fun w => eq82 9998 (diffN b a : Nat) 0 false (by simp; omega) w
          have Hd0 := hide hd0
          clear hd0
          go_wp2_with (at_builtin; refine wp_push_row rfl (.tmp 58) (.tmp 60) 60 rfl i0 _ _ Tryz.underlying60 hi hz0 hz1 hz2 rfl (by decide) _ _ _ _ _ _ (rowC_one (diffN b a)) rfl _ rfl rfl ?_)
          intro g6 cap6 w6 hg6 ho6 hb6
          have O6 := hide ho6
          have B6 := hide hb6
          have hcK6 := (hb6.cell (p := ⟨W.heap.size + 1 + 1, 0, none⟩) (by rw [H3.out] at hx3; show W.heap.size + 1 + 1 < _; omega)).trans hcK
          have hfK6 := (hb6.frozen (p := ⟨W.heap.size + 1 + 1, 0, none⟩) (by rw [H3.out] at hx3; show W.heap.size + 1 + 1 < _; omega)).trans hfK
          clear ho6 hb6
          go_wp2
          go_roundw
          case rel =>
            have hgk : g6 ≠ W.heap.size + 1 + 1 := by rw [H3.out] at hx3; omega
            have T98 := hide ((T99.out.trans (Turns.of_below B6.out (p := fun k => k = g)) (r := fun k => k = g ∨ k = W.heap.size + 1 + 1) (fun _ _ h => Or.inl h) fun _ _ h => Or.inl h))
            refine Or.inr ⟨rfl, some ⟨g6, 0, none⟩, 1, cap6, ?_, ?_, ?_, ?_, ?_, ?_⟩
            · exact (Below.heap_setCell w6 ⟨W.heap.size + 1 + 1, 0, none⟩ _ B (by show B ≠ W.heap.size + 1 + 1; omega)).trans ((B6.out.block B (by rw [H3.out] at hx3; omega)).trans Bx9.out)
            · exact ownsRow_setCell_other (owns_below' O99.out B6.out) (fun e => by simp [Value.ownBlock] at e; omega) _
            · exact T98.out.set fun _ => Or.inr rfl
            · exact one_setCell ((B6.out.block _ (by rw [H3.out] at hx3; omega)).trans K9.out)
            · exact Acc.set (n0 := wx.heap.size) (Or.inr ⟨Hd0.out, ownsRow_setCell_other O6.out (fun e => by simp [Value.ownBlock] at e; omega) _⟩)
            · intro k hk
              simp [Value.ownBlock] at hk
              rw [H3.out] at hx3
              omega
          case measure => simp [intOf]
      · have F9 := five_new w8 (.int .i64 0) (.int .u64 (diffN b a : Nat)) (.int .u64 0) (.int .u64 0) (.int .u64 0) 127
        have O9 := ho8.alloc (.cells #[.int .i64 0, .int .u64 (diffN b a : Nat), .int .u64 0, .int .u64 0, .int .u64 0] 127)
        have T9 := (B35.out.drew.trans ht8 (r := fun k => k = g) (fun _ _ h => h) (fun _ _ h => h)).alloc (.cells #[.int .i64 0, .int .u64 (diffN b a : Nat), .int .u64 0, .int .u64 0, .int .u64 0] 127)
        generalize w8.alloc (.cells #[.int .i64 0, .int .u64 (diffN b a : Nat), .int .u64 0, .int .u64 0, .int .u64 0] 127) = wx at F9 O9 T9 ⊢
        have Bx9 := hide ((T9.block B (by rw [H3.out]; omega) hBR).trans (HB.out.below B3.out).2.1)
        have K9 := hide ((T9.block (W.heap.size + 1 + 1) (by rw [H3.out]; omega) (by omega)).trans K2.out)
        have hcK := cell_of_one K9.out
        have hfK := free_of_one K9.out
        obtain ⟨_, x0, x1, x2, x3, x4⟩ := F9
        have O99 := hide O9
        have T99 := hide T9
        have hx3 := T9.size
        clear O9 T9 HC2 HC3 HS0 HS1 HKs HKt HKp ho8 ht8 HK HC hsz5 cB5 r0 r1 r2 r3 r4 cB
        by_cases hd0 : diffN b a = 0
        · have heq := fun w => eq82 9998 (diffN b a : Nat) 0 true (by rw [hd0]; rfl) w
          have Hd0 := hide hd0
          clear hd0
          go_wp2
          go_roundw
          case rel => exact Or.inr ⟨rfl, none, 0, 0, Bx9.out, O99.out, T99.out.wide fun _ h => Or.inl h, K9.out, by rw [Hd0.out]; exact Or.inl ⟨rfl, none, 0, rfl, by omega⟩, fun k hk => by cases hk⟩
          case measure => simp [intOf]
        · have heq := fun w => eq82 9998 (diffN b a : Nat) 0 false (by simp; omega) w
          have Hd0 := hide hd0
          clear hd0
          go_wp2_with (at_builtin; refine wp_push_row rfl (.tmp 58) (.tmp 60) 60 rfl i0 _ _ Tryz.underlying60 hi hz0 hz1 hz2 rfl (by decide) _ _ _ _ _ _ (rowC_one (diffN b a)) rfl _ rfl rfl ?_)
          intro g6 cap6 w6 hg6 ho6 hb6
          have O6 := hide ho6
          have B6 := hide hb6
          have hcK6 := (hb6.cell (p := ⟨W.heap.size + 1 + 1, 0, none⟩) (by rw [H3.out] at hx3; show W.heap.size + 1 + 1 < _; omega)).trans hcK
          have hfK6 := (hb6.frozen (p := ⟨W.heap.size + 1 + 1, 0, none⟩) (by rw [H3.out] at hx3; show W.heap.size + 1 + 1 < _; omega)).trans hfK
          clear ho6 hb6
          go_wp2
          go_roundw
          case rel =>
            have hgk : g6 ≠ W.heap.size + 1 + 1 := by rw [H3.out] at hx3; omega
            have T98 := hide ((T99.out.trans (Turns.of_below B6.out (p := fun k => k = g)) (r := fun k => k = g ∨ k = W.heap.size + 1 + 1) (fun _ _ h => Or.inl h) fun _ _ h => Or.inl h))
            refine Or.inr ⟨rfl, some ⟨g6, 0, none⟩, 1, cap6, ?_, ?_, ?_, ?_, ?_, ?_⟩
            · exact (Below.heap_setCell w6 ⟨W.heap.size + 1 + 1, 0, none⟩ _ B (by show B ≠ W.heap.size + 1 + 1; omega)).trans ((B6.out.block B (by rw [H3.out] at hx3; omega)).trans Bx9.out)
            · exact ownsRow_setCell_other (owns_below' O99.out B6.out) (fun e => by simp [Value.ownBlock] at e; omega) _
            · exact T98.out.set fun _ => Or.inr rfl
            · exact one_setCell ((B6.out.block _ (by rw [H3.out] at hx3; omega)).trans K9.out)
            · exact Acc.set (n0 := wx.heap.size) (Or.inr ⟨Hd0.out, ownsRow_setCell_other O6.out (fun e => by simp [Value.ownBlock] at e; omega) _⟩)
            · intro k hk
              simp [Value.ownBlock] at hk
              rw [H3.out] at hx3
              omega
          case measure => simp [intOf]
    · have hK1 := hide ((ht.block (W.heap.size + 1) (by rw [H3.out]; omega) (by omega)).trans K1.out)
      have hcF := cell_of_one q2
      have hcR := cell_of_one hK1.out
      have hfR := free_of_one hK1.out
      have hs := World.cell?_setCell_same' wr ⟨W.heap.size + 1, 0, none⟩ (.slice u n cu) (by rw [hcR]; rfl)
      have X := hide hbx
      have O := hide ho
      have T := hide ht
      have V := hide hsv
      have Fa := hide hfar
      clear hbx ho ht hsv hfar q2
      go_wp2
      refine bodyPost_ret (v := .agg #[.slice u n cu]) (by simp [results, Tryz.results103, go_sem, hs]) rfl ⟨_, .slice (some ⟨g, 0, none⟩) 1 cap, rfl, ?_, ⟨HB.out.1, ?_, ?_⟩, ?_, Or.inl rfl⟩
      · exact setv_off V.out (fun e => by have := Fa.out _ e; omega)
      · exact (Below.heap_setCell wr ⟨W.heap.size + 1, 0, none⟩ _ B (by show B ≠ W.heap.size + 1; omega)).trans X.out
      · refine Or.inr ⟨?_, ownsRow_setCell_other (a := ⟨W.heap.size + 1, 0, none⟩) O.out (fun e => (show g ≠ W.heap.size + 1 by omega) (Option.some.inj e)) _⟩
        intro h
        exact Ha0.out (Nat.or_eq_zero_iff.1 h).1
      · refine (((Turns.of_below (p := fun _ => False) B3.out).trans T.out (r := fun k => k = B ∨ (Value.slice (some ⟨g, 0, none⟩) 1 cap).ownBlock = some k) (fun _ _ h => False.elim h) fun k hk h => ?_)).set fun h => absurd h (by show ¬ W.heap.size + 1 < _; omega)
        rcases h with rfl | rfl
        · exact Or.inr rfl
        · omega
end Go.Proofs.YtlnbjdlooghpeaaGreatDoor
namespace Go.Proofs.YtlnbjdlooghpeaaGreatDoor
open Go.RowKit
theorem row1_lit (w : World) : Row1 ((w.alloc (.cells #[.int .i64 0, .int .u64 0, .int .u64 0, .int .u64 0, .int .u64 0] 127)).drew) w.heap.size 0 := by
  have h := five_new w (.int .i64 0) (.int .u64 0) (.int .u64 0) (.int .u64 0) (.int .u64 0) 127
  refine ⟨h.1, fun j hj => ?_⟩
  obtain ⟨_, h0, h1, h2, h3, h4⟩ := h
  match j, hj with
  | 0, _ => exact h0
  | 1, _ => exact h1
  | 2, _ => exact h2
  | 3, _ => exact h3
  | 4, _ => exact h4
theorem undrew {B : Nat} {w w' : World} (h : Below B w.drew w') : Below B w w' := ⟨h.os, h.tape, h.output, h.size, h.block⟩
theorem frz6 {Wd w6 : World} {o : Obj} {B : Nat} (hb : Below (Wd.alloc o).drew.heap.size (Wd.alloc o).drew w6) (hB : B < Wd.heap.size) (hf : Wd.frozen? ⟨B, 0, none⟩ = false) : w6.frozen? ⟨B, 0, none⟩ = false := by
  refine (hb.frozen (p := ⟨B, 0, none⟩) (by show B < _; simp; omega)).trans ?_
  exact ((bel_allocZ Wd o).frozen (p := ⟨B, 0, none⟩) hB).trans hf
set_option maxRecDepth 100000 in
set_option maxHeartbeats 8000000 in
theorem add76_zero (n0 B b r c : Nat) (W : World) (hb : Box n0 W B (.slice none 0 0) 0) (hn0 : n0 ≤ W.heap.size) (hb0 : b ≠ 0) (hb6 : b < 2305843009213693952) (hr : Row1 W r b) (hc : 1 ≤ c ∧ c ≤ 9223372036854775807) :
    Calls Tryz.prog 103 #[.pointer (some ⟨B, 0, none⟩), .agg #[.slice (some ⟨r, 0, none⟩) 1 c]] W (AddV n0 W B (.slice none 0 0) 0 b) := by
  obtain ⟨i0, hi, hz0, hz1, hz2⟩ := info_parts info84
  have hBlt := hb.lt
  have HB := hide hb
  have HR := hide hr
  have Hb6 := hide hb6
  have Hb0 := hide hb0
  clear hb hr hb6 hb0
  go_enter Tryz.func103, Tryz.ntmps103
  go_wp2
  obtain ⟨W3, hW3⟩ : ∃ W3, ((W.alloc (.cells #[.slice (some ⟨r, 0, none⟩) 1 c] 62)).alloc (.cells #[.slice none 0 0] 62)).alloc (.cells #[.slice none 0 0] 62) = W3 := ⟨_, rfl⟩
  have h3 : W3.heap.size = W.heap.size + 3 := by rw [← hW3]; simp
  have b3 : Below W.heap.size W W3 := by rw [← hW3]; exact bnew (bnew (bnew (Below.refl _ _) _) _) _
  have k1 : W3.heap[W.heap.size + 1]? = some (.cells #[.slice none 0 0] 62 (0, 0)) := by
    rw [← hW3]
    have := heap_alloc_new (W.alloc (.cells #[.slice (some ⟨r, 0, none⟩) 1 c] 62)) (.cells #[.slice none 0 0] 62)
    rw [World.size_alloc] at this
    exact (Below.heap_alloc _ _ _ (by simp)).trans this
  have k2 : W3.heap[W.heap.size + 1 + 1]? = some (.cells #[.slice none 0 0] 62 (0, 0)) := by
    rw [← hW3]
    have := heap_alloc_new ((W.alloc (.cells #[.slice (some ⟨r, 0, none⟩) 1 c] 62)).alloc (.cells #[.slice none 0 0] 62)) (.cells #[.slice none 0 0] 62)
    rw [World.size_alloc, World.size_alloc] at this
    exact this
  rw [hW3]
  clear hW3
  have K1 := hide k1
  have K2 := hide k2
  have H3 := hide h3
  have B3 := hide b3
  have Hn := hide hc
  clear k1 k2 h3 b3 hc
  go_loopw [15] (fun y wr => (y = .int .i64 0 ∧ wr = W3) ∨ (y = .int .i64 1 ∧ ∃ g cap u n cu, W.heap.size + 4 ≤ g ∧ wr.heap[B]? = some (.cells #[.slice (some ⟨g, 0, none⟩) 1 cap] 62 (0, 0)) ∧ wr.ownsRow n0 127 5 (.slice (some ⟨g, 0, none⟩) 1 cap) 1 (rowC (0 ||| b)) ∧ Turns (fun k => k = B ∨ k = W.heap.size + 1 + 1) W3 wr ∧
    wr.heap[W.heap.size + 1 + 1]? = some (.cells #[.slice u n cu] 62 (0, 0)) ∧ SetV wr (.slice u n cu) (diffN b 0) ∧ (∀ k, (Value.slice u n cu).ownBlock = some k → W.heap.size + 3 ≤ k))) (fun y _ => 1 - (intOf y).toNat)
  case atStart => exact Or.inl ⟨rfl, rfl⟩
  case round =>
    rcases hrel with ⟨rfl, rfl⟩ | ⟨rfl, g, cap, u, n, cu, hgl, hbx, ho, ht, q2, hsv, hfar⟩
    · obtain ⟨w3, hw3⟩ : ∃ w3, w3 = wr := ⟨wr, rfl⟩
      subst hw3
      obtain ⟨_, t0, t1, t2, t3, t4⟩ := (HR.out.below B3.out).five
      go_wp2
      obtain ⟨W4, hW4⟩ : ∃ W4, w3.alloc (.cells #[.int .i64 0, .int .u64 (b : Int), .int .u64 0, .int .u64 0, .int .u64 0] 127) = W4 := ⟨_, rfl⟩
      have b4 : Below w3.heap.size w3 W4 := by rw [← hW4]; exact bnew (Below.refl _ _) _
      have h4 : W4.heap.size = w3.heap.size + 1 := by rw [← hW4]; simp
      have row4 : W4.heap[w3.heap.size]? = some (.cells (rowC b).toArray 127 (0, 0)) := by rw [← hW4]; exact heap_alloc_new _ _
      rw [hW4]
      have cB : W4.cell? ⟨B, 0, none⟩ = some (.slice none 0 0) := cell_of_one (HB.out.below (bgo B3.out b4)).2.1
      have fB : W4.frozen? ⟨B, 0, none⟩ = false := free_of_one (HB.out.below (bgo B3.out b4)).2.1
      obtain ⟨⟨_, r0, r1, r2, r3, r4⟩, _⟩ := rowA_five row4
      have B4 := hide b4
      have H4 := hide h4
      have R4 := hide row4
      have HE := hide (fun j => (show (W4.drewN j).cell? ⟨B, 0, none⟩ = some (.slice none 0 0) from cB))
      clear hW4 b4 h4 row4 t0 t1 t2 t3 t4
      go_quiet ((go_at_call 127; exact quiet_left (search88_none _ _ _)))
      obtain ⟨Wd, hWd⟩ : ∃ Wd, W4.drewN nq = Wd := ⟨_, rfl⟩
      rw [hWd]
      have bd : Below W4.heap.size W4 Wd := by rw [← hWd]; exact Drawn.below ⟨nq, rfl⟩ _
      have hdz : Wd.heap.size = W4.heap.size := by rw [← hWd]; rfl
      have cBd : Wd.cell? ⟨B, 0, none⟩ = some (.slice none 0 0) := by rw [← hWd]; exact cB
      have fBd : Wd.frozen? ⟨B, 0, none⟩ = false := by rw [← hWd]; exact fB
      have r0d : Wd.cell? ⟨w3.heap.size, 0, none⟩ = some (.int .i64 0) := by rw [← hWd]; exact r0
      have Bd := hide bd
      have Hdz := hide hdz
      have hBd : B < Wd.heap.size := by rw [hdz, H4.out, H3.out]; omega
      clear hWd bd hdz cB fB r0 r1 r2 r3 r4
      go_wp2
      go_region_with (go_at_call 128; refine (insert89 _ 0 _ (row1_lit _)).mono ?_; rintro e w6 ⟨g, cap, rfl, ho6, hb6⟩; have hcB6 := (hb6.cell (p := ⟨B, 0, none⟩) (by simp; omega)).trans ((World.cell?_alloc_lt Wd _ ⟨B, 0, none⟩ hBd).trans cBd); have hfB6 := frz6 hb6 hBd fBd)
      all_goals
        have H6 := hide hb6
        have O6b := hide ho6
        have hgl : W.heap.size + 4 ≤ g := by
          have := (World.ownsRow.lt ho6 g rfl).1
          simp at this
          rw [Hdz.out, H4.out, H3.out] at this
          omega
        have hgB : g ≠ B := by omega
        have h6s := hb6.size
        simp at h6s
        have hBw : B ≠ w3.heap.size := by rw [H3.out]; omega
        obtain ⟨w5, hw5⟩ : ∃ w5, w6.setCell ⟨B, 0, none⟩ (.slice (some ⟨g, 0, none⟩) 1 cap) = w5 := ⟨_, rfl⟩
        have key : ∀ k, k < Wd.heap.size → k ≠ B → w5.heap[k]? = Wd.heap[k]? := fun k hk hne => by
          rw [← hw5]
          exact (Below.heap_setCell w6 ⟨B, 0, none⟩ _ k hne).trans ((hb6.block k (by simp; omega)).trans (Below.heap_alloc Wd _ k hk))
        have Bx5 := hide (show w5.heap[B]? = some (.cells #[.slice (some ⟨g, 0, none⟩) 1 cap] 62 (0, 0)) by
          rw [← hw5]
          exact one_setCell ((hb6.block B (by simp; omega)).trans ((Below.heap_alloc Wd _ B hBd).trans ((Bd.out.block B (by rw [H4.out, H3.out]; omega)).trans (HB.out.below (bgo B3.out B4.out)).2.1))))
        have cB5 := cell_of_one Bx5.out
        have R5 := hide ((key w3.heap.size (by rw [Hdz.out, H4.out]; omega) (fun e => hBw e.symm)).trans ((Bd.out.block _ (by rw [H4.out]; omega)).trans R4.out))
        obtain ⟨⟨_, r0, r1, r2, r3, r4⟩, _⟩ := rowA_five R5.out
        have O5 := hide (show w5.ownsRow n0 127 5 (.slice (some ⟨g, 0, none⟩) 1 cap) 1 (rowC 0) by
          rw [← hw5]
          exact ownsRow_setCell_other (a := ⟨B, 0, none⟩) (owns_mono O6b.out (by simp; rw [Hdz.out, H4.out, H3.out]; omega)) (fun e => hgB (Option.some.inj e)) _)
        have h56 : w5.heap.size = w6.heap.size := by rw [← hw5]; simp [World.setCell]
        have hlo : W.heap.size + 4 ≤ w5.heap.size := by rw [h56]; have := Hdz.out; have := H4.out; have := H3.out; omega
        have hBlt5 : B < w5.heap.size := by omega
        have B35 := hide (show Turns (fun k => k = B) w3 w5 by
          rw [← hw5]
          have b1 : Below w3.heap.size w3 w6 := bgo (bgo B4.out Bd.out) (bgo (bel_allocZ Wd _) (undrew H6.out))
          exact (Turns.of_below b1).set fun _ => rfl)
        rw [hw5]
        have hglt : g < w5.heap.size := (World.ownsRow.lt O5.out g rfl).2
        have hB5lt : B < w5.heap.size := hBlt5
        clear hw5 key ho6 hb6 h56 hcB6 hfB6 cBd fBd r0d
        obtain ⟨N, hN⟩ : ∃ N, w5.heap.size + 1 = N := ⟨_, rfl⟩
        have hRB : w3.heap.size < w5.heap.size := by rw [H3.out]; omega
        have hgR : w3.heap.size ≠ g := by rw [H3.out]; omega
        have hBR : B ≠ g := fun e => hgB e.symm
        have HKs := hide (show ∀ X Y, ((X.cell? ⟨B, 0, none⟩ = some (.slice (some ⟨g, 0, none⟩) 1 cap) ∧ X.cell? ⟨w3.heap.size, 0, none⟩ = some (.int .i64 0) ∧ X.cell? ⟨w3.heap.size, 1, none⟩ = some (.int .u64 (b : Int)) ∧ X.cell? ⟨w3.heap.size, 2, none⟩ = some (.int .u64 0) ∧ X.cell? ⟨w3.heap.size, 3, none⟩ = some (.int .u64 0) ∧ X.cell? ⟨w3.heap.size, 4, none⟩ = some (.int .u64 0)) ∧ (X.heap.size ≤ N → Below w5.heap.size w5 X)) → Below X.heap.size X Y → (Y.cell? ⟨B, 0, none⟩ = some (.slice (some ⟨g, 0, none⟩) 1 cap) ∧ Y.cell? ⟨w3.heap.size, 0, none⟩ = some (.int .i64 0) ∧ Y.cell? ⟨w3.heap.size, 1, none⟩ = some (.int .u64 (b : Int)) ∧ Y.cell? ⟨w3.heap.size, 2, none⟩ = some (.int .u64 0) ∧ Y.cell? ⟨w3.heap.size, 3, none⟩ = some (.int .u64 0) ∧ Y.cell? ⟨w3.heap.size, 4, none⟩ = some (.int .u64 0)) ∧ (Y.heap.size ≤ N → Below w5.heap.size w5 Y) from fun X Y ⟨⟨c0, c1, c2, c3, c4, c5⟩, hX⟩ hb => by
          have key : ∀ p v, X.cell? p = some v → Y.cell? p = some v := fun p v h => (hb.cell (p := p) (World.block_lt_of_cell? _ _ h)).trans h
          exact ⟨⟨key _ _ c0, key _ _ c1, key _ _ c2, key _ _ c3, key _ _ c4, key _ _ c5⟩, fun hy => bgo (hX (by have := hb.size; omega)) hb⟩)
        have HKt := hide (show ∀ X Y, ((X.cell? ⟨B, 0, none⟩ = some (.slice (some ⟨g, 0, none⟩) 1 cap) ∧ X.cell? ⟨w3.heap.size, 0, none⟩ = some (.int .i64 0) ∧ X.cell? ⟨w3.heap.size, 1, none⟩ = some (.int .u64 (b : Int)) ∧ X.cell? ⟨w3.heap.size, 2, none⟩ = some (.int .u64 0) ∧ X.cell? ⟨w3.heap.size, 3, none⟩ = some (.int .u64 0) ∧ X.cell? ⟨w3.heap.size, 4, none⟩ = some (.int .u64 0)) ∧ (X.heap.size ≤ N → Below w5.heap.size w5 X)) → Turns (fun k => k = g) X Y → N < Y.heap.size → (Y.cell? ⟨B, 0, none⟩ = some (.slice (some ⟨g, 0, none⟩) 1 cap) ∧ Y.cell? ⟨w3.heap.size, 0, none⟩ = some (.int .i64 0) ∧ Y.cell? ⟨w3.heap.size, 1, none⟩ = some (.int .u64 (b : Int)) ∧ Y.cell? ⟨w3.heap.size, 2, none⟩ = some (.int .u64 0) ∧ Y.cell? ⟨w3.heap.size, 3, none⟩ = some (.int .u64 0) ∧ Y.cell? ⟨w3.heap.size, 4, none⟩ = some (.int .u64 0)) ∧ (Y.heap.size ≤ N → Below w5.heap.size w5 Y) from fun X Y ⟨⟨c0, c1, c2, c3, c4, c5⟩, hX⟩ ht hn => by
          have key : ∀ p v, p.block ≠ g → X.cell? p = some v → Y.cell? p = some v := fun p v hp h => (World.cell?_of_block (a := p) (ht.block _ (World.block_lt_of_cell? _ _ h) hp)).trans h
          exact ⟨⟨key ⟨B, 0, none⟩ _ hBR c0, key ⟨w3.heap.size, 0, none⟩ _ hgR c1, key ⟨w3.heap.size, 1, none⟩ _ hgR c2, key ⟨w3.heap.size, 2, none⟩ _ hgR c3, key ⟨w3.heap.size, 3, none⟩ _ hgR c4, key ⟨w3.heap.size, 4, none⟩ _ hgR c5⟩, fun hy => by omega⟩)
        have HS0 := hide (show (w5.drew.cell? ⟨B, 0, none⟩ = some (.slice (some ⟨g, 0, none⟩) 1 cap) ∧ w5.drew.cell? ⟨w3.heap.size, 0, none⟩ = some (.int .i64 0) ∧ w5.drew.cell? ⟨w3.heap.size, 1, none⟩ = some (.int .u64 (b : Int)) ∧ w5.drew.cell? ⟨w3.heap.size, 2, none⟩ = some (.int .u64 0) ∧ w5.drew.cell? ⟨w3.heap.size, 3, none⟩ = some (.int .u64 0) ∧ w5.drew.cell? ⟨w3.heap.size, 4, none⟩ = some (.int .u64 0)) ∧ (w5.drew.heap.size ≤ N → Below w5.heap.size w5 w5.drew) from ⟨⟨cB5, r0, r1, r2, r3, r4⟩, fun _ => bel_drew _⟩)
        have HC2 := hide (fun X (hs : (X.cell? ⟨B, 0, none⟩ = some (.slice (some ⟨g, 0, none⟩) 1 cap) ∧ X.cell? ⟨w3.heap.size, 0, none⟩ = some (.int .i64 0) ∧ X.cell? ⟨w3.heap.size, 1, none⟩ = some (.int .u64 (b : Int)) ∧ X.cell? ⟨w3.heap.size, 2, none⟩ = some (.int .u64 0) ∧ X.cell? ⟨w3.heap.size, 3, none⟩ = some (.int .u64 0) ∧ X.cell? ⟨w3.heap.size, 4, none⟩ = some (.int .u64 0)) ∧ (X.heap.size ≤ N → Below w5.heap.size w5 X)) (hn : X.heap.size ≤ N) (h5 : w5.heap.size ≤ X.heap.size) => (radd90 n0 g cap 0 b X (owns_below' O5.out (hs.2 hn)) (by decide) Hb6.out).mono (R' := fun e w' => e = .returned (.agg #[.int .i64 0, .int .u64 (diffN b 0 : Nat), .int .u64 0, .int .u64 0, .int .u64 0]) ∧ w'.ownsRow n0 127 5 (.slice (some ⟨g, 0, none⟩) 1 cap) 1 (rowC (0 ||| b)) ∧ Turns (fun k => k = g) X w' ∧ N < w'.heap.size) fun e w' ⟨he, h1, h2, h3⟩ => ⟨he, h1, h2, by omega⟩)
        have HS1 := hide (HKs.out w5.drew (w5.alloc (.cells #[.int .i64 0, .int .u64 0, .int .u64 0, .int .u64 0, .int .u64 0] 127)).drew HS0.out (by have := bel_allocZ w5.drew (.cells #[.int .i64 0, .int .u64 0, .int .u64 0, .int .u64 0, .int .u64 0] 127); exact this))
        have HC3 := hide ((HC2.out _ HS1.out (by simp; omega) (by simp)).mono (R' := fun e w' => e = .returned (.agg #[.int .i64 0, .int .u64 (diffN b 0 : Nat), .int .u64 0, .int .u64 0, .int .u64 0]) ∧ w'.ownsRow n0 127 5 (.slice (some ⟨g, 0, none⟩) 1 cap) 1 (rowC (0 ||| b)) ∧ Turns (fun k => k = g) (w5.alloc (.cells #[.int .i64 0, .int .u64 0, .int .u64 0, .int .u64 0, .int .u64 0] 127)).drew w' ∧ N < w'.heap.size ∧
          FiveFZ w' w5.heap.size (.int .i64 0) (.int .u64 0) (.int .u64 0) (.int .u64 0) (.int .u64 0)) fun e w' ⟨he, h1, h2, h3⟩ => ⟨he, h1, h2, h3, rowA_five (x := 0) ((h2.block w5.heap.size (by simp) (by omega)).trans (heap_alloc_new w5 _))⟩)
        have HKp := hide (show ∀ X u0 u1 u2 u3 u4, ((X.cell? ⟨B, 0, none⟩ = some (.slice (some ⟨g, 0, none⟩) 1 cap) ∧ X.cell? ⟨w3.heap.size, 0, none⟩ = some (.int .i64 0) ∧ X.cell? ⟨w3.heap.size, 1, none⟩ = some (.int .u64 (b : Int)) ∧ X.cell? ⟨w3.heap.size, 2, none⟩ = some (.int .u64 0) ∧ X.cell? ⟨w3.heap.size, 3, none⟩ = some (.int .u64 0) ∧ X.cell? ⟨w3.heap.size, 4, none⟩ = some (.int .u64 0)) ∧ (X.heap.size ≤ N → Below w5.heap.size w5 X)) → N < X.heap.size → ((((((X.setCell ⟨w5.heap.size, 0, none⟩ u0).setCell ⟨w5.heap.size, 1, none⟩ u1).setCell ⟨w5.heap.size, 2, none⟩ u2).setCell ⟨w5.heap.size, 3, none⟩ u3).setCell ⟨w5.heap.size, 4, none⟩ u4).cell? ⟨B, 0, none⟩ = some (.slice (some ⟨g, 0, none⟩) 1 cap) ∧ (((((X.setCell ⟨w5.heap.size, 0, none⟩ u0).setCell ⟨w5.heap.size, 1, none⟩ u1).setCell ⟨w5.heap.size, 2, none⟩ u2).setCell ⟨w5.heap.size, 3, none⟩ u3).setCell ⟨w5.heap.size, 4, none⟩ u4).cell? ⟨w3.heap.size, 0, none⟩ = some (.int .i64 0) ∧ (((((X.setCell ⟨w5.heap.size, 0, none⟩ u0).setCell ⟨w5.heap.size, 1, none⟩ u1).setCell ⟨w5.heap.size, 2, none⟩ u2).setCell ⟨w5.heap.size, 3, none⟩ u3).setCell ⟨w5.heap.size, 4, none⟩ u4).cell? ⟨w3.heap.size, 1, none⟩ = some (.int .u64 (b : Int)) ∧ (((((X.setCell ⟨w5.heap.size, 0, none⟩ u0).setCell ⟨w5.heap.size, 1, none⟩ u1).setCell ⟨w5.heap.size, 2, none⟩ u2).setCell ⟨w5.heap.size, 3, none⟩ u3).setCell ⟨w5.heap.size, 4, none⟩ u4).cell? ⟨w3.heap.size, 2, none⟩ = some (.int .u64 0) ∧ (((((X.setCell ⟨w5.heap.size, 0, none⟩ u0).setCell ⟨w5.heap.size, 1, none⟩ u1).setCell ⟨w5.heap.size, 2, none⟩ u2).setCell ⟨w5.heap.size, 3, none⟩ u3).setCell ⟨w5.heap.size, 4, none⟩ u4).cell? ⟨w3.heap.size, 3, none⟩ = some (.int .u64 0) ∧ (((((X.setCell ⟨w5.heap.size, 0, none⟩ u0).setCell ⟨w5.heap.size, 1, none⟩ u1).setCell ⟨w5.heap.size, 2, none⟩ u2).setCell ⟨w5.heap.size, 3, none⟩ u3).setCell ⟨w5.heap.size, 4, none⟩ u4).cell? ⟨w3.heap.size, 4, none⟩ = some (.int .u64 0)) ∧ ((((((X.setCell ⟨w5.heap.size, 0, none⟩ u0).setCell ⟨w5.heap.size, 1, none⟩ u1).setCell ⟨w5.heap.size, 2, none⟩ u2).setCell ⟨w5.heap.size, 3, none⟩ u3).setCell ⟨w5.heap.size, 4, none⟩ u4).heap.size ≤ N → Below w5.heap.size w5 (((((X.setCell ⟨w5.heap.size, 0, none⟩ u0).setCell ⟨w5.heap.size, 1, none⟩ u1).setCell ⟨w5.heap.size, 2, none⟩ u2).setCell ⟨w5.heap.size, 3, none⟩ u3).setCell ⟨w5.heap.size, 4, none⟩ u4)) from fun X u0 u1 u2 u3 u4 ⟨⟨c0, c1, c2, c3, c4, c5⟩, hX⟩ hn => by
          have e1 : B ≠ w5.heap.size := by omega
          have e2 : w3.heap.size ≠ w5.heap.size := by omega
          exact ⟨⟨(put5_cellZ (p := ⟨B, 0, none⟩) e1).trans c0, (put5_cellZ (p := ⟨w3.heap.size, 0, none⟩) e2).trans c1, (put5_cellZ (p := ⟨w3.heap.size, 1, none⟩) e2).trans c2, (put5_cellZ (p := ⟨w3.heap.size, 2, none⟩) e2).trans c3, (put5_cellZ (p := ⟨w3.heap.size, 3, none⟩) e2).trans c4, (put5_cellZ (p := ⟨w3.heap.size, 4, none⟩) e2).trans c5⟩, fun hy => by simp [World.setCell] at hy; omega⟩)
        go_wp2
        go_region_held3 (fun w' => (w'.cell? ⟨B, 0, none⟩ = some (.slice (some ⟨g, 0, none⟩) 1 cap) ∧ w'.cell? ⟨w3.heap.size, 0, none⟩ = some (.int .i64 0) ∧ w'.cell? ⟨w3.heap.size, 1, none⟩ = some (.int .u64 (b : Int)) ∧ w'.cell? ⟨w3.heap.size, 2, none⟩ = some (.int .u64 0) ∧ w'.cell? ⟨w3.heap.size, 3, none⟩ = some (.int .u64 0) ∧ w'.cell? ⟨w3.heap.size, 4, none⟩ = some (.int .u64 0)) ∧ (w'.heap.size ≤ N → Below w5.heap.size w5 w'))
          (first | (with_reducible exact HS0.out) | (with_reducible exact HS1.out) | (with_reducible exact HKt.out _ _ HS0.out ht8 hn8) | (with_reducible exact HKt.out _ _ HS1.out ht8 hn8) | (with_reducible exact HKs.out _ _ (HKt.out _ _ HS0.out ht8 hn8) (bel_allocZ _ _)) | (with_reducible exact HKp.out _ _ _ _ _ _ (HKt.out _ _ HS1.out ht8 hn8) hn8))
          (first
            | (go_at_call 129; (with_reducible refine HC3.out.mono ?_); rintro e w8 ⟨rfl, ho8, ht8, hn8, ⟨⟨hz8, z0, z1, z2, z3, z4⟩, y0, y1, y2, y3, y4⟩⟩)
            | (go_at_call 129; (with_reducible refine (HC2.out _ HS0.out (by simp; omega) (by simp)).mono ?_); rintro e w8 ⟨rfl, ho8, ht8, hn8⟩))
        rotate_left
        · have F9 := put5_fiveZ (u0 := .int .i64 0) (u1 := .int .u64 (diffN b 0 : Nat)) (u2 := .int .u64 0) (u3 := .int .u64 0) (u4 := .int .u64 0) (show FiveFZ w8 w5.heap.size (.int .i64 0) (.int .u64 0) (.int .u64 0) (.int .u64 0) (.int .u64 0) from ⟨⟨hz8, z0, z1, z2, z3, z4⟩, y0, y1, y2, y3, y4⟩)
          have O9 := put5_own (b := w5.heap.size) (u0 := .int .i64 0) (u1 := .int .u64 (diffN b 0 : Nat)) (u2 := .int .u64 0) (u3 := .int .u64 0) (u4 := .int .u64 0) ho8 (fun e => by simp [Value.ownBlock] at e; omega)
          have T9 := put5_turns (b := w5.heap.size) (u0 := .int .i64 0) (u1 := .int .u64 (diffN b 0 : Nat)) (u2 := .int .u64 0) (u3 := .int .u64 0) (u4 := .int .u64 0) (((Turns.refl (fun k => k = g) w5).alloc _).drew.trans ht8 (r := fun k => k = g) (fun _ _ h => h) (fun _ _ h => h)) (by omega)
          unfold put5Z at F9 O9 T9
          generalize (((((w8.setCell ⟨w5.heap.size, 0, none⟩ (.int .i64 0)).setCell ⟨w5.heap.size, 1, none⟩ (.int .u64 (diffN b 0 : Nat))).setCell ⟨w5.heap.size, 2, none⟩ (.int .u64 0)).setCell ⟨w5.heap.size, 3, none⟩ (.int .u64 0)).setCell ⟨w5.heap.size, 4, none⟩ (.int .u64 0)) = wx at F9 O9 T9 ⊢
          have Bx9 := hide ((T9.block B (by omega) hBR).trans Bx5.out)
          have T3 := B35.out.trans T9 (r := fun k => k = B) (fun _ _ h => h) (fun i hi h => absurd hi (by rw [H3.out, h]; omega))
          have K9 := hide ((T3.block (W.heap.size + 1 + 1) (by rw [H3.out]; omega) (by omega)).trans K2.out)
          have hcK := cell_of_one K9.out
          have hfK := free_of_one K9.out
          obtain ⟨_, x0, x1, x2, x3, x4⟩ := F9
          have O99 := hide O9
          have T99 := hide T3
          have hx3 := T3.size
          clear O9 T9 T3 HC2 HC3 HS0 HS1 HKs HKt HKp ho8 ht8 cB5 r0 r1 r2 r3 r4
          by_cases hd0 : diffN b 0 = 0
          · have heq := fun w => eq82 9998 (diffN b 0 : Nat) 0 true (by rw [hd0]; rfl) w
            have Hd0 := hide hd0
            clear hd0
            go_wp2
            go_roundw
            case rel => exact Or.inr ⟨rfl, g, cap, none, 0, 0, hgl, Bx9.out, O99.out, T99.out.wide fun _ h => Or.inl h, K9.out, by rw [Hd0.out]; exact Or.inl ⟨rfl, none, 0, rfl, by omega⟩, fun k hk => by cases hk⟩
            case measure => simp [intOf]
          · have heq := fun w => eq82 9998 (diffN b 0 : Nat) 0 false (by simp; omega) w
            have Hd0 := hide hd0
            clear hd0
            go_wp2_with (at_builtin; refine wp_push_row rfl (.tmp 58) (.tmp 60) 60 rfl i0 _ _ Tryz.underlying60 hi hz0 hz1 hz2 rfl (by decide) _ _ _ _ _ _ (rowC_one (diffN b 0)) rfl _ rfl rfl ?_)
            intro g6 cap6 w6 hg6 ho6 hb6
            have O6 := hide ho6
            have B6 := hide hb6
            have hcK6 := (hb6.cell (p := ⟨W.heap.size + 1 + 1, 0, none⟩) (by rw [H3.out] at hx3; show W.heap.size + 1 + 1 < _; omega)).trans hcK
            have hfK6 := (hb6.frozen (p := ⟨W.heap.size + 1 + 1, 0, none⟩) (by rw [H3.out] at hx3; show W.heap.size + 1 + 1 < _; omega)).trans hfK
            clear ho6 hb6
            go_wp2
            go_roundw
            case rel =>
              have hgk : g6 ≠ W.heap.size + 1 + 1 := by rw [H3.out] at hx3; omega
              have T98 := hide ((T99.out.trans (Turns.of_below B6.out (p := fun k => k = B)) (r := fun k => k = B ∨ k = W.heap.size + 1 + 1) (fun _ _ h => Or.inl h) fun _ _ h => Or.inl h))
              refine Or.inr ⟨rfl, g, cap, some ⟨g6, 0, none⟩, 1, cap6, hgl, ?_, ?_, ?_, ?_, ?_, ?_⟩
              · exact (Below.heap_setCell w6 ⟨W.heap.size + 1 + 1, 0, none⟩ _ B (by show B ≠ W.heap.size + 1 + 1; omega)).trans ((B6.out.block B (by rw [H3.out] at hx3; omega)).trans Bx9.out)
              · exact ownsRow_setCell_other (owns_below' O99.out B6.out) (fun e => by simp [Value.ownBlock] at e; omega) _
              · exact T98.out.set fun _ => Or.inr rfl
              · exact one_setCell ((B6.out.block _ (by rw [H3.out] at hx3; omega)).trans K9.out)
              · exact Acc.set (n0 := wx.heap.size) (Or.inr ⟨Hd0.out, ownsRow_setCell_other O6.out (fun e => by simp [Value.ownBlock] at e; omega) _⟩)
              · intro k hk
                simp [Value.ownBlock] at hk
                rw [H3.out] at hx3
                omega
            case measure => simp [intOf]
        · have F9 := five_new w8 (.int .i64 0) (.int .u64 (diffN b 0 : Nat)) (.int .u64 0) (.int .u64 0) (.int .u64 0) 127
          have O9 := ho8.alloc (.cells #[.int .i64 0, .int .u64 (diffN b 0 : Nat), .int .u64 0, .int .u64 0, .int .u64 0] 127)
          have T9 := ((Turns.refl (fun k => k = g) w5).drew.trans ht8 (r := fun k => k = g) (fun _ _ h => h) (fun _ _ h => h)).alloc (.cells #[.int .i64 0, .int .u64 (diffN b 0 : Nat), .int .u64 0, .int .u64 0, .int .u64 0] 127)
          generalize w8.alloc (.cells #[.int .i64 0, .int .u64 (diffN b 0 : Nat), .int .u64 0, .int .u64 0, .int .u64 0] 127) = wx at F9 O9 T9 ⊢
          have Bx9 := hide ((T9.block B (by omega) hBR).trans Bx5.out)
          have T3 := B35.out.trans T9 (r := fun k => k = B) (fun _ _ h => h) (fun i hi h => absurd hi (by rw [H3.out, h]; omega))
          have K9 := hide ((T3.block (W.heap.size + 1 + 1) (by rw [H3.out]; omega) (by omega)).trans K2.out)
          have hcK := cell_of_one K9.out
          have hfK := free_of_one K9.out
          obtain ⟨_, x0, x1, x2, x3, x4⟩ := F9
          have O99 := hide O9
          have T99 := hide T3
          have hx3 := T3.size
          clear O9 T9 T3 HC2 HC3 HS0 HS1 HKs HKt HKp ho8 ht8 cB5 r0 r1 r2 r3 r4
          by_cases hd0 : diffN b 0 = 0
          · have heq := fun w => eq82 9998 (diffN b 0 : Nat) 0 true (by rw [hd0]; rfl) w
            have Hd0 := hide hd0
            clear hd0
            go_wp2
            go_roundw
            case rel => exact Or.inr ⟨rfl, g, cap, none, 0, 0, hgl, Bx9.out, O99.out, T99.out.wide fun _ h => Or.inl h, K9.out, by rw [Hd0.out]; exact Or.inl ⟨rfl, none, 0, rfl, by omega⟩, fun k hk => by cases hk⟩
            case measure => simp [intOf]
          · have heq := fun w => eq82 9998 (diffN b 0 : Nat) 0 false (by simp; omega) w
            have Hd0 := hide hd0
            clear hd0
            go_wp2_with (at_builtin; refine wp_push_row rfl (.tmp 58) (.tmp 60) 60 rfl i0 _ _ Tryz.underlying60 hi hz0 hz1 hz2 rfl (by decide) _ _ _ _ _ _ (rowC_one (diffN b 0)) rfl _ rfl rfl ?_)
            intro g6 cap6 w6 hg6 ho6 hb6
            have O6 := hide ho6
            have B6 := hide hb6
            have hcK6 := (hb6.cell (p := ⟨W.heap.size + 1 + 1, 0, none⟩) (by rw [H3.out] at hx3; show W.heap.size + 1 + 1 < _; omega)).trans hcK
            have hfK6 := (hb6.frozen (p := ⟨W.heap.size + 1 + 1, 0, none⟩) (by rw [H3.out] at hx3; show W.heap.size + 1 + 1 < _; omega)).trans hfK
            clear ho6 hb6
            go_wp2
            go_roundw
            case rel =>
              have hgk : g6 ≠ W.heap.size + 1 + 1 := by rw [H3.out] at hx3; omega
              have T98 := hide ((T99.out.trans (Turns.of_below B6.out (p := fun k => k = B)) (r := fun k => k = B ∨ k = W.heap.size + 1 + 1) (fun _ _ h => Or.inl h) fun _ _ h => Or.inl h))
              refine Or.inr ⟨rfl, g, cap, some ⟨g6, 0, none⟩, 1, cap6, hgl, ?_, ?_, ?_, ?_, ?_, ?_⟩
              · exact (Below.heap_setCell w6 ⟨W.heap.size + 1 + 1, 0, none⟩ _ B (by show B ≠ W.heap.size + 1 + 1; omega)).trans ((B6.out.block B (by rw [H3.out] at hx3; omega)).trans Bx9.out)
              · exact ownsRow_setCell_other (owns_below' O99.out B6.out) (fun e => by simp [Value.ownBlock] at e; omega) _
              · exact T98.out.set fun _ => Or.inr rfl
              · exact one_setCell ((B6.out.block _ (by rw [H3.out] at hx3; omega)).trans K9.out)
              · exact Acc.set (n0 := wx.heap.size) (Or.inr ⟨Hd0.out, ownsRow_setCell_other O6.out (fun e => by simp [Value.ownBlock] at e; omega) _⟩)
              · intro k hk
                simp [Value.ownBlock] at hk
                rw [H3.out] at hx3
                omega
            case measure => simp [intOf]
    · have hK1 := hide ((ht.block (W.heap.size + 1) (by rw [H3.out]; omega) (by omega)).trans K1.out)
      have hcF := cell_of_one q2
      have hcR := cell_of_one hK1.out
      have hfR := free_of_one hK1.out
      have hs := World.cell?_setCell_same' wr ⟨W.heap.size + 1, 0, none⟩ (.slice u n cu) (by rw [hcR]; rfl)
      have X := hide hbx
      have O := hide ho
      have T := hide ht
      have V := hide hsv
      have Fa := hide hfar
      clear hbx ho ht hsv hfar q2
      go_wp2
      refine bodyPost_ret (v := .agg #[.slice u n cu]) (by simp [results, Tryz.results103, go_sem, hs]) rfl ⟨_, .slice (some ⟨g, 0, none⟩) 1 cap, rfl, ?_, ⟨HB.out.1, ?_, ?_⟩, ?_, Or.inr fun k e => by have e2 : g = k := Option.some.inj e; omega⟩
      · exact setv_off V.out (fun e => by have := Fa.out _ e; omega)
      · exact (Below.heap_setCell wr ⟨W.heap.size + 1, 0, none⟩ _ B (by show B ≠ W.heap.size + 1; omega)).trans X.out
      · refine Or.inr ⟨?_, ownsRow_setCell_other (a := ⟨W.heap.size + 1, 0, none⟩) O.out (fun e => (show g ≠ W.heap.size + 1 by omega) (Option.some.inj e)) _⟩
        intro h
        exact Hb0.out (Nat.or_eq_zero_iff.1 h).2
      · refine (((Turns.of_below (p := fun _ => False) B3.out).trans T.out (r := fun k => k = B ∨ (Value.slice none 0 0).ownBlock = some k) (fun _ _ h => False.elim h) fun k hk h => ?_)).set fun h => absurd h (by show ¬ W.heap.size + 1 < _; omega)
        rcases h with rfl | rfl
        · exact Or.inl rfl
        · omega
theorem add76 (n0 B a b : Nat) (v x : Value) (W : World) (hb : Box n0 W B v a) (hn0 : n0 ≤ W.heap.size) (ha : a < 2305843009213693952) (hb6 : b < 2305843009213693952) (hx : SetV W x b) : Calls Tryz.prog 103 #[.pointer (some ⟨B, 0, none⟩), .agg #[x]] W (AddV n0 W B v a b) := by
  by_cases hb0 : b = 0
  · subst hb0; exact add76_none n0 B a v x W hb hx
  · rcases hx with ⟨h, _⟩ | ⟨_, r, c, rfl, hc1, hc2, hlt, hc⟩
    · exact absurd h hb0
    · rcases hb.2.2 with ⟨h, rfl⟩ | ⟨ha0, hown⟩
      · subst h
        exact add76_zero n0 B b r c W hb hn0 hb0 hb6 ⟨hlt, hc⟩ ⟨hc1, hc2⟩
      · obtain ⟨g, cap, rfl, _, _⟩ := World.ownsRow.form hown (by omega)
        exact add76_some n0 B a b g cap r c W hb ha0 ha hb0 hb6 ⟨hlt, hc⟩ ⟨hc1, hc2⟩
end Go.Proofs.YtlnbjdlooghpeaaGreatDoor
namespace Go.Proofs.YtlnbjdlooghpeaaGreatDoor
open Go.RowKit
theorem eq84 (x y : Nat) (b : Bool) (h : ((x : Int) == (y : Int)) = b) (w : World) :
    (Op.equalIn 10000 127 (.agg #[.int .i64 0, .int .u64 (x : Int), .int .u64 0, .int .u64 0, .int .u64 0]) (.agg #[.int .i64 0, .int .u64 (y : Int), .int .u64 0, .int .u64 0, .int .u64 0])).run Tryz.prog w = .ok b w := by
  have e := eq82 9997 x y b h w
  rw [run_equalIn_agg w 9999 127 _ _ (by kernel_rfl) (by kernel_rfl)]
  simp [go_sem, e]
  cases b <;> rfl
set_option maxRecDepth 100000 in
set_option maxHeartbeats 2000000 in
theorem equal78_len (A1 A2 : Option Addr) (n1 c1 n2 c2 : Nat) (h : n1 ≠ n2) (W : World) : Calls Tryz.prog 105 #[.slice A1 n1 c1, .slice A2 n2 c2] W fun e w' => e = .returned (.bool false) ∧ Drawn W w' := by
  have hn : ((n1 : Int) != (n2 : Int)) = true := by rw [bne_iff_ne]; omega
  go_enter Tryz.func105, Tryz.ntmps105
  go_wp2
  go_ret
  exact ⟨rfl, Drawn.refl _⟩
set_option maxRecDepth 100000 in
set_option maxHeartbeats 2000000 in
theorem equal78_zero (A1 A2 : Option Addr) (c1 c2 : Nat) (W : World) : Calls Tryz.prog 105 #[.slice A1 0 c1, .slice A2 0 c2] W fun e w' => e = .returned (.bool true) ∧ Drawn W w' := by
  go_enter Tryz.func105, Tryz.ntmps105
  go_wp2
  go_loop [13] (fun x => x = .int .i64 0) (fun _ => 0)
  case atStart => rfl
  case round =>
    subst hrel
    go_wp2
    go_ret
    exact ⟨rfl, Drawn.refl _⟩
set_option maxRecDepth 100000 in
set_option maxHeartbeats 4000000 in
theorem equal78_one (g1 g2 c1 c2 x y : Nat) (q : Bool) (hq : ((x : Int) == (y : Int)) = q) (W : World) (h1 : Row1 W g1 x) (h2 : Row1 W g2 y) :
    Calls Tryz.prog 105 #[.slice (some ⟨g1, 0, none⟩) 1 c1, .slice (some ⟨g2, 0, none⟩) 1 c2] W fun e w' => e = .returned (.bool q) ∧ Drawn W w' := by
  have heq := fun w => eq84 x y q hq w
  have Hq := hide hq
  have H1 := hide h1
  have H2 := hide h2
  clear hq h1 h2
  go_enter Tryz.func105, Tryz.ntmps105
  go_wp2
  go_loopw [13] (fun z wr => (z = .int .i64 0 ∧ Drawn W wr) ∨ (z = .int .i64 1 ∧ q = true ∧ Drawn W wr)) (fun z _ => 1 - (intOf z).toNat)
  case atStart => exact Or.inl ⟨rfl, Drawn.refl _⟩
  case round =>
    rcases hrel with ⟨rfl, hd⟩ | ⟨rfl, hqt, hd⟩
    · obtain ⟨w1, hw1⟩ : ∃ w1, w1 = wr := ⟨wr, rfl⟩
      subst hw1
      obtain ⟨_, s0, s1, s2, s3, s4⟩ := (H1.out.below (by obtain ⟨k, rfl⟩ := hd; exact Drawn.below ⟨k, rfl⟩ _ : Below W.heap.size W w1)).five
      obtain ⟨_, t0, t1, t2, t3, t4⟩ := (H2.out.below (by obtain ⟨k, rfl⟩ := hd; exact Drawn.below ⟨k, rfl⟩ _ : Below W.heap.size W w1)).five
      have D := hide hd
      clear hd
      cases q with
      | true =>
        go_wp2
        go_quiet (fail)
        go_wp2
        go_roundw
        case rel => exact Or.inr ⟨rfl, by simp, D.out.more _⟩
        case measure => simp [intOf]
      | false =>
        go_wp2
        go_quiet (fail)
        go_wp2
        go_ret
        exact ⟨rfl, D.out.more _⟩
    · subst hqt
      have D := hide hd
      clear hd
      go_wp2
      go_ret
      exact ⟨rfl, D.out⟩
theorem equal78 (v1 v2 : Value) (x y : Nat) (W : World) (h1 : SetV W v1 x) (h2 : SetV W v2 y) (q : Bool) (hq : decide (x = y) = q) : Calls Tryz.prog 105 #[v1, v2] W fun e w' => e = .returned (.bool q) ∧ Drawn W w' := by
  rcases h1 with ⟨rfl, A1, c1, rfl, k1⟩ | ⟨n1, g1, c1, rfl, k1, k2, l1, r1⟩
  · rcases h2 with ⟨rfl, A2, c2, rfl, j1⟩ | ⟨n2, g2, c2, rfl, j1, j2, l2, r2⟩
    · rw [← hq]; exact equal78_zero A1 A2 c1 c2 W
    · rw [← hq, decide_eq_false (fun e => n2 e.symm)]; exact equal78_len A1 _ 0 c1 1 c2 (by omega) W
  · rcases h2 with ⟨rfl, A2, c2, rfl, j1⟩ | ⟨n2, g2, c2, rfl, j1, j2, l2, r2⟩
    · rw [← hq, decide_eq_false n1]; exact equal78_len _ A2 1 c1 0 c2 (by omega) W
    · refine equal78_one g1 g2 c1 c2 x y q ?_ W ⟨l1, r1⟩ ⟨l2, r2⟩
      rw [← hq, Bool.eq_iff_iff]
      simp
      omega
end Go.Proofs.YtlnbjdlooghpeaaGreatDoor
namespace Go.Proofs.YtlnbjdlooghpeaaGreatDoor
open Go.RowKit Go.ChangeShapes Go.WideShapes Go.Joins
theorem gTab : Tryz.prog.globalNamed "math/bits.deBruijn64tab" = some 0 := by kernel_rfl
theorem gTabType : (Tryz.prog.globals[0]?).map (·.type) = some 168 := by kernel_rfl
theorem cellsTab : Tryz.prog.cellsOf 168 = 64 := by kernel_rfl
theorem cells5T : Tryz.prog.cellsOf 5 = 1 := by kernel_rfl
theorem hasT_of_laid {W : World} {rest : List (String × DataW Unit)} (h : laidMet Tryz.prog (("math/bits.deBruijn64tab", Lib.tabData .u8 (Lib.deBruijn64tab.map Int.ofNat)) :: rest) W) : HasT W := fun j hj => by
  have h1 := Lib.tabIs_of_head gTab gTabType Tryz.underlying168 Tryz.underlying5 cells5T cellsTab h
  have h2 := h1.cell gTab j (by simpa using hj)
  rw [h2]
  congr 2
  simp [List.getD, List.getElem?_map]
  cases Lib.deBruijn64tab[j]? <;> rfl
end Go.Proofs.YtlnbjdlooghpeaaGreatDoor
