/- TopRegex: Lp. -/
import Derived.Test.YtlnbjdlooghpeaaGreatDoorTYb
import Derived.Test.YtlnbjdlooghpeaaGreatDoorTShelfP
import Derived.WalkKit
import Derived.WalkSpells
import Derived.WalkLawsBesides
import Derived.OneCell
import Derived.Deep.QuietTactic
import Derived.BigQuiet
import Derived.Shelf.Strings.LastIndex
import Init.Data.List.Lemmas
import Derived.Lib.UnsafeStr
import Derived.Lib.AppendStr
import Derived.Lib.Hide
import Derived.Maps.AppendAt
import Derived.Deep.AppendLies
import Derived.ArgAppend
import Derived.Laws.BytesArg
import Derived.Laws.AppendOwnNone
import Derived.Deep.Draws
import Derived.Deep.Slices
import Derived.Lib.SmallJoins
import Init.Data.UInt.Lemmas
import Derived.StillTailTactics
import Derived.Deep.RegionHeld3
import Derived.Laws.ResultCell
import Derived.Deep.RegionLaw
import Derived.Deep.DeepCutAuto
import Derived.Lib.SliceRun
namespace Go.Proofs.YtlnbjdlooghpeaaGreatDoor
def High (l : List UInt8) (k : Nat) : Prop := ∀ j b, j < k → l[j]? = some b → ¬ b.toNat < 128
theorem High.tail {b : UInt8} {l : List UInt8} {k : Nat} (h : High (b :: l) (k + 1)) : High l k := fun j c hj hc => h (j + 1) c (by omega) (by simpa using hc)
theorem High.head {b : UInt8} {l : List UInt8} {k : Nat} (h : High (b :: l) (k + 1)) : ¬ b.toNat < 128 := h 0 b (by omega) rfl
end Go.Proofs.YtlnbjdlooghpeaaGreatDoor
namespace Go.Proofs.YtlnbjdlooghpeaaGreatDoor
open Go.RowKit
open Go.Lib (byteCells)
def bs (l : List UInt8) : ByteArray := ⟨l.toArray⟩
theorem bs_list (l : List UInt8) : (bs l).data.toList = l := by simp [bs]
theorem bs_size (l : List UInt8) : (bs l).size = l.length := by show l.toArray.size = _; simp
theorem byte_eq (a : UInt8) (n : Nat) (h : n < 256) : ((a.toNat : Int) == (n : Int)) = decide (a = UInt8.ofNat n) := by
  rw [Bool.eq_iff_iff, beq_iff_eq, decide_eq_true_eq]
  constructor
  · intro e
    apply UInt8.toNat_inj.1
    simp
    omega
  · intro e
    subst e
    simp
    omega
end Go.Proofs.YtlnbjdlooghpeaaGreatDoor
namespace Go.Proofs.YtlnbjdlooghpeaaGreatDoor
open Go.RowKit
theorem GotR.s {w w' : World} {l : List (UInt8 × UInt8)} {e : Ending} (h : GotR w l e w') : ∃ A n c, e = .returned (.slice A n c) ∧ n = l.length ∧ RgS w' (fun g => w.heap.size ≤ g) A n c l ∧ Below w.heap.size w w' := by
  obtain ⟨v, rfl, ho, hb⟩ := h
  obtain ⟨A, n, c, rfl, hn, hs⟩ := ho.s
  exact ⟨A, n, c, rfl, hn, hs, hb⟩
end Go.Proofs.YtlnbjdlooghpeaaGreatDoor
namespace Go.Proofs.YtlnbjdlooghpeaaGreatDoor
def InB (p : Int × Int) (P : Int) : Prop := 0 ≤ p.1 ∧ p.1 ≤ P ∧ -1 ≤ p.2 ∧ p.2 ≤ P
theorem InB.mono {p : Int × Int} {P Q : Int} (h : InB p P) (hpq : P ≤ Q) : InB p Q := ⟨h.1, by have := h.2.1; omega, h.2.2.1, by have := h.2.2.2; omega⟩
end Go.Proofs.YtlnbjdlooghpeaaGreatDoor
namespace Go.Proofs.YtlnbjdlooghpeaaGreatDoor
open Go.RowKit
theorem u8_eq {x : UInt8} {n : UInt8} {z : Int} (hz : (n.toNat : Int) = z) : ((x.toNat : Int) == z) = decide (x = n) := by
  subst hz
  by_cases h : x = n
  · rw [h]; simp
  · rw [decide_eq_false h, beq_eq_false_iff_ne]
    intro e
    exact h (UInt8.toNat_inj.1 (by omega))
end Go.Proofs.YtlnbjdlooghpeaaGreatDoor
namespace Go.Proofs.YtlnbjdlooghpeaaGreatDoor
open Go.RowKit
theorem val_take {l : List UInt8} {j : Nat} {c : UInt8} (h : l[j]? = some c) : valN (l.take (j + 1)) = valN (l.take j) * 10 + ((c.toNat : Int) - 48) := by
  obtain ⟨h1, e1⟩ := List.getElem?_eq_some_iff.1 h
  unfold valN
  rw [List.take_succ_eq_append_getElem h1, List.foldl_append, e1]
  rfl
end Go.Proofs.YtlnbjdlooghpeaaGreatDoor
namespace Go.Proofs.YtlnbjdlooghpeaaGreatDoor
open Go.RowKit
theorem ownR_lit (w : World) (cs : Array Value) (l : List (UInt8 × UInt8)) (n : Nat) (h : cs.toList = rgCells l) (hn : l.length = n) (hl : n ≤ 1000) : OwnR (w.alloc (.cells cs 88)) w.heap.size (.slice (some ⟨w.heap.size, 0, none⟩) n n) l := by
  subst hn
  have hc : cs.size = l.length * 2 := by rw [← Array.length_toList, h, rgCells_len]
  refine ⟨rgCells_len l, Or.inr ⟨w.heap.size, l.length, cs, rfl, Nat.le_refl _, heap_alloc_new w _, Nat.le_refl _, by unfold maxLen; omega, hc, ?_⟩⟩
  rw [h, List.take_of_length_le (by rw [rgCells_len]; exact Nat.le_refl _)]
theorem OwnR.nil (w : World) (B : Nat) : OwnR w B (.slice none 0 0) [] := World.ownsRow_nil _ _ _ _
end Go.Proofs.YtlnbjdlooghpeaaGreatDoor
namespace Go.Proofs.YtlnbjdlooghpeaaGreatDoor
open Go.RowKit
theorem load_five {W : World} {b : Nat} {c0 c1 c2 c3 c4 : Value} (h : Five W b c0 c1 c2 c3 c4) : (loadVar 25 ⟨b, 0, none⟩).run Tryz.prog W = .ok (.agg #[c0, c1, c2, c3, c4]) W := by
  obtain ⟨h0, h1, h2, h3, h4, h5⟩ := h
  go_simp
theorem res_two {fn : Func} {p u : Tmp} (h : fn.results = #[.cell p 25, .tmp u]) (tmps : Array Value) (W : World) (b : Nat) (c0 c1 c2 c3 c4 z : Value) (hp : tmps.getD p undef = .pointer (some ⟨b, 0, none⟩)) (hu : tmps.getD u undef = z) (hf : Five W b c0 c1 c2 c3 c4) :
    (results fn tmps).run Tryz.prog W = .ok (.tuple #[.agg #[c0, c1, c2, c3, c4], z]) W := by
  rw [results_cell_tmp h, hp, hu]
  simp [asAddr, load_five hf, Result.andThen]
end Go.Proofs.YtlnbjdlooghpeaaGreatDoor
namespace Go.Proofs.YtlnbjdlooghpeaaGreatDoor
open Go.RowKit
theorem rg_one (l : List (UInt8 × UInt8)) : ∀ u ∈ rgCells l, u.oneCell' = true := by
  intro u hu
  unfold rgCells at hu
  obtain ⟨r, _, hr⟩ := List.mem_flatMap.1 hu
  simp at hr
  rcases hr with rfl | rfl <;> rfl
end Go.Proofs.YtlnbjdlooghpeaaGreatDoor
namespace Go.Proofs.YtlnbjdlooghpeaaGreatDoor
open Go.RowKit
theorem u8_ne {x n : UInt8} {z : Int} (hz : (n.toNat : Int) = z) : ((x.toNat : Int) != z) = !decide (x = n) := by rw [bne, u8_eq hz]
end Go.Proofs.YtlnbjdlooghpeaaGreatDoor
namespace Go.Proofs.YtlnbjdlooghpeaaGreatDoor
def EndOf (r l : List UInt8) : Prop := ∃ j, r = l.drop j
theorem EndOf.refl (l : List UInt8) : EndOf l l := ⟨0, rfl⟩
theorem EndOf.cons {r l : List UInt8} (h : EndOf r l) (c : UInt8) : EndOf r (c :: l) := by
  obtain ⟨j, rfl⟩ := h
  exact ⟨j + 1, rfl⟩
theorem EndOf.trans {a b c : List UInt8} (h : EndOf a b) (k : EndOf b c) : EndOf a c := by
  obtain ⟨i, rfl⟩ := h
  obtain ⟨j, rfl⟩ := k
  exact ⟨j + i, by rw [List.drop_drop]⟩
theorem EndOf.tail {r l : List UInt8} (h : EndOf r l.tail) : EndOf r l := by
  cases l with
  | nil => exact h
  | cons c l => exact EndOf.cons h c
end Go.Proofs.YtlnbjdlooghpeaaGreatDoor
namespace Go.Proofs.YtlnbjdlooghpeaaGreatDoor
open Go.RowKit
theorem RxV.agg9 {W : World} {ok : Nat → Prop} {v : Value} {r : Rx} (h : RxV W ok v r) : ∃ (k : Int) (A : Option Addr) (n c : Nat) (a b : Int) (B : Option Addr) (m d : Nat), v = .agg #[.int .i64 k, .slice A n c, .int .i64 a, .int .i64 b, .slice B m d] := by
  cases h
  exact ⟨_, _, _, _, _, _, _, _, _, rfl⟩
end Go.Proofs.YtlnbjdlooghpeaaGreatDoor
namespace Go.Proofs.YtlnbjdlooghpeaaGreatDoor
open Go.RowKit
theorem one_of_len {l : List Rx} (h : l.length = 1) : ∃ x, l = [x] := by
  match l, h with
  | [x], _ => exact ⟨x, rfl⟩
end Go.Proofs.YtlnbjdlooghpeaaGreatDoor
namespace Go.Proofs.YtlnbjdlooghpeaaGreatDoor
open Go.RowKit
theorem idx_mem : ∀ (l : List UInt8) (c : UInt8), decide (0 ≤ Lib.indexByte l c) = decide (c ∈ l)
  | [], c => by simp [Lib.indexByte]
  | b :: l, c => by
    have ih := idx_mem l c
    have hg := Lib.indexByte_ge l c
    rw [decide_eq_decide] at ih ⊢
    unfold Lib.indexByte
    by_cases hb : b = c
    · simp [hb]
    · have hb' : (b == c) = false := beq_eq_false_iff_ne.2 hb
      rw [hb']
      simp only [Bool.false_eq_true, if_false]
      rw [List.mem_cons]
      by_cases h1 : Lib.indexByte l c = -1
      · rw [h1]
        simp
        refine ⟨fun e => hb e.symm, fun h => ?_⟩
        have := ih.2 h
        omega
      · rw [if_neg (by simp [h1])]
        constructor
        · intro _; exact Or.inr (ih.1 (by omega))
        · intro _; omega
theorem idx_byte (s : ByteArray) (c : UInt8) (w : World) : Calls Tryz.prog 189 #[.string s, .int .u8 (c.toNat : Int)] w fun e w' => ∃ z : Int, e = .returned (.int .i64 z) ∧ decide (0 ≤ z) = decide (c ∈ s.data.toList) ∧ w = w' := by
  refine (Tryz.strings_IndexByte s (c.toNat : Int) w).mono ?_
  rintro e w' ⟨rfl, rfl⟩
  have : ((c.toNat : Int).toNat.toUInt8) = c := by simp
  rw [this]
  exact ⟨_, rfl, idx_mem _ _, rfl⟩
set_option maxRecDepth 20000 in
theorem visible108 (c : UInt8) (W : World) : Calls Tryz.prog 188 #[.int .u8 (c.toNat : Int)] W fun e w' => e = .returned (.bool (decide (32 ≤ c) && decide (c ≤ 126))) ∧ W = w' := by
  by_cases h1 : 32 ≤ c
  · have l1 : (32 : Int) ≤ (c.toNat : Int) := by have : (32 : Nat) ≤ c.toNat := UInt8.le_iff_toNat_le.1 h1; omega
    by_cases h2 : c ≤ 126
    · have l2 : (c.toNat : Int) ≤ 126 := by have : c.toNat ≤ (126 : Nat) := UInt8.le_iff_toNat_le.1 h2; omega
      have Hn := hide (show true = (decide (32 ≤ c) && decide (c ≤ 126)) by simp [h1, h2])
      clear h1 h2
      go_enter Tryz.func188, Tryz.ntmps188
      go_wp2
      go_ret
      exact ⟨ret_bool Hn.out, rfl⟩
    · have l2 : ¬ (c.toNat : Int) ≤ 126 := by
        rw [UInt8.le_iff_toNat_le] at h2
        have : ¬ c.toNat ≤ (126 : Nat) := h2
        omega
      have Hn := hide (show false = (decide (32 ≤ c) && decide (c ≤ 126)) by simp [h2])
      clear h1 h2
      go_enter Tryz.func188, Tryz.ntmps188
      go_wp2
      go_ret
      exact ⟨ret_bool Hn.out, rfl⟩
  · have l1 : ¬ (32 : Int) ≤ (c.toNat : Int) := by
      rw [UInt8.le_iff_toNat_le] at h1
      have : ¬ (32 : Nat) ≤ c.toNat := h1
      omega
    have Hn := hide (show false = (decide (32 ≤ c) && decide (c ≤ 126)) by simp [h1])
    clear h1
    go_enter Tryz.func188, Tryz.ntmps188
    go_wp2
    go_ret
    exact ⟨ret_bool Hn.out, rfl⟩
theorem u8_is (c : UInt8) (n : Nat) (hn : n < 256) : ((c.toNat : Int) == (n : Int)) = decide (c = UInt8.ofNat n) := byte_eq c n hn
def escP : List UInt8 → Option (UInt8 × List UInt8)
  | [] => none
  | d :: l => if d = 110 then some (10, l) else if d = 116 then some (9, l) else if d ∈ special ++ [45] then some (d, l) else none
theorem escP_cons (d : UInt8) (l : List UInt8) : escP (d :: l) = if d = 110 then some (10, l) else if d = 116 then some (9, l) else if d ∈ special ++ [45] then some (d, l) else none := rfl
def oneP (exc : List UInt8) : List UInt8 → Option (UInt8 × List UInt8)
  | [] => none
  | c :: l => if c = 92 then escP l else if 32 ≤ c ∧ c ≤ 126 ∧ ¬ c ∈ exc then some (c, l) else none
theorem oneP_cons (exc : List UInt8) (c : UInt8) (l : List UInt8) : oneP exc (c :: l) = if c = 92 then escP l else if 32 ≤ c ∧ c ≤ 126 ∧ ¬ c ∈ exc then some (c, l) else none := rfl
def wset : List (UInt8 × UInt8) := [(48, 57), (65, 90), (95, 95), (97, 122)]
def classP : List UInt8 → Option (List (UInt8 × UInt8) × List UInt8)
  | c :: d :: l => if c = 92 ∧ d = 100 then some ([(48, 57)], l) else if c = 92 ∧ d = 119 then some (wset, l) else none
  | _ => none
theorem classP_two (c d : UInt8) (l : List UInt8) : classP (c :: d :: l) = if c = 92 ∧ d = 100 then some ([(48, 57)], l) else if c = 92 ∧ d = 119 then some (wset, l) else none := rfl
theorem classS_two (c d : UInt8) (l : List UInt8) : classS (c :: d :: l) = (decide (c = 92) && (decide (d = 100) || decide (d = 119))) := rfl
def hyphP (lo : UInt8) : List UInt8 → Option (List (UInt8 × UInt8) × List UInt8)
  | [] => some ([(lo, lo)], [])
  | c :: r => if c = 45 then (match oneP inSet r with | none => none | some (h, q) => if lo ≤ h then some ([(lo, h)], q) else none) else some ([(lo, lo)], c :: r)
theorem hyphP_cons (lo c : UInt8) (r : List UInt8) : hyphP lo (c :: r) = if c = 45 then (match oneP inSet r with | none => none | some (h, q) => if lo ≤ h then some ([(lo, h)], q) else none) else some ([(lo, lo)], c :: r) := rfl
def elemP (l : List UInt8) : Option (List (UInt8 × UInt8) × List UInt8) :=
  match classP l with
  | some x => some x
  | none =>
    match oneP inSet l with
    | none => none
    | some (lo, r) => hyphP lo r
def elemsP : Nat → List (UInt8 × UInt8) → List UInt8 → Option (List (UInt8 × UInt8) × List UInt8)
  | 0, _, _ => none
  | n + 1, acc, l =>
    match elemP l with
    | none => none
    | some (x, r) =>
      match r with
      | [] => elemsP n (acc ++ x) []
      | c :: r' => if c = 93 then some (acc ++ x, r') else elemsP n (acc ++ x) (c :: r')
theorem escP_len {l r : List UInt8} {c : UInt8} (h : escP l = some (c, r)) : r.length + 1 = l.length := by
  cases l with
  | nil => cases h
  | cons d l =>
    rw [escP_cons] at h
    by_cases h1 : d = 110
    · rw [if_pos h1] at h; cases h; simp
    · rw [if_neg h1] at h
      by_cases h2 : d = 116
      · rw [if_pos h2] at h; cases h; simp
      · rw [if_neg h2] at h
        by_cases h3 : d ∈ special ++ [45]
        · rw [if_pos h3] at h; cases h; simp
        · rw [if_neg h3] at h; cases h
theorem oneP_len {exc l r : List UInt8} {c : UInt8} (h : oneP exc l = some (c, r)) : r.length < l.length := by
  cases l with
  | nil => cases h
  | cons d l =>
    rw [oneP_cons] at h
    by_cases h1 : d = 92
    · rw [if_pos h1] at h
      have := escP_len h
      simp
      omega
    · rw [if_neg h1] at h
      by_cases h2 : 32 ≤ d ∧ d ≤ 126 ∧ ¬ d ∈ exc
      · rw [if_pos h2] at h; cases h; simp
      · rw [if_neg h2] at h; cases h
theorem classP_len {l r : List UInt8} {x : List (UInt8 × UInt8)} (h : classP l = some (x, r)) : r.length + 2 = l.length := by
  match l, h with
  | [], h => simp [classP] at h
  | [a], h => simp [classP] at h
  | a :: b :: l, h =>
    rw [classP_two] at h
    by_cases h1 : a = 92 ∧ b = 100
    · rw [if_pos h1] at h; cases h; simp
    · rw [if_neg h1] at h
      by_cases h2 : a = 92 ∧ b = 119
      · rw [if_pos h2] at h; cases h; simp
      · rw [if_neg h2] at h; cases h
theorem hyphP_ok {lo : UInt8} {l r : List UInt8} {x : List (UInt8 × UInt8)} (h : hyphP lo l = some (x, r)) : r.length ≤ l.length ∧ x ≠ [] := by
  cases l with
  | nil => cases h; simp
  | cons c l =>
    rw [hyphP_cons] at h
    by_cases hc : c = 45
    · rw [if_pos hc] at h
      cases ho : oneP inSet l with
      | none => rw [ho] at h; cases h
      | some p =>
        obtain ⟨hh, q⟩ := p
        rw [ho] at h
        have := oneP_len ho
        simp only at h
        by_cases hl : lo ≤ hh
        · rw [if_pos hl] at h; cases h; simp; omega
        · rw [if_neg hl] at h; cases h
    · rw [if_neg hc] at h; cases h; simp
theorem elemP_len {l r : List UInt8} {x : List (UInt8 × UInt8)} (h : elemP l = some (x, r)) : r.length < l.length := by
  unfold elemP at h
  cases hc : classP l with
  | some y =>
    rw [hc] at h
    cases h
    have := classP_len hc
    omega
  | none =>
    rw [hc] at h
    cases ho : oneP inSet l with
    | none => rw [ho] at h; cases h
    | some p =>
      obtain ⟨lo, q⟩ := p
      rw [ho] at h
      have h1 := oneP_len ho
      have h2 := (hyphP_ok (show hyphP lo q = some (x, r) from h)).1
      omega
theorem elemP_ne {l r : List UInt8} {x : List (UInt8 × UInt8)} (h : elemP l = some (x, r)) : x ≠ [] := by
  unfold elemP at h
  cases hc : classP l with
  | some y =>
    rw [hc] at h
    cases h
    match l, hc with
    | [], hy => cases hy
    | [a], hy => cases hy
    | a :: b :: l, hy =>
      rw [classP_two] at hy
      by_cases h1 : a = 92 ∧ b = 100
      · rw [if_pos h1] at hy; cases hy; simp
      · rw [if_neg h1] at hy
        by_cases h2 : a = 92 ∧ b = 119
        · rw [if_pos h2] at hy; cases hy; simp [wset]
        · rw [if_neg h2] at hy; cases hy
  | none =>
    rw [hc] at h
    cases ho : oneP inSet l with
    | none => rw [ho] at h; cases h
    | some p =>
      obtain ⟨lo, q⟩ := p
      rw [ho] at h
      exact (hyphP_ok (show hyphP lo q = some (x, r) from h)).2
theorem elemP_nil : elemP [] = none := by simp [elemP, classP, oneP]
theorem elemP_93 (l : List UInt8) : elemP (93 :: l) = none := by
  have h1 : classP (93 :: l) = none := by
    cases l with
    | nil => rfl
    | cons d l => rw [classP_two, if_neg (fun e => absurd e.1 (by decide)), if_neg (fun e => absurd e.1 (by decide))]
  have h2 : oneP inSet (93 :: l) = none := by
    rw [oneP_cons, if_neg (by decide), if_neg (by decide)]
  unfold elemP
  rw [h1, h2]
theorem class_yes {l : List UInt8} (h : classS l = true) : oneS l = classP l ∧ oneP inSet l = none ∧ ∃ y, classP l = some y := by
  match l, h with
  | a :: c :: l, h =>
    unfold classS at h
    simp only [Bool.and_eq_true, Bool.or_eq_true, decide_eq_true_eq] at h
    obtain ⟨rfl, rfl | rfl⟩ := h
    · refine ⟨rfl, ?_, _, rfl⟩
      rw [oneP_cons, if_pos rfl, escP_cons, if_neg (by decide), if_neg (by decide), if_neg (by decide)]
    · refine ⟨rfl, ?_, _, rfl⟩
      rw [oneP_cons, if_pos rfl, escP_cons, if_neg (by decide), if_neg (by decide), if_neg (by decide)]
theorem class_no {l : List UInt8} (h : classS l = false) : classP l = none := by
  match l, h with
  | [], _ => rfl
  | [a], _ => rfl
  | a :: c :: l, h =>
    rw [classS_two] at h
    rw [classP_two]
    by_cases ha : a = 92
    · subst ha
      simp only [decide_true, Bool.true_and, Bool.or_eq_false_iff, decide_eq_false_iff_not] at h
      rw [if_neg (fun e => h.1 e.2), if_neg (fun e => h.2 e.2)]
    · rw [if_neg (fun e => ha e.1), if_neg (fun e => ha e.1)]
theorem esc_one {d : UInt8} (h1 : d ≠ 100) (h2 : d ≠ 119) : escapeS d = if d = 110 then some [(10, 10)] else if d = 116 then some [(9, 9)] else if d ∈ special ++ [45] then some [(d, d)] else none := by
  unfold escapeS
  rw [if_neg h1, if_neg h2]
  have : (d = 45 ∨ d ∈ special) ↔ d ∈ special ++ [45] := by rw [List.mem_append, List.mem_singleton]; exact Or.comm
  by_cases hd : d ∈ special ++ [45]
  · rw [if_pos hd, if_pos (this.2 hd)]
  · rw [if_neg hd, if_neg (fun e => hd (this.1 e))]
theorem oneS_cons (c : UInt8) (l : List UInt8) : oneS (c :: l) = if c < 32 ∨ 126 < c then none else if c = 92 then (match l with | [] => none | d :: l' => match escapeS d with | some x => some (x, l') | none => none)
    else if c ∈ inSet then none else some ([(c, c)], l) := rfl
theorem setE_cons (n : Nat) (acc : List (UInt8 × UInt8)) (c : UInt8) (l : List UInt8) : setE (n + 1) acc (c :: l) = if c = 93 then (if acc = [] then none else some (acc, l)) else
    match oneS (c :: l) with
    | none => none
    | some (x, r) =>
      if classS (c :: l) = false ∧ r.head? = some 45 then
        (if classS r.tail then none else
          match oneS r.tail with
          | none => none
          | some (y, e) => if lo1 y < lo1 x then none else setE n (acc ++ [(lo1 x, lo1 y)]) e)
      else setE n (acc ++ x) r := rfl
theorem one_eq {l : List UInt8} (h : classS l = false) : oneS l = (oneP inSet l).map fun p => ([(p.1, p.1)], p.2) := by
  cases l with
  | nil => rfl
  | cons c l =>
    rw [oneS_cons, oneP_cons]
    by_cases hc : c = 92
    · subst hc
      rw [if_neg (by decide), if_pos rfl, if_pos rfl]
      cases l with
      | nil => rfl
      | cons d l' =>
        rw [classS_two] at h
        simp only [decide_true, Bool.true_and, Bool.or_eq_false_iff, decide_eq_false_iff_not] at h
        rw [escP_cons]
        simp only
        rw [esc_one h.1 h.2]
        by_cases e1 : d = 110
        · rw [if_pos e1, if_pos e1]; rfl
        · rw [if_neg e1, if_neg e1]
          by_cases e2 : d = 116
          · rw [if_pos e2, if_pos e2]; rfl
          · rw [if_neg e2, if_neg e2]
            by_cases e3 : d ∈ special ++ [45]
            · rw [if_pos e3, if_pos e3]; rfl
            · rw [if_neg e3, if_neg e3]; rfl
    · rw [if_neg hc, if_neg hc]
      have hlt : ∀ a b : UInt8, a < b ↔ ¬ b ≤ a := fun a b => by rw [UInt8.lt_iff_toNat_lt, UInt8.le_iff_toNat_le]; omega
      by_cases hr : c < 32 ∨ 126 < c
      · rw [if_pos hr, if_neg]
        · rfl
        · rintro ⟨h1, h2, _⟩
          rcases hr with hr | hr
          · exact (hlt _ _).1 hr h1
          · exact (hlt _ _).1 hr h2
      · have h1 : 32 ≤ c := by
          rw [UInt8.le_iff_toNat_le]
          have : ¬ c < 32 := fun e => hr (Or.inl e)
          rw [UInt8.lt_iff_toNat_lt] at this
          omega
        have h2 : c ≤ 126 := by
          rw [UInt8.le_iff_toNat_le]
          have : ¬ 126 < c := fun e => hr (Or.inr e)
          rw [UInt8.lt_iff_toNat_lt] at this
          omega
        rw [if_neg hr]
        by_cases hm : c ∈ inSet
        · rw [if_pos hm, if_neg (fun e => e.2.2 hm)]; rfl
        · rw [if_neg hm, if_pos ⟨h1, h2, hm⟩]; rfl
theorem setE_step (n : Nat) (acc : List (UInt8 × UInt8)) (l : List UInt8) (h : l.head? ≠ some 93) : setE (n + 1) acc l = match elemP l with | none => none | some (x, r) => setE n (acc ++ x) r := by
  cases l with
  | nil => rw [elemP_nil]; rfl
  | cons c l =>
    have hc : c ≠ 93 := fun e => h (by rw [e]; rfl)
    rw [setE_cons, if_neg hc]
    unfold elemP
    cases hcl : classS (c :: l) with
    | true =>
      obtain ⟨h1, h2, y, hy⟩ := class_yes hcl
      rw [h1, hy]
      simp
    | false =>
      rw [class_no hcl, one_eq hcl]
      cases ho : oneP inSet (c :: l) with
      | none => rfl
      | some p =>
        obtain ⟨lo, r⟩ := p
        simp only [Option.map_some]
        cases r with
        | nil =>
          rw [if_neg (by simp)]
          rfl
        | cons d r' =>
          rw [hyphP_cons]
          by_cases hd : d = 45
          · subst hd
            rw [if_pos (by simp), if_pos rfl]
            show (if classS r' = true then none else match oneS r' with | none => none | some (y, e) => if lo1 y < lo1 [(lo, lo)] then none else setE n (acc ++ [(lo1 [(lo, lo)], lo1 y)]) e) = _
            by_cases hcr : classS r' = true
            · rw [if_pos hcr, (class_yes hcr).2.1]
            · rw [if_neg hcr, one_eq (by simpa using hcr)]
              cases ho2 : oneP inSet r' with
              | none => rfl
              | some p2 =>
                obtain ⟨hh, q⟩ := p2
                show (if hh < lo then none else setE n (acc ++ [(lo, hh)]) q) = match (if lo ≤ hh then some ([(lo, hh)], q) else none) with | none => none | some (x, r) => setE n (acc ++ x) r
                by_cases hl : lo ≤ hh
                · rw [if_pos hl, if_neg (by rw [UInt8.lt_iff_toNat_lt]; rw [UInt8.le_iff_toNat_le] at hl; omega)]
                · rw [if_neg hl, if_pos (by rw [UInt8.lt_iff_toNat_lt]; rw [UInt8.le_iff_toNat_le] at hl; omega)]
          · rw [if_neg (by simp [hd]), if_neg hd]
theorem elems_set : ∀ (n : Nat) (acc : List (UInt8 × UInt8)) (l : List UInt8), l.head? ≠ some 93 → elemsP n acc l = setE (n + 1) acc l
  | 0, acc, l, h => by
    rw [setE_step 0 acc l h]
    unfold elemsP
    cases elemP l with
    | none => rfl
    | some p => rfl
  | n + 1, acc, l, h => by
    rw [setE_step (n + 1) acc l h]
    unfold elemsP
    cases he : elemP l with
    | none => rfl
    | some p =>
      obtain ⟨x, r⟩ := p
      have hne := elemP_ne he
      simp only
      cases r with
      | nil => exact elems_set n (acc ++ x) [] (by simp)
      | cons c r' =>
        simp only
        by_cases hc : c = 93
        · subst hc
          rw [if_pos rfl]
          rw [setE_cons, if_pos rfl, if_neg (by simp [hne])]
        · rw [if_neg hc]
          exact elems_set n (acc ++ x) (c :: r') (by simp [hc])
theorem elems_start (n : Nat) (l : List UInt8) : elemsP (n + 1) [] l = setE (n + 2) [] l := by
  by_cases h : l.head? = some 93
  · cases l with
    | nil => simp at h
    | cons c l =>
      simp at h
      subst h
      rw [setE_cons, if_pos rfl, if_pos rfl]
      unfold elemsP
      rw [elemP_93]
  · exact elems_set _ _ _ h
theorem elems_none (n : Nat) (acc : List (UInt8 × UInt8)) : elemsP n acc [] = none := by
  cases n with
  | zero => rfl
  | succ n => unfold elemsP; rw [elemP_nil]
theorem elems_enough : ∀ (n m : Nat) (acc : List (UInt8 × UInt8)) (l : List UInt8), l.length ≤ n → l.length ≤ m → elemsP n acc l = elemsP m acc l
  | 0, m, acc, l, h1, _ => by
    obtain rfl : l = [] := List.eq_nil_of_length_eq_zero (by omega)
    rw [elems_none, elems_none]
  | n + 1, 0, acc, l, _, h2 => by
    obtain rfl : l = [] := List.eq_nil_of_length_eq_zero (by omega)
    rw [elems_none, elems_none]
  | n + 1, m + 1, acc, l, h1, h2 => by
    unfold elemsP
    cases he : elemP l with
    | none => rfl
    | some p =>
      obtain ⟨x, r⟩ := p
      have hl := elemP_len he
      simp only
      cases r with
      | nil => exact elems_enough n m _ _ (by simp) (by simp)
      | cons c r' =>
        simp only
        by_cases hc : c = 93
        · rw [if_pos hc, if_pos hc]
        · rw [if_neg hc, if_neg hc]
          exact elems_enough n m _ _ (by omega) (by omega)
theorem elems_setE (l : List UInt8) : elemsP (l.length + 1) [] l = setE (l.length + 1) [] l := by
  cases l with
  | nil => rw [elems_none]; rfl
  | cons c l =>
    show _ = setE (l.length + 2) [] (c :: l)
    rw [← elems_start l.length (c :: l)]
    exact elems_enough _ _ _ _ (by simp) (by simp)
def setP (l : List UInt8) : Option (List (UInt8 × UInt8) × List UInt8) :=
  if l.head? = some 94 then (elemsP (l.tail.length + 1) [] l.tail).map fun p => (rangesS p.1 true, p.2) else (elemsP (l.length + 1) [] l).map fun p => (rangesS p.1 false, p.2)
theorem setS_P (l : List UInt8) : setS l = (setP l).map fun p => (setR p.1, p.2) := by
  unfold setS setP
  by_cases h : l.head? = some 94
  · rw [if_pos h, if_pos h, elems_setE]
    cases setE (l.tail.length + 1) [] l.tail with
    | none => rfl
    | some p => rfl
  · rw [if_neg h, if_neg h, elems_setE]
    cases setE (l.length + 1) [] l with
    | none => rfl
    | some p => rfl
def setA : List UInt8 → Option (List (UInt8 × UInt8) × List UInt8)
  | [] => none
  | c :: l => if c = 46 then some (rangesS [(10, 10)] true, l) else if c = 91 then setP l else
    match classP (c :: l) with | some x => some x | none => (oneP special (c :: l)).map fun p => ([(p.1, p.1)], p.2)
theorem setA_cons (c : UInt8) (l : List UInt8) : setA (c :: l) = if c = 46 then some (rangesS [(10, 10)] true, l) else if c = 91 then setP l else
    match classP (c :: l) with | some x => some x | none => (oneP special (c :: l)).map fun p => ([(p.1, p.1)], p.2) := rfl
theorem atom_cons (n : Nat) (c : UInt8) (l : List UInt8) : atomP (n + 1) (c :: l) =
    if c = 40 then (match altP n [] l with | some (r, d :: l') => if d = 41 then some (r, l') else none | _ => none)
    else if c = 91 then setS l
    else if c = 46 then some (setR (rangesS [(10, 10)] true), l)
    else if c = 94 then some (.mk 5 [] 0 0 [], l)
    else if c = 36 then some (.mk 6 [] 0 0 [], l)
    else if c = 92 then (match l with | [] => none | d :: l' => if d = 98 then some (.mk 7 [] 0 0 [], l') else match escapeS d with | some x => some (setR x, l') | none => none)
    else if c < 32 ∨ 126 < c ∨ c ∈ special then none
    else some (setR [(c, c)], l) := by
  rw [atomP.eq_def]
  rfl
theorem atom_set (n : Nat) (c : UInt8) (l : List UInt8) (h40 : c ≠ 40) (h94 : c ≠ 94) (h36 : c ≠ 36) (h98 : ¬ (c = 92 ∧ l.head? = some 98)) :
    atomP (n + 1) (c :: l) = (setA (c :: l)).map fun p => (setR p.1, p.2) := by
  rw [atom_cons, if_neg h40, setA_cons]
  by_cases h91 : c = 91
  · subst h91
    have h9146 : ¬ (91 : UInt8) = 46 := by decide
    rw [if_pos rfl, if_neg h9146, if_pos rfl, setS_P]
  · rw [if_neg h91]
    by_cases h46 : c = 46
    · rw [if_pos h46, if_pos h46, Option.map_some]
    · rw [if_neg h46, if_neg h46, if_neg h94, if_neg h36, if_neg h91]
      by_cases h92 : c = 92
      · subst h92
        rw [if_pos rfl]
        cases l with
        | nil => rfl
        | cons d l' =>
          have hd : d ≠ 98 := fun e => h98 ⟨rfl, by rw [e]; rfl⟩
          rw [classP_two, oneP_cons, if_pos rfl, escP_cons]
          simp only
          rw [if_neg hd]
          by_cases h100 : d = 100
          · subst h100; rfl
          · by_cases h119 : d = 119
            · subst h119; rfl
            · rw [if_neg (fun e => h100 e.2), if_neg (fun e => h119 e.2), esc_one h100 h119]
              by_cases e1 : d = 110
              · rw [if_pos e1, if_pos e1]; rfl
              · rw [if_neg e1, if_neg e1]
                by_cases e2 : d = 116
                · rw [if_pos e2, if_pos e2]; rfl
                · rw [if_neg e2, if_neg e2]
                  by_cases e3 : d ∈ special ++ [45]
                  · rw [if_pos e3, if_pos e3]; rfl
                  · rw [if_neg e3, if_neg e3]; rfl
      · have hcl : classP (c :: l) = none := by
          cases l with
          | nil => rfl
          | cons d l => rw [classP_two, if_neg (fun e => h92 e.1), if_neg (fun e => h92 e.1)]
        rw [if_neg h92, hcl, oneP_cons, if_neg h92]
        by_cases hb : c < 32 ∨ 126 < c ∨ c ∈ special
        · rw [if_pos hb, if_neg]
          · rfl
          · rintro ⟨h1, h2, h3⟩
            rw [UInt8.le_iff_toNat_le] at h1 h2
            rcases hb with hb | hb | hb
            · rw [UInt8.lt_iff_toNat_lt] at hb; omega
            · rw [UInt8.lt_iff_toNat_lt] at hb; omega
            · exact h3 hb
        · rw [if_neg hb, if_pos]
          · rfl
          · refine ⟨?_, ?_, fun e => hb (Or.inr (Or.inr e))⟩
            · rw [UInt8.le_iff_toNat_le]
              have : ¬ c < 32 := fun e => hb (Or.inl e)
              rw [UInt8.lt_iff_toNat_lt] at this
              omega
            · rw [UInt8.le_iff_toNat_le]
              have : ¬ 126 < c := fun e => hb (Or.inr (Or.inl e))
              rw [UInt8.lt_iff_toNat_lt] at this
              omega
def numP (s : List UInt8) : Option Int := if s = [] ∨ 3 < s.length ∨ (s.head? = some 48 ∧ s ≠ [48]) ∨ s.all isDig = false then none else some (valN s)
def cutL (c : UInt8) (l : List UInt8) : List UInt8 := l.takeWhile fun x => decide (x ≠ c)
def cutR (c : UInt8) (l : List UInt8) : List UInt8 := l.drop ((cutL c l).length + 1)
def boundsP (l : List UInt8) : Option (Int × Int × List UInt8) :=
  match numP (cutL 44 (cutL 125 l)) with
  | none => none
  | some m =>
    if cutR 44 (cutL 125 l) = [] then (if 125 ∈ l then some (m, (if 44 ∈ cutL 125 l then -1 else m), cutR 125 l) else none)
    else match numP (cutR 44 (cutL 125 l)) with | none => none | some n => if 125 ∈ l then some (m, n, cutR 125 l) else none
theorem cutL_cons (c x : UInt8) (l : List UInt8) : cutL c (x :: l) = if x = c then [] else x :: cutL c l := by
  unfold cutL
  rw [List.takeWhile_cons]
  by_cases h : x = c <;> simp [h]
theorem cutR_cons (c x : UInt8) (l : List UInt8) : cutR c (x :: l) = if x = c then l else cutR c l := by
  unfold cutR
  rw [cutL_cons]
  by_cases h : x = c <;> simp [h]
theorem cutL_app {c : UInt8} : ∀ {d : List UInt8} {l : List UInt8}, c ∉ d → cutL c (d ++ l) = d ++ cutL c l
  | [], l, _ => rfl
  | x :: d, l, h => by
    simp at h
    rw [List.cons_append, cutL_cons, if_neg (fun e => h.1 e.symm), cutL_app h.2]
    rfl
theorem cutR_app {c : UInt8} : ∀ {d : List UInt8} {l : List UInt8}, c ∉ d → cutR c (d ++ l) = cutR c l
  | [], l, _ => rfl
  | x :: d, l, h => by
    simp at h
    rw [List.cons_append, cutR_cons, if_neg (fun e => h.1 e.symm), cutR_app h.2]
theorem cutL_nil (c : UInt8) : cutL c [] = [] := rfl
theorem cutR_nil (c : UInt8) : cutR c [] = [] := rfl
theorem dig_not {d : List UInt8} (h : d.all isDig = true) {c : UInt8} (hc : isDig c = false) : c ∉ d := fun hm => by
  rw [List.all_eq_true.1 h c hm] at hc
  cases hc
theorem numP_bad {s : List UInt8} {c : UInt8} (hm : c ∈ s) (hc : isDig c = false) : numP s = none := by
  unfold numP
  rw [if_pos]
  refine Or.inr (Or.inr (Or.inr ?_))
  cases h : s.all isDig with
  | false => rfl
  | true => exact absurd hm (dig_not h hc)
theorem digN_eq (l : List UInt8) : digN l = min 4 (l.takeWhile isDig).length := by
  have : ∀ (n : Nat) (l : List UInt8), ((l.take n).takeWhile isDig).length = min n (l.takeWhile isDig).length := by
    intro n
    induction n with
    | zero => intro l; simp
    | succ n ih =>
      intro l
      cases l with
      | nil => simp
      | cons x l =>
        rw [List.take_succ_cons, List.takeWhile_cons, List.takeWhile_cons]
        split
        · simp only [List.length_cons]
          rw [ih l]
          omega
        · simp
  exact this 4 l
theorem number_P (d r : List UInt8) (hd : d.all isDig = true) (hr : ∀ c, r.head? = some c → isDig c = false) : numberS (d ++ r) = (numP d).map fun v => (v, r) := by
  have htw : (d ++ r).takeWhile isDig = d := by
    rw [List.takeWhile_append_of_pos (fun x hx => List.all_eq_true.1 hd x hx)]
    have : r.takeWhile isDig = [] := by
      cases r with
      | nil => rfl
      | cons c r => rw [List.takeWhile_cons, hr c rfl]; rfl
    rw [this, List.append_nil]
  have hn := digN_eq (d ++ r)
  rw [htw] at hn
  unfold numberS numP
  rw [hn]
  by_cases h0 : d = []
  · subst h0
    rw [if_pos (Or.inl (by simp)), if_pos (Or.inl rfl)]
    rfl
  · have hpos : 0 < d.length := List.length_pos_iff.2 h0
    by_cases h3 : 3 < d.length
    · rw [if_pos (Or.inr (Or.inl (by omega))), if_pos (Or.inr (Or.inl h3))]
      rfl
    · have hm : min 4 d.length = d.length := by omega
      rw [hm]
      have hh : (d ++ r).head? = d.head? := by
        cases d with
        | nil => exact absurd rfl h0
        | cons x d => rfl
      rw [hh]
      by_cases h48 : d.head? = some 48 ∧ 1 < d.length
      · rw [if_pos (Or.inr (Or.inr h48)), if_pos (Or.inr (Or.inr (Or.inl ⟨h48.1, fun e => by rw [e] at h48; simp at h48⟩)))]
        rfl
      · rw [if_neg, if_neg]
        · simp
        · rintro (h | h | h | h)
          · exact h0 h
          · exact h3 h
          · refine h48 ⟨h.1, ?_⟩
            match d, h0, h with
            | [x], _, h =>
              simp at h
            | x :: y :: d, _, _ => simp
          · rw [hd] at h; cases h
        · rintro (h | h | h)
          · omega
          · omega
          · exact h48 h
theorem dig_split (l : List UInt8) : ∃ d r, l = d ++ r ∧ d.all isDig = true ∧ ∀ c, r.head? = some c → isDig c = false := by
  refine ⟨l.takeWhile isDig, l.dropWhile isDig, List.takeWhile_append_dropWhile.symm, ?_, ?_⟩
  · exact List.all_takeWhile
  · intro c hc
    cases h : l.dropWhile isDig with
    | nil => rw [h] at hc; simp at hc
    | cons x r =>
      rw [h] at hc
      simp at hc
      subst hc
      have := List.head_dropWhile_not isDig (l := l) (by rw [h]; simp)
      simpa [h] using this
theorem bounds_P (l : List UInt8) : boundsP l = boundsS l := by
  obtain ⟨d, r, rfl, hd, hr⟩ := dig_split l
  have n125 : (125 : UInt8) ∉ d := dig_not hd (by decide)
  have n44 : (44 : UInt8) ∉ d := dig_not hd (by decide)
  unfold boundsP boundsS
  rw [number_P d r hd hr]
  cases r with
  | nil =>
    have e1 : cutL 125 (d ++ []) = d := by rw [cutL_app n125, cutL_nil, List.append_nil]
    have e2 : cutL 44 d = d := by have := cutL_app (l := []) n44; rwa [List.append_nil, cutL_nil, List.append_nil] at this
    have h125 : ¬ (125 : UInt8) ∈ d ++ [] := by simpa using n125
    rw [e1, e2]
    cases numP d with
    | none => rfl
    | some m =>
      simp only [Option.map_some]
      simp only [if_neg h125]
      split
      · rfl
      · split <;> rfl
  | cons c r' =>
    have hc : isDig c = false := hr c rfl
    by_cases h125 : c = 125
    · subst h125
      have e1 : cutL 125 (d ++ 125 :: r') = d := by rw [cutL_app n125, cutL_cons, if_pos rfl, List.append_nil]
      have e2 : cutL 44 d = d := by have := cutL_app (l := []) n44; rwa [List.append_nil, cutL_nil, List.append_nil] at this
      have e3 : cutR 44 d = [] := by have := cutR_app (l := []) n44; rwa [List.append_nil, cutR_nil] at this
      have e4 : cutR 125 (d ++ 125 :: r') = r' := by rw [cutR_app n125, cutR_cons, if_pos rfl]
      rw [e1, e2, e3, e4]
      cases numP d with
      | none => rfl
      | some m =>
        simp only [Option.map_some]
        rw [if_pos trivial, if_pos (show (125 : UInt8) ∈ d ++ 125 :: r' by simp), if_neg n44, if_pos trivial]
    · by_cases h44 : c = 44
      · subst h44
        have e1 : cutL 125 (d ++ 44 :: r') = d ++ 44 :: cutL 125 r' := by rw [cutL_app n125, cutL_cons, if_neg (by decide)]
        have e2 : cutL 44 (d ++ 44 :: cutL 125 r') = d := by rw [cutL_app n44, cutL_cons, if_pos rfl, List.append_nil]
        have e3 : cutR 44 (d ++ 44 :: cutL 125 r') = cutL 125 r' := by rw [cutR_app n44, cutR_cons, if_pos rfl]
        have e4 : cutR 125 (d ++ 44 :: r') = cutR 125 r' := by rw [cutR_app n125, cutR_cons, if_neg (by decide)]
        have e5 : ((125 : UInt8) ∈ d ++ 44 :: r') = ((125 : UInt8) ∈ r') := by simp [n125]
        have e6 : (44 : UInt8) ∈ d ++ 44 :: cutL 125 r' := by simp
        rw [e1, e2, e3, e4]
        simp only [e5]
        cases numP d with
        | none => rfl
        | some m =>
          simp only [Option.map_some]
          rw [if_pos e6, if_neg (show ¬ (44 : UInt8) = 125 by decide), if_pos trivial]
          obtain ⟨d2, r2, rfl, hd2, hr2⟩ := dig_split r'
          have m125 : (125 : UInt8) ∉ d2 := dig_not hd2 (by decide)
          have nP := number_P d2 r2 hd2 hr2
          cases r2 with
          | nil =>
            have f1 : cutL 125 (d2 ++ []) = d2 := by rw [cutL_app m125, cutL_nil, List.append_nil]
            have f2 : ¬ (125 : UInt8) ∈ d2 ++ [] := by simpa using m125
            rw [f1]
            simp only [f2, if_false]
            cases d2 with
            | nil => rfl
            | cons e d3 =>
              have he : e ≠ 125 := fun x => m125 (by rw [x]; simp)
              rw [if_neg (by simp)]
              rw [List.append_nil] at nP ⊢
              simp only
              rw [if_neg he, nP]
              cases numP (e :: d3) with
              | none => rfl
              | some n => rfl
          | cons f r3 =>
            have hf := hr2 f rfl
            by_cases hf125 : f = 125
            · subst hf125
              have f1 : cutL 125 (d2 ++ 125 :: r3) = d2 := by rw [cutL_app m125, cutL_cons, if_pos rfl, List.append_nil]
              have f3 : cutR 125 (d2 ++ 125 :: r3) = r3 := by rw [cutR_app m125, cutR_cons, if_pos rfl]
              have f2 : (125 : UInt8) ∈ d2 ++ 125 :: r3 := by simp
              rw [f1, f3]
              simp only [f2, if_true]
              cases d2 with
              | nil =>
                rw [if_pos rfl]
                show _ = if (125 : UInt8) = 125 then some (m, -1, r3) else _
                rw [if_pos rfl]
              | cons e d3 =>
                have he : e ≠ 125 := fun x => m125 (by rw [x]; simp)
                rw [if_neg (by simp)]
                simp only [List.cons_append] at nP ⊢
                rw [if_neg he, nP]
                cases numP (e :: d3) with
                | none => rfl
                | some n => rfl
            · have f1 : cutL 125 (d2 ++ f :: r3) = d2 ++ f :: cutL 125 r3 := by rw [cutL_app m125, cutL_cons, if_neg hf125]
              have f4 : numP (cutL 125 (d2 ++ f :: r3)) = none := numP_bad (c := f) (by rw [f1]; simp) hf
              rw [f4, if_neg (by rw [f1]; simp)]
              cases d2 with
              | nil =>
                simp only [List.nil_append] at nP ⊢
                rw [if_neg hf125, nP]
                rfl
              | cons e d3 =>
                have he : e ≠ 125 := fun x => m125 (by rw [x]; simp)
                simp only [List.cons_append] at nP ⊢
                rw [if_neg he, nP]
                cases numP (e :: d3) with
                | none => rfl
                | some n =>
                  simp only [Option.map_some]
                  rw [if_neg hf125]
      · have e1 : cutL 125 (d ++ c :: r') = d ++ c :: cutL 125 r' := by rw [cutL_app n125, cutL_cons, if_neg h125]
        have e2 : cutL 44 (d ++ c :: cutL 125 r') = d ++ c :: cutL 44 (cutL 125 r') := by rw [cutL_app n44, cutL_cons, if_neg h44]
        have e3 : numP (cutL 44 (cutL 125 (d ++ c :: r'))) = none := numP_bad (c := c) (by rw [e1, e2]; simp) hc
        rw [e3]
        cases numP d with
        | none => rfl
        | some m =>
          simp only [Option.map_some]
          rw [if_neg h125, if_neg h44]
structure Bt (p : Nat) (w w' : World) : Prop where
  os : w'.os = w.os
  tape : w'.tape = w.tape
  output : w'.output = w.output
  size : w.heap.size ≤ w'.heap.size
  block : ∀ k, k < w.heap.size → k ≠ p → w'.heap[k]? = w.heap[k]?
section
variable {p : Nat} {w w' a b c : World}
theorem Bt.refl (p : Nat) (w : World) : Bt p w w := ⟨rfl, rfl, rfl, Nat.le_refl _, fun _ _ _ => rfl⟩
theorem Bt.trans (h : Bt p a b) (k : Bt p b c) : Bt p a c :=
  ⟨k.os.trans h.os, k.tape.trans h.tape, k.output.trans h.output, Nat.le_trans h.size k.size, fun i hi hp => (k.block i (Nat.lt_of_lt_of_le hi h.size) hp).trans (h.block i hi hp)⟩
theorem Bt.of (h : Below w.heap.size w w') (p : Nat) : Bt p w w' := ⟨h.os, h.tape, h.output, h.size, fun k hk _ => h.block k hk⟩
theorem Bt.up (h : Bt p w w') {B : Nat} (hB : B ≤ p) (hp : p ≤ w.heap.size) : Below B w w' := ⟨h.os, h.tape, h.output, h.size, fun k hk => h.block k (by omega) (by omega)⟩
theorem Bt.set (w : World) (p o : Nat) (u : Value) : Bt p w (w.setCell ⟨p, o, none⟩ u) := ⟨rfl, rfl, rfl, by simp [World.setCell], fun k _ hk => Below.heap_setCell w ⟨p, o, none⟩ u k hk⟩
theorem Bt.cell (h : Bt p w w') {q : Addr} (hq : q.block < w.heap.size) (hne : q.block ≠ p) : w'.cell? q = w.cell? q := World.cell?_of_block (w := w) (h.block q.block hq hne)
theorem Bt.frozen (h : Bt p w w') {q : Addr} (hq : q.block < w.heap.size) (hne : q.block ≠ p) : w'.frozen? q = w.frozen? q := World.frozen?_of_block (w := w) (h.block q.block hq hne)
theorem RgS.bt {ok : Nat → Prop} {A : Option Addr} {n c : Nat} {set : List (UInt8 × UInt8)} (h : RgS w ok A n c set) (hb : Bt p w w') (hok : ∀ g, ok g → g ≠ p) : RgS w' ok A n c set := h.map (fun _ hq hlt => hb.cell hlt (hok _ hq)) fun _ h _ => h
theorem RxV.bt {ok : Nat → Prop} {v : Value} {r : Rx} (h : RxV w ok v r) (hb : Bt p w w') (hok : ∀ g, ok g → g ≠ p) : RxV w' ok v r := h.map (fun _ hq hlt => hb.cell hlt (hok _ hq)) fun _ h _ => h
theorem owns_bt {B e : Nat} {sz n : Nat} {v : Value} {xs : List Value} (h : w.ownsRow B e sz v n xs) (hb : Bt p w w') (hp : p < B) : w'.ownsRow B e sz v n xs := by
  obtain ⟨h1, h2⟩ := h
  refine ⟨h1, ?_⟩
  rcases h2 with h2 | ⟨g, cap, cur, hv, hB, hh, r⟩
  · exact Or.inl h2
  · exact Or.inr ⟨g, cap, cur, hv, hB, (hb.block g (lt_of_block hh) (by omega)).trans hh, r⟩
theorem OwnR.bt {B : Nat} {v : Value} {l : List (UInt8 × UInt8)} (h : OwnR w B v l) (hb : Bt p w w') (hp : p < B) : OwnR w' B v l := owns_bt h hb hp
theorem OwnX.bt {B : Nat} {v : Value} {xs : List Rx} (h : OwnX w B v xs) (hb : Bt p w w') (hp : p < B) : OwnX w' B v xs := by
  obtain ⟨cs, vs, h1, h2, h3, h4⟩ := h
  exact ⟨cs, vs, owns_bt h1 hb hp, h2, h3, fun i u x hu hx => (h4 i u x hu hx).bt hb fun g hg => by omega⟩
theorem Five.bt {b : Nat} {c0 c1 c2 c3 c4 : Value} (h : Five w b c0 c1 c2 c3 c4) (hb : Bt p w w') (hne : b ≠ p) : Five w' b c0 c1 c2 c3 c4 := by
  obtain ⟨h0, h1, h2, h3, h4, h5⟩ := h
  have key : ∀ (k : Nat) (u : Value), w.cell? ⟨b, k, none⟩ = some u → w'.cell? ⟨b, k, none⟩ = some u := fun k u hu => (hb.cell (q := ⟨b, k, none⟩) h0 hne).trans hu
  exact ⟨Nat.lt_of_lt_of_le h0 hb.size, key _ _ h1, key _ _ h2, key _ _ h3, key _ _ h4, key _ _ h5⟩
theorem FiveF.bt {b : Nat} {c0 c1 c2 c3 c4 : Value} (h : FiveF w b c0 c1 c2 c3 c4) (hb : Bt p w w') (hne : b ≠ p) : FiveF w' b c0 c1 c2 c3 c4 := by
  obtain ⟨h1, f0, f1, f2, f3, f4⟩ := h
  have key : ∀ k : Nat, w'.frozen? ⟨b, k, none⟩ = w.frozen? ⟨b, k, none⟩ := fun k => hb.frozen (q := ⟨b, k, none⟩) h1.1 hne
  exact ⟨h1.bt hb hne, (key 0).trans f0, (key 1).trans f1, (key 2).trans f2, (key 3).trans f3, (key 4).trans f4⟩
end
def PB (w : World) (p : Nat) (l : List UInt8) : Prop := w.heap[p]? = some (.cells #[.string (bs l)] 77 (0, 0))
theorem PB.lt {w : World} {p : Nat} {l : List UInt8} (h : PB w p l) : p < w.heap.size := lt_of_block h
theorem PB.keep {w w' : World} {p : Nat} {l : List UInt8} (h : PB w p l) (hb : Below w.heap.size w w') : PB w' p l := (hb.block p h.lt).trans h
theorem PB.cell {w : World} {p : Nat} {l : List UInt8} (h : PB w p l) : w.cell? ⟨p, 0, none⟩ = some (.string (bs l)) := cell_of_one h
theorem PB.free {w : World} {p : Nat} {l : List UInt8} (h : PB w p l) : w.frozen? ⟨p, 0, none⟩ = false := free_of_one h
theorem PB.put {w : World} {p : Nat} {l : List UInt8} (h : PB w p l) (s : ByteArray) (m : List UInt8) (hs : s = bs m) : PB (w.setCell ⟨p, 0, none⟩ (.string s)) p m := by
  subst hs
  exact one_setCell h
def tkB (c : UInt8) : List UInt8 → Bool
  | [] => false
  | x :: _ => decide (x = c)
def tkR (c : UInt8) : List UInt8 → List UInt8
  | [] => []
  | x :: r => if x = c then r else x :: r
def tk2B (d : UInt8) : List UInt8 → Bool
  | x :: y :: _ => decide (x = 92) && decide (y = d)
  | _ => false
def tk2R (d : UInt8) (l : List UInt8) : List UInt8 := if tk2B d l then l.drop 2 else l
theorem tk_pre (c : UInt8) (l : List UInt8) : Lib.hasPrefix l [c] = tkB c l ∧ Lib.trimPrefix l [c] = tkR c l := by
  have h1 : Lib.hasPrefix l [c] = tkB c l := by
    unfold Lib.hasPrefix
    cases l with
    | nil => rfl
    | cons x r =>
      show (c == x && true) = decide (x = c)
      rw [Bool.and_true, Bool.eq_iff_iff, beq_iff_eq, decide_eq_true_eq]
      exact eq_comm
  refine ⟨h1, ?_⟩
  unfold Lib.trimPrefix
  rw [h1]
  cases l with
  | nil => rfl
  | cons x r =>
    unfold tkB tkR
    by_cases h : x = c <;> simp [h]
theorem tk_pre2 (d : UInt8) (l : List UInt8) : Lib.hasPrefix l [92, d] = tk2B d l ∧ Lib.trimPrefix l [92, d] = tk2R d l := by
  have h1 : Lib.hasPrefix l [92, d] = tk2B d l := by
    unfold Lib.hasPrefix
    match l with
    | [] => rfl
    | [x] =>
      show ((92 : UInt8) == x && List.isPrefixOf [d] []) = false
      simp
    | x :: y :: r =>
      show ((92 : UInt8) == x && (d == y && true)) = (decide (x = 92) && decide (y = d))
      rw [Bool.and_true, Bool.eq_iff_iff, Bool.and_eq_true, Bool.and_eq_true, beq_iff_eq, beq_iff_eq, decide_eq_true_eq, decide_eq_true_eq]
      exact ⟨fun h => ⟨h.1.symm, h.2.symm⟩, fun h => ⟨h.1.symm, h.2.symm⟩⟩
  refine ⟨h1, ?_⟩
  unfold Lib.trimPrefix
  rw [h1]
  rfl
set_option maxRecDepth 20000 in
theorem take55 (p : Nat) (l pre : List UInt8) (w : World) (h : PB w p l) (s : ByteArray) (hs : s = bs pre) :
    Calls Tryz.prog 90 #[.pointer (some ⟨p, 0, none⟩), .string s] w fun e w' => e = .returned (.bool (Lib.hasPrefix l pre)) ∧ PB w' p (Lib.trimPrefix l pre) ∧ Bt p w w' := by
  subst hs
  have hc := h.cell
  have hf := h.free
  have H := hide h
  have hC := Tryz.strings_CutPrefix (bs l) (bs pre) w
  rw [bs_list, bs_list] at hC
  have HC := hide hC
  obtain ⟨S, hS⟩ : ∃ S, (⟨(Lib.trimPrefix l pre).toArray⟩ : ByteArray) = S := ⟨_, rfl⟩
  obtain ⟨b, hb⟩ : ∃ b, Lib.hasPrefix l pre = b := ⟨_, rfl⟩
  rw [hS, hb] at HC
  rw [hb]
  have HS := hide (show S = bs (Lib.trimPrefix l pre) from hS.symm)
  clear hC hS hb h
  go_enter Tryz.func90, Tryz.ntmps90
  go_wp2_with fail
  with_reducible refine HC.out.mono ?_
  rintro e w2 ⟨rfl, rfl⟩
  go_wp2
  go_ret
  exact ⟨rfl, H.out.put _ _ HS.out, Bt.set _ _ _ _⟩
theorem take1 (p : Nat) (l : List UInt8) (c : UInt8) (w : World) (h : PB w p l) (s : ByteArray) (hs : s = bs [c]) :
    Calls Tryz.prog 90 #[.pointer (some ⟨p, 0, none⟩), .string s] w fun e w' => e = .returned (.bool (tkB c l)) ∧ PB w' p (tkR c l) ∧ Bt p w w' := by
  have := take55 p l [c] w h s hs
  rw [(tk_pre c l).1, (tk_pre c l).2] at this
  exact this
theorem take2 (p : Nat) (l : List UInt8) (d : UInt8) (w : World) (h : PB w p l) (s : ByteArray) (hs : s = bs [92, d]) :
    Calls Tryz.prog 90 #[.pointer (some ⟨p, 0, none⟩), .string s] w fun e w' => e = .returned (.bool (tk2B d l)) ∧ PB w' p (tk2R d l) ∧ Bt p w w' := by
  have := take55 p l [92, d] w h s hs
  rw [(tk_pre2 d l).1, (tk_pre2 d l).2] at this
  exact this
theorem bs_cons (c : UInt8) (l : List UInt8) : 0 < (bs (c :: l)).size ∧ (∀ h : 0 < (bs (c :: l)).size, (bs (c :: l))[0] = c) ∧ (bs (c :: l)).extract 1 (bs (c :: l)).size = bs l := by
  refine ⟨by rw [bs_size]; simp, fun h => ?_, ?_⟩
  · show (bs (c :: l)).data[0] = c
    simp [bs]
  · refine ba_ext ?_
    rw [toList_extract_end, bs_list, bs_list]
    rfl
set_option maxRecDepth 20000 in
theorem next130 (p : Nat) (c : UInt8) (l : List UInt8) (w : World) (h : PB w p (c :: l)) (hl : l.length ≤ 20000) :
    Calls Tryz.prog 190 #[.pointer (some ⟨p, 0, none⟩)] w fun e w' => e = .returned (.int .u8 (c.toNat : Int)) ∧ PB w' p l ∧ Bt p w w' := by
  have hc := h.cell
  have hf := h.free
  have H := hide h
  obtain ⟨h1, h2, h3⟩ := bs_cons c l
  have hsz : (bs (c :: l)).size ≤ 20001 := by rw [bs_size]; simp; omega
  obtain ⟨S, hS⟩ : ∃ S, bs (c :: l) = S := ⟨_, rfl⟩
  rw [hS] at hc hsz
  have h0 : 0 < S.size := by rw [← hS]; exact h1
  have h0' : (0 : Int) < (S.size : Int) := by omega
  have h1' : (1 : Int) ≤ (S.size : Int) := by omega
  have HS := hide (show S.extract 1 S.size = bs l by rw [← hS]; exact h3)
  have Hc := hide (show S[0] = c by subst hS; exact h2 h0)
  clear h h1 h2 h3 hS
  go_enter Tryz.func190, Tryz.ntmps190
  go_wp2
  go_ret
  exact ⟨by rw [← Hc.out]; rfl, H.out.put _ _ HS.out, Bt.set _ _ _ _⟩
def PostB (p : Nat) (w : World) (l : List UInt8) (o : Option (UInt8 × List UInt8)) (e : Ending) (w' : World) : Prop :=
  ∃ (c : UInt8) (b : Bool) (l' : List UInt8), e = .returned (.tuple #[.int .u8 (c.toNat : Int), .bool b]) ∧ PB w' p l' ∧ Bt p w w' ∧ l'.length ≤ l.length ∧ (∀ x r, o = some (x, r) → b = true ∧ c = x ∧ l' = r) ∧ (o = none → b = false)
theorem bs_nilP : bs [] = ⟨#[]⟩ := rfl
theorem bs_empty (c : UInt8) (l : List UInt8) : (bs (c :: l)).toList.isEmpty = false := not_empty _ (bs_cons c l).1
theorem bs_ne (c : UInt8) (l : List UInt8) : ¬ bs (c :: l) = (⟨#[]⟩ : ByteArray) := fun e => by
  have h1 := (bs_cons c l).1
  rw [e] at h1
  exact absurd h1 (by decide)
set_option maxRecDepth 20000 in
set_option maxHeartbeats 1600000 in
theorem escaped129 (p : Nat) (l : List UInt8) (w : World) (h : PB w p l) (hl : l.length ≤ 20000) :
    Calls Tryz.prog 187 #[.pointer (some ⟨p, 0, none⟩)] w (PostB p w l (escP l)) := by
  cases l with
  | nil =>
    have H := hide h
    have hc := h.cell
    rw [bs_nilP] at hc
    clear h
    go_enter Tryz.func187, Tryz.ntmps187
    go_wp2_with fail
    go_ret2
    exact ⟨0, false, [], rfl, H.out, Bt.refl _ _, Nat.le_refl _, fun x r h => (by cases h), fun _ => rfl⟩
  | cons d l =>
    have hc := h.cell
    have HN := hide (next130 p d l w h (by simp at hl; omega))
    have hne := bs_ne d l
    have hem := bs_empty d l
    obtain ⟨S, hS⟩ : ∃ S, bs (d :: l) = S := ⟨_, rfl⟩
    rw [hS] at hc hne hem
    have HI := hide (fun W => idx_byte ⟨#[92, 46, 42, 43, 63, 40, 41, 91, 93, 123, 125, 124, 94, 36, 45]⟩ d W)
    have Hsp := hide (show (⟨#[92, 46, 42, 43, 63, 40, 41, 91, 93, 123, 125, 124, 94, 36, 45]⟩ : ByteArray).data.toList = special ++ [45] from rfl)
    rw [Hsp.out] at HI
    have e110 : ((d.toNat : Int) == 110) = decide (d = 110) := u8_is d 110 (by decide)
    have e116 : ((d.toNat : Int) == 116) = decide (d = 116) := u8_is d 116 (by decide)
    rw [escP_cons]
    clear h hS
    by_cases h110 : d = 110
    · rw [decide_eq_true h110] at e110
      rw [if_pos h110]
      clear e116 h110
      go_enter Tryz.func187, Tryz.ntmps187
      go_wp2_with fail
      with_reducible refine HN.out.mono ?_
      rintro e w2 ⟨rfl, hp2, hb2⟩
      have P2 := hide hp2
      have B2 := hide hb2
      clear hp2 hb2
      go_wp2_with fail
      go_ret2
      exact ⟨10, true, l, rfl, P2.out, B2.out, by simp, fun x r h => (by cases h; exact ⟨rfl, rfl, rfl⟩), fun h => (by cases h)⟩
    · rw [decide_eq_false h110] at e110
      rw [if_neg h110]
      by_cases h116 : d = 116
      · rw [decide_eq_true h116] at e116
        rw [if_pos h116]
        clear h110 h116
        go_enter Tryz.func187, Tryz.ntmps187
        go_wp2_with fail
        with_reducible refine HN.out.mono ?_
        rintro e w2 ⟨rfl, hp2, hb2⟩
        have P2 := hide hp2
        have B2 := hide hb2
        clear hp2 hb2
        go_wp2_with fail
        go_ret2
        exact ⟨9, true, l, rfl, P2.out, B2.out, by simp, fun x r h => (by cases h; exact ⟨rfl, rfl, rfl⟩), fun h => (by cases h)⟩
      · rw [decide_eq_false h116] at e116
        rw [if_neg h116]
        obtain ⟨q, hq⟩ : ∃ q, decide (d ∈ special ++ [45]) = q := ⟨_, rfl⟩
        rw [hq] at HI
        obtain ⟨E, hE⟩ : ∃ E, (if d ∈ special ++ [45] then some (d, l) else none) = E := ⟨_, rfl⟩
        have Hyes := hide (show ∀ x r, E = some (x, r) → q = true ∧ d = x ∧ l = r from fun x r h => by
          by_cases hm : d ∈ special ++ [45]
          · rw [← hE, if_pos hm] at h
            cases h
            exact ⟨by rw [← hq]; exact decide_eq_true hm, rfl, rfl⟩
          · rw [← hE, if_neg hm] at h; cases h)
        have Hno := hide (show E = none → q = false from fun h => by
          by_cases hm : d ∈ special ++ [45]
          · rw [← hE, if_pos hm] at h; cases h
          · rw [← hq]; exact decide_eq_false hm)
        rw [hE]
        clear h110 h116 hq hE
        go_enter Tryz.func187, Tryz.ntmps187
        go_wp2_with fail
        with_reducible refine HN.out.mono ?_
        rintro e w2 ⟨rfl, hp2, hb2⟩
        have P2 := hide hp2
        have B2 := hide hb2
        clear hp2 hb2
        go_wp2_with fail
        with_reducible refine (HI.out _).mono ?_
        rintro e w3 ⟨z, rfl, hz, rfl⟩
        have Hz := hide hz
        clear hz
        go_wp2
        go_ret2
        exact ⟨d, q, l, by rw [← Hz.out]; rfl, P2.out, B2.out, by simp, Hyes.out, Hno.out⟩
set_option maxRecDepth 20000 in
set_option maxHeartbeats 1600000 in
theorem one116 (p : Nat) (l : List UInt8) (w : World) (h : PB w p l) (hl : l.length ≤ 20000) (s : ByteArray) (exc : List UInt8) (hs : s.data.toList = exc) :
    Calls Tryz.prog 178 #[.pointer (some ⟨p, 0, none⟩), .string s] w (PostB p w l (oneP exc l)) := by
  subst hs
  have HT := hide (take1 p l 92 w h ⟨#[92]⟩ rfl)
  cases l with
  | nil =>
    clear h
    go_enter Tryz.func178, Tryz.ntmps178
    go_wp2_with fail
    with_reducible refine HT.out.mono ?_
    rintro e w2 ⟨rfl, hp2, hb2⟩
    have hc := hp2.cell
    rw [show bs (tkR 92 []) = ⟨#[]⟩ from rfl] at hc
    have P2 := hide hp2
    have B2 := hide hb2
    have ht : tkB 92 [] = false := rfl
    clear hp2 hb2
    go_wp2_with fail
    go_ret2
    exact ⟨0, false, [], rfl, P2.out, B2.out, Nat.le_refl _, fun x r h => (by cases h), fun _ => rfl⟩
  | cons c l =>
    rw [oneP_cons]
    by_cases h92 : c = 92
    · have e1 : tkB 92 (c :: l) = true := decide_eq_true h92
      have e2 : tkR 92 (c :: l) = l := if_pos h92
      rw [e1, e2] at HT
      rw [if_pos h92]
      have HE := hide (fun W (h : PB W p l) => escaped129 p l W h (by simp at hl; omega))
      clear h e1 e2 h92
      go_enter Tryz.func178, Tryz.ntmps178
      go_wp2_with fail
      with_reducible refine HT.out.mono ?_
      rintro e w2 ⟨rfl, hp2, hb2⟩
      have P2 := hide hp2
      have B2 := hide hb2
      clear hp2 hb2
      go_wp2_with fail
      with_reducible refine (HE.out _ P2.out).mono ?_
      rintro e w3 ⟨c', b, l', rfl, hp3, hb3, hl3, hy, hn⟩
      have H3 := hide (show PB w3 p l' ∧ Bt p w2 w3 ∧ l'.length ≤ l.length ∧ (∀ x r, escP l = some (x, r) → b = true ∧ c' = x ∧ l' = r) ∧ (escP l = none → b = false) from ⟨hp3, hb3, hl3, hy, hn⟩)
      clear hp3 hb3 hl3 hy hn
      go_wp2
      go_ret2
      obtain ⟨hp3, hb3, hl3, hy, hn⟩ := H3.out
      exact ⟨c', b, l', rfl, hp3, B2.out.trans hb3, by simp; omega, hy, hn⟩
    · have e1 : tkB 92 (c :: l) = false := decide_eq_false h92
      have e2 : tkR 92 (c :: l) = c :: l := if_neg h92
      rw [e1, e2] at HT
      rw [if_neg h92]
      obtain ⟨h1, h2, h3⟩ := bs_cons c l
      have hne := bs_ne c l
      have hem := bs_empty c l
      have hsz : (bs (c :: l)).size ≤ 20000 := by rw [bs_size]; exact hl
      have HV := hide (fun W => visible108 c W)
      have HI := hide (fun W => idx_byte s c W)
      have HN := hide (fun W (h : PB W p (c :: l)) => next130 p c l W h (by simp at hl; omega))
      obtain ⟨S, hS⟩ : ∃ S, bs (c :: l) = S := ⟨_, rfl⟩
      have hcell := fun (W : World) (h : PB W p (c :: l)) => h.cell
      rw [hS] at hne hem hsz hcell
      have Hcell := hide hcell
      have h0 : 0 < S.size := by rw [← hS]; exact h1
      have h0' : (0 : Int) < (S.size : Int) := by omega
      have Hc : S[0] = c := by subst hS; exact h2 h0
      have v0 : ((S[0].toNat : Nat) : Int) = (c.toNat : Int) := by rw [Hc]
      rw [← Hc] at HV HI
      obtain ⟨vis, hvis⟩ : ∃ v, (decide ((32 : UInt8) ≤ S[0]) && decide (S[0] ≤ (126 : UInt8))) = v := ⟨_, rfl⟩
      obtain ⟨mem, hmem⟩ : ∃ m, decide (S[0] ∈ s.data.toList) = m := ⟨_, rfl⟩
      rw [hvis] at HV
      rw [hmem] at HI
      have Hs : oneP s.data.toList (c :: l) = if vis = true ∧ mem = false then some (c, l) else none := by
        rw [oneP_cons, if_neg h92]
        rw [Hc] at hvis hmem
        subst hvis hmem
        by_cases hh : 32 ≤ c ∧ c ≤ 126 ∧ ¬ c ∈ s.data.toList
        · rw [if_pos hh, if_pos]
          simp [hh.1, hh.2.1, hh.2.2]
        · rw [if_neg hh, if_neg]
          intro hx
          simp only [Bool.and_eq_true, decide_eq_true_eq, decide_eq_false_iff_not] at hx
          exact hh ⟨hx.1.1, hx.1.2, hx.2⟩
      rw [oneP_cons, if_neg h92] at Hs
      rw [Hs]
      obtain ⟨E, hE⟩ : ∃ E, (if vis = true ∧ mem = false then some (c, l) else none) = E := ⟨_, rfl⟩
      rw [hE]
      have HE := hide hE
      clear hE
      have Hc' := hide Hc
      clear h e1 e2 h92 h1 h2 h3 hS hcell Hs hvis hmem Hc v0
      cases vis with
      | false =>
        go_enter Tryz.func178, Tryz.ntmps178
        go_wp2_with fail
        with_reducible refine HT.out.mono ?_
        rintro e w2 ⟨rfl, hp2, hb2⟩
        have hc := Hcell.out _ hp2
        have P2 := hide hp2
        have B2 := hide hb2
        clear hp2 hb2
        go_wp2_with fail
        with_reducible refine (HV.out _).mono ?_
        rintro e w3 ⟨rfl, rfl⟩
        go_wp2_with fail
        go_ret2
        exact ⟨0, false, c :: l, rfl, P2.out, B2.out, Nat.le_refl _, fun x r h => (by rw [← HE.out, if_neg (by simp)] at h; cases h), fun _ => rfl⟩
      | true =>
        cases mem with
        | true =>
          go_enter Tryz.func178, Tryz.ntmps178
          go_wp2_with fail
          with_reducible refine HT.out.mono ?_
          rintro e w2 ⟨rfl, hp2, hb2⟩
          have hc := Hcell.out _ hp2
          have P2 := hide hp2
          have B2 := hide hb2
          clear hp2 hb2
          go_wp2_with fail
          with_reducible refine (HV.out _).mono ?_
          rintro e w3 ⟨rfl, rfl⟩
          go_wp2_with fail
          with_reducible refine (HI.out _).mono ?_
          rintro e w3 ⟨z, rfl, hz, rfl⟩
          have hz' : (0 : Int) ≤ z := of_decide_eq_true hz
          clear hz
          go_wp2_with fail
          go_ret2
          exact ⟨0, false, c :: l, rfl, P2.out, B2.out, Nat.le_refl _, fun x r h => (by rw [← HE.out, if_neg (by simp)] at h; cases h), fun _ => rfl⟩
        | false =>
          go_enter Tryz.func178, Tryz.ntmps178
          go_wp2_with fail
          with_reducible refine HT.out.mono ?_
          rintro e w2 ⟨rfl, hp2, hb2⟩
          have hc := Hcell.out _ hp2
          have P2 := hide hp2
          have B2 := hide hb2
          clear hp2 hb2
          go_wp2_with fail
          with_reducible refine (HV.out _).mono ?_
          rintro e w3 ⟨rfl, rfl⟩
          go_wp2_with fail
          with_reducible refine (HI.out _).mono ?_
          rintro e w3 ⟨z, rfl, hz, rfl⟩
          have hz' : ¬ (0 : Int) ≤ z := of_decide_eq_false hz
          clear hz
          go_wp2_with fail
          with_reducible refine (HN.out _ P2.out).mono ?_
          rintro e w4 ⟨rfl, hp4, hb4⟩
          have P4 := hide hp4
          have B4 := hide (B2.out.trans hb4)
          clear hp4 hb4
          go_wp2
          go_ret2
          exact ⟨c, true, l, rfl, P4.out, B4.out, by simp, fun x r h => (by rw [← HE.out, if_pos (by simp)] at h; cases h; exact ⟨rfl, rfl, rfl⟩), fun h => (by rw [← HE.out, if_pos (by simp)] at h; cases h)⟩
def PostC (p : Nat) (w : World) (l : List UInt8) (o : Option (List (UInt8 × UInt8) × List UInt8)) (e : Ending) (w' : World) : Prop :=
  Bt p w w' ∧ match o with
  | none => e = .returned (.slice none 0 0) ∧ PB w' p l
  | some (x, r) => ∃ g : Nat, e = .returned (.slice (some ⟨g, 0, none⟩) x.length x.length) ∧ OwnR w' w.heap.size (.slice (some ⟨g, 0, none⟩) x.length x.length) x ∧ PB w' p r
theorem ownR_mk (w : World) (cs : Array Value) (l : List (UInt8 × UInt8)) (n : Nat) (h : cs.toList = rgCells l) (hn : l.length = n) (hl : n ≤ 1000) : OwnR (w.alloc (.cells cs 88)) w.heap.size (.slice (some ⟨w.heap.size, 0, none⟩) n n) l := ownR_lit w cs l n h hn hl
set_option maxRecDepth 20000 in
set_option maxHeartbeats 1600000 in
theorem class115 (p : Nat) (l : List UInt8) (w : World) (h : PB w p l) :
    Calls Tryz.prog 177 #[.pointer (some ⟨p, 0, none⟩)] w (PostC p w l (classP l)) := by
  have H1 := hide (fun W (h : PB W p l) => take2 p l 100 W h ⟨#[92, 100]⟩ rfl)
  have H2 := hide (fun W (h : PB W p l) => take2 p l 119 W h ⟨#[92, 119]⟩ rfl)
  have H := hide h
  by_cases hd : tk2B 100 l = true
  · have hr : ∃ r, tk2R 100 l = r ∧ classP l = some ([(48, 57)], r) := by
      match l, hd with
      | x :: y :: r, hd =>
        have hd' := hd
        simp only [tk2B, Bool.and_eq_true, decide_eq_true_eq] at hd'
        obtain ⟨rfl, rfl⟩ := hd'
        exact ⟨r, by unfold tk2R; rw [hd]; rfl, rfl⟩
    obtain ⟨r, hr1, hr2⟩ := hr
    rw [hd, hr1] at H1
    rw [hr2]
    clear hd hr1 hr2 h
    go_enter Tryz.func177, Tryz.ntmps177
    go_wp2_with fail
    with_reducible refine (H1.out _ H.out).mono ?_
    rintro e w2 ⟨rfl, hp2, hb2⟩
    have hba := bnew (Below.refl _ w2) (.cells #[.int .u8 48, .int .u8 57] 88)
    have P3 := hide (hp2.keep hba)
    have B3 := hide (hb2.trans (Bt.of hba p))
    have O3 := hide ((ownR_mk w2 #[.int .u8 48, .int .u8 57] [(48, 57)] 1 rfl rfl (by decide)).mono hb2.size)
    clear hp2 hb2 hba
    go_wp2
    go_ret
    exact ⟨B3.out, w2.heap.size, rfl, O3.out, P3.out⟩
  · have hd' : tk2B 100 l = false := by simpa using hd
    have hr1 : tk2R 100 l = l := by unfold tk2R; rw [hd']; rfl
    rw [hd', hr1] at H1
    by_cases hw : tk2B 119 l = true
    · have hr : ∃ r, tk2R 119 l = r ∧ classP l = some (wset, r) := by
        match l, hw with
        | x :: y :: r, hw =>
          have hw' := hw
          simp only [tk2B, Bool.and_eq_true, decide_eq_true_eq] at hw'
          obtain ⟨rfl, rfl⟩ := hw'
          exact ⟨r, by unfold tk2R; rw [hw]; rfl, rfl⟩
      obtain ⟨r, hr2, hr3⟩ := hr
      rw [hw, hr2] at H2
      rw [hr3]
      clear hd hd' hr1 hr2 hr3 h hw
      go_enter Tryz.func177, Tryz.ntmps177
      go_wp2_with fail
      with_reducible refine (H1.out _ H.out).mono ?_
      rintro e w2 ⟨rfl, hp2, hb2⟩
      have P2 := hide hp2
      have B2 := hide hb2
      clear hp2 hb2
      go_wp2_with fail
      with_reducible refine (H2.out _ P2.out).mono ?_
      rintro e w3 ⟨rfl, hp3, hb3⟩
      have hba := bnew (Below.refl _ w3) (.cells #[.int .u8 48, .int .u8 57, .int .u8 65, .int .u8 90, .int .u8 95, .int .u8 95, .int .u8 97, .int .u8 122] 88)
      have hB3 := B2.out.trans hb3
      have P4 := hide (hp3.keep hba)
      have B4 := hide (hB3.trans (Bt.of hba p))
      have O4 := hide ((ownR_mk w3 #[.int .u8 48, .int .u8 57, .int .u8 65, .int .u8 90, .int .u8 95, .int .u8 95, .int .u8 97, .int .u8 122] wset 4 rfl rfl (by decide)).mono hB3.size)
      clear hp3 hb3 hba hB3
      go_wp2
      go_ret
      exact ⟨B4.out, w3.heap.size, rfl, O4.out, P4.out⟩
    · have hw' : tk2B 119 l = false := by simpa using hw
      have hr2 : tk2R 119 l = l := by unfold tk2R; rw [hw']; rfl
      have hn : classP l = none := by
        match l, hd', hw' with
        | [], _, _ => rfl
        | [x], _, _ => rfl
        | x :: y :: r, hd', hw' =>
          simp only [tk2B, Bool.and_eq_false_iff, decide_eq_false_iff_not] at hd' hw'
          rw [classP_two, if_neg, if_neg]
          · rintro ⟨a, b⟩; rcases hw' with h | h; exact h a; exact h b
          · rintro ⟨a, b⟩; rcases hd' with h | h; exact h a; exact h b
      rw [hw', hr2] at H2
      rw [hn]
      clear hd hd' hr1 hr2 h hw hw' hn
      go_enter Tryz.func177, Tryz.ntmps177
      go_wp2_with fail
      with_reducible refine (H1.out _ H.out).mono ?_
      rintro e w2 ⟨rfl, hp2, hb2⟩
      have P2 := hide hp2
      have B2 := hide hb2
      clear hp2 hb2
      go_wp2_with fail
      with_reducible refine (H2.out _ P2.out).mono ?_
      rintro e w3 ⟨rfl, hp3, hb3⟩
      have P3 := hide hp3
      have B3 := hide (B2.out.trans hb3)
      clear hp3 hb3
      go_wp2
      go_ret
      exact ⟨B3.out, rfl, P3.out⟩
def PostE (p : Nat) (w : World) (l : List UInt8) (o : Option (List (UInt8 × UInt8) × List UInt8)) (e : Ending) (w' : World) : Prop :=
  ∃ (g : Nat) (b : Bool) (set : List (UInt8 × UInt8)) (l' : List UInt8), e = .returned (.tuple #[.slice (some ⟨g, 0, none⟩) set.length set.length, .bool b]) ∧ OwnR w' w.heap.size (.slice (some ⟨g, 0, none⟩) set.length set.length) set ∧ set.length ≤ 4 ∧
    PB w' p l' ∧ Bt p w w' ∧ l'.length ≤ l.length ∧ (∀ x r, o = some (x, r) → b = true ∧ set = x ∧ l' = r) ∧ (o = none → b = false)
def OneF (exc l : List UInt8) (c : UInt8) (b : Bool) (l' : List UInt8) : Prop := l'.length ≤ l.length ∧ (∀ x r, oneP exc l = some (x, r) → b = true ∧ c = x ∧ l' = r) ∧ (oneP exc l = none → b = false)
theorem OneF.no {exc l : List UInt8} {c : UInt8} {l' : List UInt8} (h : OneF exc l c false l') : oneP exc l = none := by
  cases ho : oneP exc l with
  | none => rfl
  | some q => exact absurd (h.2.1 q.1 q.2 ho).1 (by simp)
theorem OneF.yes {exc l : List UInt8} {c : UInt8} {l' : List UInt8} (h : OneF exc l c true l') : oneP exc l = some (c, l') := by
  cases ho : oneP exc l with
  | none => exact absurd (h.2.2 ho) (by simp)
  | some q =>
    obtain ⟨_, h1, h2⟩ := h.2.1 q.1 q.2 ho
    rw [h1, h2]
theorem elem_no {l : List UInt8} (hc : classP l = none) (ho : oneP inSet l = none) : elemP l = none := by unfold elemP; rw [hc, ho]
theorem elem_one {l : List UInt8} {c : UInt8} {l1 : List UInt8} (hc : classP l = none) (ho : oneP inSet l = some (c, l1)) (ht : tkB 45 l1 = false) : elemP l = some ([(c, c)], l1) ∧ tkR 45 l1 = l1 := by
  unfold elemP
  rw [hc, ho]
  cases l1 with
  | nil => exact ⟨rfl, rfl⟩
  | cons x r =>
    have hx : ¬ x = 45 := of_decide_eq_false ht
    refine ⟨?_, if_neg hx⟩
    show hyphP c (x :: r) = _
    rw [hyphP_cons, if_neg hx]
theorem elem_two {l : List UInt8} {c : UInt8} {l1 : List UInt8} (hc : classP l = none) (ho : oneP inSet l = some (c, l1)) (ht : tkB 45 l1 = true) :
    elemP l = match oneP inSet (tkR 45 l1) with | none => none | some (h, q) => if c ≤ h then some ([(c, h)], q) else none := by
  unfold elemP
  rw [hc, ho]
  cases l1 with
  | nil => cases ht
  | cons x r =>
    have hx : x = 45 := of_decide_eq_true ht
    show hyphP c (x :: r) = _
    rw [hyphP_cons, if_pos hx, show tkR 45 (x :: r) = r from if_pos hx]
theorem tkR_len (c : UInt8) (l : List UInt8) : (tkR c l).length ≤ l.length := by
  cases l with
  | nil => exact Nat.le_refl _
  | cons x r =>
    show (if x = c then r else x :: r).length ≤ _
    split <;> simp
set_option maxRecDepth 20000 in
set_option maxHeartbeats 3200000 in
theorem elem127 (p : Nat) (l : List UInt8) (w : World) (h : PB w p l) (hl : l.length ≤ 20000) :
    Calls Tryz.prog 185 #[.pointer (some ⟨p, 0, none⟩)] w (PostE p w l (elemP l)) := by
  have HC := hide (class115 p l w h)
  obtain ⟨E, hE⟩ : ∃ E, elemP l = E := ⟨_, rfl⟩
  rw [hE]
  cases hcl : classP l with
  | some y =>
    obtain ⟨x, r⟩ := y
    have hEE : E = some (x, r) := by rw [← hE]; unfold elemP; rw [hcl]
    have HE := hide hEE
    rw [hcl] at HC
    have hxl : x.length ≤ 4 := by
      match l, hcl with
      | [], hy => cases hy
      | [a], hy => cases hy
      | a :: b :: l, hy =>
        rw [classP_two] at hy
        by_cases h1 : a = 92 ∧ b = 100
        · rw [if_pos h1] at hy; cases hy; simp
        · rw [if_neg h1] at hy
          by_cases h2 : a = 92 ∧ b = 119
          · rw [if_pos h2] at hy; cases hy; simp [wset]
          · rw [if_neg h2] at hy; cases hy
    have hrl := classP_len hcl
    have Hrl := hide (show r.length ≤ l.length by omega)
    clear h hE hcl hEE hrl
    go_enter Tryz.func185, Tryz.ntmps185
    go_wp2_with fail
    with_reducible refine HC.out.mono ?_
    rintro e w2 ⟨hb2, g, rfl, ho2, hp2⟩
    have B2 := hide hb2
    have O2 := hide ho2
    have P2 := hide hp2
    clear hb2 ho2 hp2
    go_wp2_with fail
    go_ret2
    exact ⟨g, true, x, r, rfl, O2.out, hxl, P2.out, B2.out, Hrl.out, fun x' r' h => (by rw [HE.out] at h; cases h; exact ⟨rfl, rfl, rfl⟩), fun h => (by rw [HE.out] at h; cases h)⟩
  | none =>
    rw [hcl] at HC
    have H1 := hide (fun W (h : PB W p l) => one116 p l W h hl ⟨#[92, 91, 93, 94, 45]⟩ inSet rfl)
    have H2 := hide (fun W l1 (h : PB W p l1) (hl1 : l1.length ≤ l.length) => one116 p l1 W h (by omega) ⟨#[92, 91, 93, 94, 45]⟩ inSet rfl)
    have HTk := hide (fun W l1 (h : PB W p l1) => take1 p l1 45 W h ⟨#[45]⟩ rfl)
    have HEl := hide hE
    have HCl := hide hcl
    clear h hE hcl
    go_enter Tryz.func185, Tryz.ntmps185
    go_wp2_with fail
    with_reducible refine HC.out.mono ?_
    rintro e w2 ⟨hb2, rfl, hp2⟩
    have B2 := hide hb2
    have P2 := hide hp2
    clear hb2 hp2
    go_wp2_with fail
    with_reducible refine (H1.out _ P2.out).mono ?_
    rintro e w3 ⟨c1, b1, l1, rfl, hp3, hb3, hl3, hy3, hn3⟩
    have O1 := hide (show OneF inSet l c1 b1 l1 from ⟨hl3, hy3, hn3⟩)
    have P3 := hide hp3
    have B3 := hide (B2.out.trans hb3)
    clear hp3 hb3 hl3 hy3 hn3
    go_wp2_with fail
    with_reducible refine (HTk.out _ _ P3.out).mono ?_
    obtain ⟨tt, htt⟩ : ∃ tt, tkB 45 l1 = tt := ⟨_, rfl⟩
    rw [htt]
    have Htt := hide htt
    clear htt
    rintro e w4 ⟨rfl, hp4, hb4⟩
    have P4 := hide hp4
    have B4 := hide (B3.out.trans hb4)
    clear hp4 hb4
    have key : ∀ (w5 : World) (h : UInt8) (l5 : List UInt8), PB w5 p l5 → Bt p w w5 → PB (w5.alloc (.cells #[.int .u8 (c1.toNat : Int), .int .u8 (h.toNat : Int)] 88)) p l5 ∧ Bt p w (w5.alloc (.cells #[.int .u8 (c1.toNat : Int), .int .u8 (h.toNat : Int)] 88)) ∧
        OwnR (w5.alloc (.cells #[.int .u8 (c1.toNat : Int), .int .u8 (h.toNat : Int)] 88)) w.heap.size (.slice (some ⟨w5.heap.size, 0, none⟩) 1 1) [(c1, h)] := fun w5 h l5 hp hb => by
      have hba := bnew (Below.refl _ w5) (.cells #[.int .u8 (c1.toNat : Int), .int .u8 (h.toNat : Int)] 88)
      exact ⟨hp.keep hba, hb.trans (Bt.of hba p), (ownR_mk w5 #[.int .u8 (c1.toNat : Int), .int .u8 (h.toNat : Int)] [(c1, h)] 1 rfl rfl (by decide)).mono hb.size⟩
    have Key := hide key
    clear key
    cases tt with
    | false =>
      obtain ⟨P5, B5, O5⟩ := Key.out w4 c1 _ P4.out B4.out
      have P5 := hide P5
      have B5 := hide B5
      have O5 := hide O5
      cases b1 with
      | false =>
        go_wp2_with fail
        go_ret2
        exact ⟨w4.heap.size, false, [(c1, c1)], _, rfl, O5.out, (by simp), P5.out, B5.out, Nat.le_trans (tkR_len 45 l1) O1.out.1, fun x r h => (by rw [← HEl.out, elem_no HCl.out O1.out.no] at h; cases h), fun _ => rfl⟩
      | true =>
        have l1 : (c1.toNat : Int) ≤ (c1.toNat : Int) := Int.le_refl _
        go_wp2_with fail
        go_ret2
        obtain ⟨f1, f2⟩ := elem_one HCl.out O1.out.yes Htt.out
        exact ⟨w4.heap.size, true, [(c1, c1)], _, rfl, O5.out, (by simp), P5.out, B5.out, Nat.le_trans (tkR_len 45 _) O1.out.1, fun x r h => (by rw [← HEl.out, f1] at h; cases h; exact ⟨rfl, rfl, f2⟩), fun h => (by rw [← HEl.out, f1] at h; cases h)⟩
    | true =>
      have Hlt := hide (show (tkR 45 l1).length ≤ l.length from Nat.le_trans (tkR_len 45 l1) O1.out.1)
      go_wp2_with fail
      with_reducible refine (H2.out _ _ P4.out Hlt.out).mono ?_
      rintro e w5 ⟨c2, b2, l2, rfl, hp5, hb5, hl5, hy5, hn5⟩
      have O2 := hide (show OneF inSet (tkR 45 l1) c2 b2 l2 from ⟨hl5, hy5, hn5⟩)
      have hb5' := B4.out.trans hb5
      obtain ⟨P6, B6, O6⟩ := Key.out w5 c2 _ hp5 hb5'
      have P6 := hide P6
      have B6 := hide B6
      have O6 := hide O6
      have Hl2 := hide (Nat.le_trans hl5 Hlt.out)
      clear hp5 hb5 hl5 hy5 hn5 hb5'
      cases b1 with
      | false =>
        go_wp2_with fail
        go_ret2
        exact ⟨w5.heap.size, false, [(c1, c2)], _, rfl, O6.out, (by simp), P6.out, B6.out, Hl2.out, fun x r h => (by rw [← HEl.out, elem_no HCl.out O1.out.no] at h; cases h), fun _ => rfl⟩
      | true =>
        cases b2 with
        | false =>
          go_wp2_with fail
          go_ret2
          exact ⟨w5.heap.size, false, [(c1, c2)], _, rfl, O6.out, (by simp), P6.out, B6.out, Hl2.out, fun x r h => (by rw [← HEl.out, elem_two HCl.out O1.out.yes Htt.out, O2.out.no] at h; cases h), fun _ => rfl⟩
        | true =>
          obtain ⟨q, hq⟩ : ∃ q, decide (c1.toNat ≤ c2.toNat) = q := ⟨_, rfl⟩
          have hq1 : decide ((c1.toNat : Int) ≤ (c2.toNat : Int)) = q := by rw [← hq]; exact decide_eq_decide.2 (by omega)
          have HF := hide (show elemP l = if q = true then some ([(c1, c2)], l2) else none by
            rw [elem_two HCl.out O1.out.yes Htt.out, O2.out.yes]
            show (if c1 ≤ c2 then some ([(c1, c2)], l2) else none) = _
            by_cases hle : c1 ≤ c2
            · rw [if_pos hle, if_pos (by rw [← hq]; exact decide_eq_true (UInt8.le_iff_toNat_le.1 hle))]
            · rw [if_neg hle, if_neg (by rw [← hq]; intro e; exact hle (UInt8.le_iff_toNat_le.2 (of_decide_eq_true e)))])
          have hq2 : decide (c1 ≤ c2) = q := by rw [← hq]; exact decide_eq_decide.2 UInt8.le_iff_toNat_le
          go_wp2_with fail
          go_ret2
          refine ⟨w5.heap.size, q, [(c1, c2)], _, ?_, O6.out, (by simp), P6.out, B6.out, Hl2.out, fun x r h => ?_, fun h => ?_⟩
          · rw [← hq]
            first | rfl | simp [hq, hq1, hq2]
          · rw [← HEl.out, HF.out] at h
            cases q with
            | false => simp at h
            | true => simp at h; exact ⟨rfl, h.1, h.2⟩
          · rw [← HEl.out, HF.out] at h
            cases q with
            | false => rfl
            | true => simp at h
theorem run128 (xs : Array Value) (W : World) : (callFunc 186 xs).run Tryz.prog W = .ok (.enter 186 xs) W := by kernel_rfl
set_option maxRecDepth 20000 in
set_option maxHeartbeats 1600000 in
theorem clo128 {W : World} {ok : Nat → Prop} {A : Option Addr} {n d : Nat} {set : List (UInt8 × UInt8)} (x : UInt8) (z : Int) (hz : z = (x.toNat : Int)) (ba bn : Nat) (ng : Bool) (hc : W.cell? ⟨ba, 0, none⟩ = some (.slice A n d)) (hn : W.cell? ⟨bn, 0, none⟩ = some (.bool ng)) (h : RgS W ok A n d set) :
    Calls Tryz.prog 186 #[.int .u8 z, .pointer (some ⟨ba, 0, none⟩), .pointer (some ⟨bn, 0, none⟩)] W fun e w' => e = .returned (.bool (hasS set x != ng)) ∧ Below W.heap.size W w' := by
  subst hz
  have HC := hide (fun X (hb : Below W.heap.size W X) => phas72 (h.below hb) x _ rfl)
  obtain ⟨q, hq⟩ : ∃ q, hasS set x = q := ⟨_, rfl⟩
  rw [hq] at HC ⊢
  have HK := hide (show ∀ X, Below W.heap.size W X → X.cell? ⟨ba, 0, none⟩ = some (.slice A n d) ∧ X.cell? ⟨bn, 0, none⟩ = some (.bool ng) ∧ Below W.heap.size W X from fun X hb => ⟨(hb.cell (p := ⟨ba, 0, none⟩) (World.block_lt_of_cell? _ _ hc)).trans hc, (hb.cell (p := ⟨bn, 0, none⟩) (World.block_lt_of_cell? _ _ hn)).trans hn, hb⟩)
  have HKs := hide (show ∀ X Y, (X.cell? ⟨ba, 0, none⟩ = some (.slice A n d) ∧ X.cell? ⟨bn, 0, none⟩ = some (.bool ng) ∧ Below W.heap.size W X) → Below X.heap.size X Y → Y.cell? ⟨ba, 0, none⟩ = some (.slice A n d) ∧ Y.cell? ⟨bn, 0, none⟩ = some (.bool ng) ∧ Below W.heap.size W Y from fun X Y h hb => HK.out Y (bgo h.2.2 hb))
  have HK0 := hide (show ∀ X, (X.cell? ⟨ba, 0, none⟩ = some (.slice A n d) ∧ X.cell? ⟨bn, 0, none⟩ = some (.bool ng) ∧ Below W.heap.size W X) → Below W.heap.size W X from fun X h => h.2.2)
  have HS0 := hide (bel_drew W)
  clear h hq
  go_enter Tryz.func186, Tryz.ntmps186
  go_wp2_with fail
  go_region_held3 (fun w' => w'.cell? ⟨ba, 0, none⟩ = some (.slice A n d) ∧ w'.cell? ⟨bn, 0, none⟩ = some (.bool ng) ∧ Below W.heap.size W w')
    (first | exact HK.out _ HS0.out | exact HKs.out _ _ (by assumption) hb4)
    (first
      | (go_at_call 49; with_reducible refine (HC.out _ (HK0.out _ ?_)).mono ?_; assumption; rintro e w4 ⟨rfl, hb4⟩))
  all_goals
    have Bf := HK0.out _ (by assumption)
    go_wp2
    go_ret
    exact ⟨rfl, Bf⟩
def PostT (p : Nat) (w : World) (l : List UInt8) (o : Option (List (UInt8 × UInt8) × List UInt8)) (e : Ending) (w' : World) : Prop :=
  ∃ (A : Option Addr) (n c : Nat) (b : Bool) (set : List (UInt8 × UInt8)) (l' : List UInt8), e = .returned (.tuple #[.slice A n c, .bool b]) ∧ RgS w' (fun g => w.heap.size ≤ g) A n c set ∧
    PB w' p l' ∧ Bt p w w' ∧ l'.length ≤ l.length ∧ (∀ x r, o = some (x, r) → b = true ∧ set = x ∧ l' = r) ∧ (o = none → b = false)
theorem setP_tk (l : List UInt8) : setP l = (elemsP ((tkR 94 l).length + 1) [] (tkR 94 l)).map fun q => (rangesS q.1 (tkB 94 l), q.2) := by
  unfold setP
  cases l with
  | nil => rfl
  | cons x r =>
    by_cases h : x = 94
    · subst h; rfl
    · rw [if_neg (by simp [h])]
      have e1 : tkR 94 (x :: r) = x :: r := if_neg h
      have e2 : tkB 94 (x :: r) = false := decide_eq_false h
      rw [e1, e2]
theorem elems_step (k : Nat) (acc : List (UInt8 × UInt8)) (l : List UInt8) : elemsP (k + 1) acc l = match elemP l with | none => none | some (x, r) => if tkB 93 r = true then some (acc ++ x, tkR 93 r) else elemsP k (acc ++ x) r := by
  show (match elemP l with
    | none => none
    | some (x, r) =>
      match r with
      | [] => elemsP k (acc ++ x) []
      | c :: r' => if c = 93 then some (acc ++ x, r') else elemsP k (acc ++ x) (c :: r')) = _
  cases elemP l with
  | none => rfl
  | some q =>
    obtain ⟨x, r⟩ := q
    cases r with
    | nil => rfl
    | cons c r' =>
      show (if c = 93 then some (acc ++ x, r') else elemsP k (acc ++ x) (c :: r')) = if decide (c = 93) = true then some (acc ++ x, if c = 93 then r' else c :: r') else elemsP k (acc ++ x) (c :: r')
      by_cases h : c = 93
      · rw [if_pos h, if_pos (decide_eq_true h), if_pos h]
      · rw [if_neg h, if_neg (by simp [h])]
theorem tk_no {c : UInt8} {l : List UInt8} (h : tkB c l = false) : tkR c l = l := by
  cases l with
  | nil => rfl
  | cons x r => exact if_neg (of_decide_eq_false h)
theorem tk_yes {c : UInt8} {l : List UInt8} (h : tkB c l = true) : (tkR c l).length + 1 = l.length := by
  cases l with
  | nil => cases h
  | cons x r =>
    rw [show tkR c (x :: r) = r from if_pos (of_decide_eq_true h)]
    rfl
theorem Bt.then_below {p B : Nat} {a b c : World} (h : Bt p a b) (k : Below B b c) (hB : a.heap.size ≤ B) : Bt p a c :=
  ⟨k.os.trans h.os, k.tape.trans h.tape, k.output.trans h.output, Nat.le_trans h.size k.size, fun i hi hp => (k.block i (by omega)).trans (h.block i hi hp)⟩
def restN (p : Nat) (w : World) : Nat := match w.cell? ⟨p, 0, none⟩ with | some (.string s) => s.size | _ => 0
theorem PB.rest {w : World} {p : Nat} {l : List UInt8} (h : PB w p l) : restN p w = l.length := by
  unfold restN
  rw [h.cell]
  exact bs_size l
theorem ownR_get {W : World} {B g n c : Nat} {l : List (UInt8 × UInt8)} (h : OwnR W B (.slice (some ⟨g, 0, none⟩) n c) l) : ∀ j u, (rgCells l)[j]? = some u → W.cell? ((⟨g, 0, none⟩ : Addr).add j) = some u := World.ownsRow.cells h rfl
set_option maxRecDepth 100000 in
set_option maxHeartbeats 6400000 in
theorem elems114 (p : Nat) (l : List UInt8) (w : World) (h : PB w p l) (hl : l.length ≤ 20000) :
    Calls Tryz.prog 176 #[.pointer (some ⟨p, 0, none⟩)] w (PostT p w l (setP l)) := by
  obtain ⟨i0, hi, hz0, hz1, hz2⟩ := info_parts infoR
  have HT := hide (take1 p l 94 w h ⟨#[94]⟩ rfl)
  have hlt := h.lt
  obtain ⟨E0, hE0⟩ : ∃ E0, elemsP ((tkR 94 l).length + 1) [] (tkR 94 l) = E0 := ⟨_, rfl⟩
  obtain ⟨ng, hng⟩ : ∃ ng, tkB 94 l = ng := ⟨_, rfl⟩
  rw [hng] at HT
  have hE := setP_tk l
  rw [hE0, hng] at hE
  rw [hE]
  obtain ⟨E, hEE⟩ : ∃ E, E0.map (fun q : List (UInt8 × UInt8) × List UInt8 => (rangesS q.1 ng, q.2)) = E := ⟨_, rfl⟩
  rw [hEE]
  have HEE := hide hEE
  have HE0 := hide hE0
  have hr0 := tkR_len 94 l
  obtain ⟨L0, hL0⟩ : ∃ L0, tkR 94 l = L0 := ⟨_, rfl⟩
  rw [hL0] at HE0 hr0 HT
  clear h hE hEE hE0 hng hL0
  go_enter Tryz.func176, Tryz.ntmps176
  go_wp2_with fail
  with_reducible refine HT.out.mono ?_
  rintro e w1 ⟨rfl, hp1, hb1⟩
  obtain ⟨wa, hwa⟩ : ∃ wa, w1.alloc (.cells #[.bool ng] 4) = wa := ⟨_, rfl⟩
  have hba : Below w1.heap.size w1 wa := by rw [← hwa]; exact bnew (Below.refl _ w1) _
  have hsa : wa.heap.size = w1.heap.size + 1 := by rw [← hwa]; simp
  have hna : wa.heap[w1.heap.size]? = some (.cells #[.bool ng] 4 (0, 0)) := by rw [← hwa]; exact heap_alloc_new w1 _
  obtain ⟨w2, hw2⟩ : ∃ w2, wa.alloc (.cells #[.slice none 0 0] 22) = w2 := ⟨_, rfl⟩
  have hbb : Below wa.heap.size wa w2 := by rw [← hw2]; exact bnew (Below.refl _ wa) _
  have hn2 : w2.heap[wa.heap.size]? = some (.cells #[.slice none 0 0] 22 (0, 0)) := by rw [← hw2]; exact heap_alloc_new wa _
  have hn1 : w2.heap[w1.heap.size]? = some (.cells #[.bool ng] 4 (0, 0)) := (hbb.block _ (by omega)).trans hna
  have hB2 := hb1.trans (Bt.of (bgo hba hbb) p)
  have hs1 := hb1.size
  have hp2 : PB w2 p L0 := (hp1.keep hba).keep hbb
  have P2 := hide hp2
  have B2 := hide hB2
  have N1 := hide hn1
  have N2 := hide hn2
  have Hsa := hide hsa
  have hpl : p < w1.heap.size := by omega
  clear hp1 hb1 hba hna hbb hn1 hn2 hB2 hp2 hsa
  go_wp2_with fail
  go_loopw [6] (fun u wr => ∃ (n : Nat) (acc : List (UInt8 × UInt8)) (l' : List UInt8) (v : Value), PB wr p l' ∧ wr.heap[w1.heap.size]? = some (.cells #[.bool ng] 4 (0, 0)) ∧ wr.heap[wa.heap.size]? = some (.cells #[v] 22 (0, 0)) ∧ OwnR wr (wa.heap.size + 1) v acc ∧ Bt p w wr ∧ w2.heap.size ≤ wr.heap.size ∧
    elemsP n acc l' = E0 ∧ l'.length < n ∧ acc.length + 4 * l'.length ≤ 4 * L0.length) (fun _ wr => restN p wr)
  case atStart => exact ⟨L0.length + 1, [], L0, .slice none 0 0, P2.out, N1.out, N2.out, World.ownsRow_nil _ _ _ _, B2.out, Nat.le_refl _, HE0.out, by omega, by simp⟩
  case round =>
    obtain ⟨n, acc, l', v, hp, hbn, hbo, ho, hb, hsz, he, hf, hacc⟩ := hrel
    obtain ⟨w3, hw3⟩ : ∃ w3, w3 = wr := ⟨wr, rfl⟩
    subst hw3
    obtain ⟨k, rfl⟩ : ∃ k, n = k + 1 := ⟨n - 1, by omega⟩
    have hll : l'.length ≤ l.length := by omega
    have HX := hide (elem127 p l' w3 hp (by omega))
    have Hrest := hide hp.rest
    rw [elems_step] at he
    have hsa := Hsa.out
    have hs2 : w1.heap.size + 2 ≤ w3.heap.size := by
      have := lt_of_block hbo
      omega
    obtain ⟨ee, hee⟩ : ∃ ee, elemP l' = ee := ⟨_, rfl⟩
    rw [hee] at he HX
    have He := hide he
    have Hee := hide hee
    have Hbn := hide hbn
    have Hbo := hide hbo
    have Ho := hide ho
    have Hb := hide hb
    have Hsz := hide hsz
    clear hp he hee hbn hbo ho hb hsz Hsa P2 B2 N1 N2 HE0
    go_wp2_with fail
    with_reducible refine HX.out.mono ?_
    rintro e w4 ⟨g, b, set, l1, rfl, ho4, hs4, hp4, hb4, hl4, hy4, hn4⟩
    have hs34 := hb4.size
    have Hbn4 := hide ((hb4.block w1.heap.size (by omega) (by omega)).trans Hbn.out)
    have Hbo4 := hide ((hb4.block wa.heap.size (by omega) (by omega)).trans Hbo.out)
    have Ho4 := hide (Ho.out.bt hb4 (by omega))
    have Hb4 := hide (Hb.out.trans hb4)
    have Hp4 := hide hp4
    have X4 := hide ho4
    have Hsz4 := hide (Nat.le_trans Hsz.out hs34)
    cases b with
    | false =>
      have hnn : ee = none := by
        cases ee with
        | none => rfl
        | some q => exact absurd (hy4 q.1 q.2 rfl).1 (by simp)
      have HEn := hide (show E = none by rw [← HEE.out, ← He.out, hnn]; rfl)
      clear hb4 hp4 ho4 hy4 hn4 hnn
      clear hsa
      go_wp2
      go_ret2
      exact ⟨none, 0, 0, false, [], l1, rfl, RgS.nil _ _, Hp4.out, Hb4.out, by omega, fun x r h => (by rw [HEn.out] at h; cases h), fun _ => rfl⟩
    | true =>
      have hss : ee = some (set, l1) := by
        cases ee with
        | none => exact absurd (hn4 rfl) (by simp)
        | some q =>
          obtain ⟨_, h1, h2⟩ := hy4 q.1 q.2 rfl
          rw [h1, h2]
      have hlt1 : l1.length < l'.length := elemP_len (Hee.out.trans hss)
      have he' : (if tkB 93 l1 = true then some (acc ++ set, tkR 93 l1) else elemsP k (acc ++ set) l1) = E0 := by rw [← He.out, hss]
      have HT2 := hide (fun W (h : PB W p l1) => take1 p l1 93 W h ⟨#[93]⟩ rfl)
      have Ht0 := hide (fun h : tkB 93 l1 = false => tk_no h)
      have hr1 := tkR_len 93 l1
      obtain ⟨tt, htt⟩ : ∃ tt, tkB 93 l1 = tt := ⟨_, rfl⟩
      obtain ⟨l2, hl2⟩ : ∃ l2, tkR 93 l1 = l2 := ⟨_, rfl⟩
      rw [htt, hl2] at he' HT2 Ht0
      rw [hl2] at hr1
      have He' := hide he'
      have Hsa := hide hsa
      have hcv : w4.cell? ⟨wa.heap.size, 0, none⟩ = some v := cell_of_one Hbo4.out
      have hwl4 : wa.heap.size + 1 ≤ w4.heap.size := lt_of_block Hbo4.out
      clear hb4 hp4 ho4 hy4 hn4 hss he' htt hl2 hsa
      go_wp2_with (first
        | (at_builtin; refine wpList_append_own _ rfl (.tmp 17) (.tmp 18) 22 rfl (wa.heap.size + 1) 88 i0 _ 2 2 Tryz.underlying22 hi hz0 hz1 hz2 rfl (by decide) v acc.length (rgCells acc) rfl Ho4.out ⟨g, 0, none⟩ set.length set.length (rgCells set) rfl (rgCells_len set) (ownR_get X4.out) (rg_one set) (by unfold maxLen; omega) (by omega) (by omega) ?_; intro v7 w7 hown7 hg7 _; have o7 : OwnR w7 (wa.heap.size + 1) v7 (acc ++ set) := (by (unfold OwnR; rw [List.length_append, rgCells_app]; exact hown7)); clear hown7; obtain ⟨A7, n7, d7, hv7, -, -⟩ := o7.s; subst hv7; have O7 := hide o7; clear o7; have B7 := hide ((Below.refl (wa.heap.size + 1) w4).grown hg7 (by have := lt_of_block Hbo4.out; omega) fun q hq => (World.ownsRow.lt Ho4.out q hq).1); clear hg7; have Hb7 := hide ((B7.out.block wa.heap.size (Nat.lt_succ_self _)).trans Hbo4.out); have hc7 : w7.cell? ⟨wa.heap.size, 0, none⟩ = some v := cell_of_one Hb7.out; have hf7 : w7.frozen? ⟨wa.heap.size, 0, none⟩ = false := free_of_one Hb7.out)
        | fail)
      have hb8 : Below wa.heap.size w4 (w7.setCell ⟨wa.heap.size, 0, none⟩ (.slice A7 n7 d7)) := (B7.out.mono (Nat.le_succ _)).setCell (Nat.le_refl _) _
      have Hp8 : Hid (PB _ p l1) := hide ((hb8.block p (by have := Hsa.out; omega)).trans Hp4.out)
      have Hbn8 := hide ((hb8.block w1.heap.size (by have := Hsa.out; omega)).trans Hbn4.out)
      have Hbo8 := hide (one_setCell (u := .slice A7 n7 d7) Hb7.out)
      have O8 := hide (O7.out.bt (Bt.set w7 wa.heap.size 0 (.slice A7 n7 d7)) (Nat.lt_succ_self _))
      have Hb8 := hide (Hb4.out.then_below hb8 (by have := Hsa.out; omega))
      have hs8 := hb8.size
      obtain ⟨w8, hw8⟩ : ∃ w8, w7.setCell ⟨wa.heap.size, 0, none⟩ (.slice A7 n7 d7) = w8 := ⟨_, rfl⟩
      rw [hw8] at Hp8 Hbn8 Hbo8 O8 Hb8 hs8
      with_reducible refine (HT2.out _ (by rw [hw8]; exact Hp8.out)).mono ?_
      rw [hw8]
      rintro e w9 ⟨rfl, hp9, hb9⟩
      have hs9 := hb9.size
      have hbw : wa.heap.size < w8.heap.size := lt_of_block Hbo8.out
      have Hbn9 := hide ((hb9.block w1.heap.size (by have := Hsa.out; omega) (by omega)).trans Hbn8.out)
      have Hbo9 := hide ((hb9.block wa.heap.size hbw (by have := Hsa.out; omega)).trans Hbo8.out)
      have O9 := hide (O8.out.bt hb9 (by have := Hsa.out; omega))
      have Hb9 := hide (Hb8.out.trans hb9)
      have Hp9 := hide hp9
      clear hw8 hb8 hc7 hf7 hp9 hb9 hcv B7 O7
      cases tt with
      | true =>
        have hE0 : E0 = some (acc ++ set, l2) := by rw [← He'.out]; rfl
        have HEn := hide (show E = some (rangesS (acc ++ set) ng, l2) by rw [← HEE.out, hE0]; rfl)
        obtain ⟨A9, n9, d9, hv9, -, hs9'⟩ := O9.out.s
        cases hv9
        have hcA : w9.cell? ⟨wa.heap.size, 0, none⟩ = some (.slice A7 n7 d7) := cell_of_one Hbo9.out
        have hcN : w9.cell? ⟨w1.heap.size, 0, none⟩ = some (.bool ng) := cell_of_one Hbn9.out
        have HC := hide (canon47 186 #[.pointer (some ⟨wa.heap.size, 0, none⟩), .pointer (some ⟨w1.heap.size, 0, none⟩)] (fun x => hasS (acc ++ set) x != ng) w9 run128 (fun W' c z hz hb' => clo128 c z hz wa.heap.size w1.heap.size ng ((hb'.cell (p := ⟨wa.heap.size, 0, none⟩) (World.block_lt_of_cell? _ _ hcA)).trans hcA) ((hb'.cell (p := ⟨w1.heap.size, 0, none⟩) (World.block_lt_of_cell? _ _ hcN)).trans hcN) (hs9'.below hb')))
        have Hcr := hide (show rgN (fun i => hasS (acc ++ set) (UInt8.ofNat i) != ng) 256 = rangesS (acc ++ set) ng from rfl)
        clear hE0 hcA hcN hs9'
        go_wp2_with fail
        with_reducible refine HC.out.mono ?_
        rintro e w10 ⟨v10, rfl, ho10, hb10⟩
        obtain ⟨A10, n10, d10, rfl, -, hs10⟩ := ho10.s
        have Hs10 := hide hs10
        have HB10 := hide (Hb9.out.trans (Bt.of hb10 p))
        have HP10 := hide (Hp9.out.keep hb10)
        have Hsz10 := hide (show w.heap.size ≤ w9.heap.size by have := Hb9.out.size; omega)
        clear hs10 ho10 hb10
        go_wp2
        go_ret2
        exact ⟨A10, n10, d10, true, rangesS (acc ++ set) ng, l2, rfl, Hs10.out.map (fun _ _ _ => rfl) fun g hg _ => Nat.le_trans Hsz10.out hg, HP10.out, HB10.out, by omega, fun x r h => (by rw [HEn.out] at h; cases h; exact ⟨rfl, rfl, rfl⟩), fun h => (by rw [HEn.out] at h; cases h)⟩
      | false =>
        have h12 := Ht0.out rfl
        subst h12
        have he2 : elemsP k (acc ++ set) l2 = E0 := He'.out
        have Hrest9 := hide Hp9.out.rest
        have Hsz9 := hide (show w2.heap.size ≤ w9.heap.size by have := Hsz4.out; omega)
        have He2 := hide he2
        clear he2
        go_wp2
        go_roundw
        case rel => exact ⟨k, acc ++ set, l2, .slice A7 n7 d7, Hp9.out, Hbn9.out, Hbo9.out, O9.out, Hb9.out, Hsz9.out, He2.out, by omega, by rw [List.length_append]; omega⟩
        case measure => show restN p w9 < restN p w3; rw [Hrest.out, Hrest9.out]; exact hlt1
theorem run113 (xs : Array Value) (W : World) : (callFunc 175 xs).run Tryz.prog W = .ok (.enter 175 xs) W := by kernel_rfl
set_option maxRecDepth 20000 in
theorem clo113 {W : World} (x : UInt8) (z : Int) (hz : z = (x.toNat : Int)) :
    Calls Tryz.prog 175 #[.int .u8 z] W fun e w' => e = .returned (.bool (x != 10)) ∧ Below W.heap.size W w' := by
  subst hz
  have hq : ((x.toNat : Int) != 10) = (x != 10) := by
    have : ((x.toNat : Int) == 10) = (x == 10) := (u8_eq rfl).trans (show decide (x = 10) = (x == 10) by rw [Bool.eq_iff_iff, decide_eq_true_eq, beq_iff_eq])
    rw [bne, bne, this]
  go_enter Tryz.func175, Tryz.ntmps175
  go_wp2
  go_ret
  exact ⟨rfl, Below.refl _ _⟩
theorem canon_dot : rgN (fun i => UInt8.ofNat i != 10) 256 = rangesS [(10, 10)] true := by
  unfold rangesS
  refine rgN_congr 256 fun i _ => ?_
  rw [has_one, bne, Bool.bne_true]
  congr 1
  rw [Bool.eq_iff_iff, beq_iff_eq, Bool.and_eq_true, decide_eq_true_eq, decide_eq_true_eq, ← UInt8.toNat_inj]
  constructor
  · intro h; rw [h]; exact ⟨Nat.le_refl _, Nat.le_refl _⟩
  · rintro ⟨a, b⟩; exact Nat.le_antisymm b a
theorem PostT.up {p : Nat} {w w1 : World} {l l1 : List UInt8} {o : Option (List (UInt8 × UInt8) × List UInt8)} {e : Ending} {w' : World} (h : PostT p w1 l1 o e w') (hb : Bt p w w1) (hl : l1.length ≤ l.length) : PostT p w l o e w' := by
  obtain ⟨A, n, c, b, set, l', he, hs, hp, hb', hl', hy, hn⟩ := h
  exact ⟨A, n, c, b, set, l', he, hs.map (fun _ _ _ => rfl) (fun g hg _ => Nat.le_trans hb.size hg), hp, hb.trans hb', Nat.le_trans hl' hl, hy, hn⟩
theorem setA_dot {l : List UInt8} (h : tkB 46 l = true) : setA l = some (rangesS [(10, 10)] true, tkR 46 l) := by
  cases l with
  | nil => cases h
  | cons x r =>
    have hx : x = 46 := of_decide_eq_true h
    rw [setA_cons, if_pos hx, show tkR 46 (x :: r) = r from if_pos hx]
theorem setA_set {l : List UInt8} (h : tkB 46 l = false) (h1 : tkB 91 l = true) : setA l = setP (tkR 91 l) := by
  cases l with
  | nil => cases h1
  | cons x r =>
    have hx : ¬ x = 46 := of_decide_eq_false h
    have hx1 : x = 91 := of_decide_eq_true h1
    rw [setA_cons, if_neg hx, if_pos hx1, show tkR 91 (x :: r) = r from if_pos hx1]
theorem setA_one {l : List UInt8} (h : tkB 46 l = false) (h1 : tkB 91 l = false) : setA l = match classP l with | some x => some x | none => (oneP special l).map fun p => ([(p.1, p.1)], p.2) := by
  cases l with
  | nil => rfl
  | cons x r =>
    have hx : ¬ x = 46 := of_decide_eq_false h
    have hx1 : ¬ x = 91 := of_decide_eq_false h1
    rw [setA_cons, if_neg hx, if_neg hx1]
set_option maxRecDepth 20000 in
set_option maxHeartbeats 3200000 in
theorem set100 (p : Nat) (l : List UInt8) (w : World) (h : PB w p l) (hl : l.length ≤ 20000) :
    Calls Tryz.prog 160 #[.pointer (some ⟨p, 0, none⟩)] w (PostT p w l (setA l)) := by
  have HT := hide (take1 p l 46 w h ⟨#[46]⟩ rfl)
  have hlt := h.lt
  have Hlt := hide hlt
  clear h hlt
  cases h46 : tkB 46 l with
  | true =>
    rw [setA_dot h46]
    rw [h46] at HT
    have hr := tkR_len 46 l
    obtain ⟨l1, hl1⟩ : ∃ l1, tkR 46 l = l1 := ⟨_, rfl⟩
    rw [hl1] at HT hr ⊢
    obtain ⟨D, hD⟩ : ∃ D, rangesS [(10, 10)] true = D := ⟨_, rfl⟩
    have HCn := hide (fun W => canon47 175 #[] (fun x => x != 10) W run113 (fun W' c z hz _ => clo113 c z hz))
    rw [canon_dot, hD] at HCn
    rw [hD]
    clear hD h46 hl1
    go_enter Tryz.func160, Tryz.ntmps160
    go_wp2_with fail
    with_reducible refine HT.out.mono ?_
    rintro e w1 ⟨rfl, hp1, hb1⟩
    go_wp2_with fail
    with_reducible refine (HCn.out w1).mono ?_
    rintro e w2 ⟨v2, rfl, ho2, hb2⟩
    obtain ⟨A2, n2, d2, rfl, -, hs2⟩ := ho2.s
    have HS2 := hide hs2
    have HP := hide (hp1.keep hb2)
    have HB := hide (hb1.trans (Bt.of hb2 p))
    have Hsz := hide hb1.size
    clear hs2 ho2 hb2 hp1 hb1
    go_wp2
    go_ret2
    exact ⟨A2, n2, d2, true, D, l1, rfl, HS2.out.map (fun _ _ _ => rfl) fun g hg _ => Nat.le_trans Hsz.out hg, HP.out, HB.out, hr, fun x r h => (by cases h; exact ⟨rfl, rfl, rfl⟩), fun h => (by cases h)⟩
  | false =>
    rw [h46, tk_no h46] at HT
    have HT1 := hide (fun W (h : PB W p l) => take1 p l 91 W h ⟨#[91]⟩ rfl)
    cases h91 : tkB 91 l with
    | true =>
      rw [setA_set h46 h91]
      rw [h91] at HT1
      have hr := tkR_len 91 l
      obtain ⟨l1, hl1⟩ : ∃ l1, tkR 91 l = l1 := ⟨_, rfl⟩
      rw [hl1] at HT1 hr ⊢
      obtain ⟨E, hE⟩ : ∃ E, setP l1 = E := ⟨_, rfl⟩
      have HEl := hide (fun W (h : PB W p l1) => elems114 p l1 W h (by omega))
      rw [hE] at HEl ⊢
      clear h46 h91 hl1 hE
      go_enter Tryz.func160, Tryz.ntmps160
      go_wp2_with fail
      with_reducible refine HT.out.mono ?_
      rintro e w1 ⟨rfl, hp1, hb1⟩
      have P1 := hide hp1
      clear hp1
      go_wp2_with fail
      with_reducible refine (HT1.out w1 P1.out).mono ?_
      rintro e w2 ⟨rfl, hp2, hb2⟩
      have P2 := hide hp2
      have B2 := hide (hb1.trans hb2)
      clear hp2 hb1 hb2
      go_wp2_with fail
      with_reducible refine (HEl.out w2 P2.out).mono ?_
      rintro e w3 ⟨A, n, c, b, set, l', rfl, hrest⟩
      have HR := hide hrest
      clear hrest
      go_wp2
      go_ret2
      exact PostT.up ⟨A, n, c, b, set, l', rfl, HR.out⟩ B2.out hr
    | false =>
      rw [setA_one h46 h91]
      rw [h91, tk_no h91] at HT1
      have HC := hide (fun W (h : PB W p l) => class115 p l W h)
      cases hc : classP l with
      | some y =>
        obtain ⟨x, r⟩ := y
        rw [hc] at HC
        have hrl := classP_len hc
        have Hrl := hide (show r.length ≤ l.length by omega)
        clear h46 h91 hc hrl
        go_enter Tryz.func160, Tryz.ntmps160
        go_wp2_with fail
        with_reducible refine HT.out.mono ?_
        rintro e w1 ⟨rfl, hp1, hb1⟩
        have P1 := hide hp1
        clear hp1
        go_wp2_with fail
        with_reducible refine (HT1.out w1 P1.out).mono ?_
        rintro e w2 ⟨rfl, hp2, hb2⟩
        have P2 := hide hp2
        have B2 := hide (hb1.trans hb2)
        clear hp2 hb1 hb2
        go_wp2_with fail
        with_reducible refine (HC.out w2 P2.out).mono ?_
        rintro e w3 ⟨hb3, g, rfl, ho3, hp3⟩
        obtain ⟨A3, n3, d3, hv3, -, hs3⟩ := ho3.s
        cases hv3
        have P3 := hide hp3
        have S3 := hide hs3
        have B3 := hide (B2.out.trans hb3)
        have Hsz := hide B2.out.size
        clear hp3 hs3 hb3 ho3
        go_wp2
        go_ret2
        exact ⟨some ⟨g, 0, none⟩, x.length, x.length, true, x, r, rfl, S3.out.map (fun _ _ _ => rfl) (fun g hg _ => Nat.le_trans Hsz.out hg), P3.out, B3.out, Hrl.out, fun x' r' h => (by cases h; exact ⟨rfl, rfl, rfl⟩), fun h => (by cases h)⟩
      | none =>
        rw [hc] at HC
        have HO := hide (fun W (h : PB W p l) => one116 p l W h hl ⟨#[92, 46, 42, 43, 63, 40, 41, 91, 93, 123, 125, 124, 94, 36]⟩ special rfl)
        obtain ⟨E, hE⟩ : ∃ E, oneP special l = E := ⟨_, rfl⟩
        rw [hE] at HO
        show Calls _ _ _ _ (PostT p w l ((oneP special l).map _))
        rw [hE]
        clear h46 h91 hc hE
        go_enter Tryz.func160, Tryz.ntmps160
        go_wp2_with fail
        with_reducible refine HT.out.mono ?_
        rintro e w1 ⟨rfl, hp1, hb1⟩
        have P1 := hide hp1
        clear hp1
        go_wp2_with fail
        with_reducible refine (HT1.out w1 P1.out).mono ?_
        rintro e w2 ⟨rfl, hp2, hb2⟩
        have P2 := hide hp2
        have B2 := hide (hb1.trans hb2)
        clear hp2 hb1 hb2
        go_wp2_with fail
        with_reducible refine (HC.out w2 P2.out).mono ?_
        rintro e w3 ⟨hb3, rfl, hp3⟩
        have P3 := hide hp3
        have B3 := hide (B2.out.trans hb3)
        clear hp3 hb3
        go_wp2_with fail
        with_reducible refine (HO.out w3 P3.out).mono ?_
        rintro e w4 ⟨c, b, l', rfl, hp4, hb4, hl4, hy4, hn4⟩
        have hba := bnew (Below.refl _ w4) (.cells #[.int .u8 (c.toNat : Int), .int .u8 (c.toNat : Int)] 88)
        have P5 := hide (hp4.keep hba)
        have B5 := hide ((B3.out.trans hb4).trans (Bt.of hba p))
        have O5 := hide ((ownR_mk w4 #[.int .u8 (c.toNat : Int), .int .u8 (c.toNat : Int)] [(c, c)] 1 rfl rfl (by decide)).mono (B3.out.trans hb4).size)
        have Hy := hide hy4
        have Hn := hide hn4
        clear hp4 hb4 hba hy4 hn4
        go_wp2
        go_ret2
        obtain ⟨A3, n3, d3, hv3, -, hs3⟩ := O5.out.s
        cases hv3
        refine ⟨_, 1, 1, b, [(c, c)], l', rfl, hs3, P5.out, B5.out, hl4, fun x r h => ?_, fun h => ?_⟩
        · cases E with
          | none => cases h
          | some q =>
            cases h
            obtain ⟨h1, h2, h3⟩ := Hy.out q.1 q.2 rfl
            exact ⟨h1, by rw [h2], h3⟩
        · cases E with
          | none => exact Hn.out rfl
          | some q => cases h
theorem cutL_take (c : UInt8) (l : List UInt8) : cutL c l = l.take (cutL c l).length := by
  induction l with
  | nil => rfl
  | cons x l ih =>
    rw [cutL_cons]
    by_cases h : x = c
    · rw [if_pos h]; rfl
    · rw [if_neg h]; simp only [List.length_cons, List.take_succ_cons]; rw [← ih]
theorem cutL_all {c : UInt8} {l : List UInt8} (h : ¬ c ∈ l) : cutL c l = l ∧ cutR c l = [] := by
  have h1 : cutL c l = l := by
    have := cutL_app (l := []) h
    rwa [List.append_nil, cutL_nil, List.append_nil] at this
  refine ⟨h1, ?_⟩
  unfold cutR
  rw [h1]
  simp
theorem idx_atP : ∀ (l : List UInt8) (c : UInt8), c ∈ l → Lib.indexByte l c = ((cutL c l).length : Int) ∧ (cutL c l).length < l.length
  | [], c, h => by simp at h
  | x :: l, c, h => by
    rw [cutL_cons]
    unfold Lib.indexByte
    by_cases hx : x = c
    · rw [if_pos hx, if_pos (beq_iff_eq.2 hx)]
      exact ⟨rfl, by simp⟩
    · have hm : c ∈ l := (List.mem_cons.1 h).resolve_left fun e => hx e.symm
      obtain ⟨h1, h2⟩ := idx_atP l c hm
      rw [if_neg hx, if_neg (by simp [hx]), h1, if_neg (by simp)]
      exact ⟨by simp, by simp; exact h2⟩
theorem idx_no {l : List UInt8} {c : UInt8} (h : ¬ c ∈ l) : Lib.indexByte l c < 0 := by
  have h1 := idx_mem l c
  rw [decide_eq_false h] at h1
  have := of_decide_eq_false h1
  omega
def CutG (w : World) (c : UInt8) (l : List UInt8) (e : Ending) (w' : World) : Prop := ∃ a r, e = .returned (.tuple #[.string a, .string r, .bool (decide (c ∈ l))]) ∧ a = bs (cutL c l) ∧ r = bs (cutR c l) ∧ Below w.heap.size w w'
set_option maxRecDepth 20000 in
set_option maxHeartbeats 3200000 in
theorem cut117 (l : List UInt8) (c : UInt8) (hl : l.length ≤ 20000) (w : World) (s t : ByteArray) (hs : s = bs l) (ht : t = ⟨#[c]⟩) :
    Calls Tryz.prog 179 #[.string s, .string t] w (CutG w c l) := by
  subst ht
  have HI := hide (Tryz.stringslite_Index_one s c w)
  have hsz : s.size = l.length := by rw [hs, bs_size]
  have Hs := hide hs
  have hls : s.data.toList = l := by rw [hs]; exact bs_list l
  rw [hls] at HI
  by_cases hm : c ∈ l
  · obtain ⟨hi, hlt⟩ := idx_atP l c hm
    rw [hi] at HI
    obtain ⟨n, hn⟩ : ∃ n, (cutL c l).length = n := ⟨_, rfl⟩
    rw [hn] at HI hlt
    have Hn := hide hn
    have h1 : (n : Int) ≤ (s.size : Int) := by omega
    have h2 : (n : Int) + 1 ≤ (s.size : Int) := by omega
    have h3 : (s.size : Int) ≤ 20000 := by omega
    have Hm := hide hm
    have Hls := hide hls
    clear hs hls hi hn hm hsz
    go_enter Tryz.func179, Tryz.ntmps179
    go_wp2_with fail
    with_reducible refine HI.out.mono ?_
    rintro e w1 ⟨rfl, rfl⟩
    go_wp2
    go_quiet (fail)
    go_wp2
    go_ret3
    refine ⟨_, _, by rw [decide_eq_true Hm.out]; rfl, ?_, ?_, Drawn.below ⟨nq, rfl⟩ _⟩
    · refine ba_ext ?_
      rw [toList_extract0, Hls.out, bs_list, ← Hn.out, ← cutL_take]
    · refine ba_ext ?_
      rw [toList_extract_end, Hls.out, bs_list, ← Hn.out]
      rfl
  · have hi := idx_no hm
    obtain ⟨z, hz⟩ : ∃ z, Lib.indexByte l c = z := ⟨_, rfl⟩
    rw [hz] at HI hi
    obtain ⟨e1, e2⟩ := cutL_all hm
    have hz' : ¬ 0 ≤ z := by omega
    have Hm := hide hm
    have E1 := hide e1
    have E2 := hide e2
    clear hs hls hm e1 e2 hsz hz
    go_enter Tryz.func179, Tryz.ntmps179
    go_wp2_with fail
    with_reducible refine HI.out.mono ?_
    rintro e w1 ⟨rfl, rfl⟩
    go_wp2
    go_ret3
    exact ⟨_, _, by rw [decide_eq_false Hm.out]; rfl, by rw [E1.out]; exact Hs.out, by rw [E2.out]; rfl, Below.refl _ _⟩
set_option maxRecDepth 20000 in
set_option maxHeartbeats 3200000 in
theorem cut101 (l : List UInt8) (c : UInt8) (hl : l.length ≤ 20000) (w : World) (s t : ByteArray) (hs : s = bs l) (ht : t = ⟨#[c]⟩) :
    Calls Tryz.prog 161 #[.string s, .string t] w (CutG w c l) := by
  have HI := hide (cut117 l c hl w s t hs ht)
  clear hs ht
  go_enter Tryz.func161, Tryz.ntmps161
  go_wp2_with fail
  with_reducible refine HI.out.mono ?_
  rintro e w1 ⟨a, r, rfl, h⟩
  have H := hide h
  clear h
  go_wp2
  go_ret3
  exact ⟨a, r, rfl, H.out⟩
def NumG (w : World) (l : List UInt8) (e : Ending) (w' : World) : Prop := ∃ (n : Int) (b : Bool), e = .returned (.tuple #[.int .i64 n, .bool b]) ∧ w = w' ∧ 0 ≤ n ∧ n ≤ 999 ∧ (∀ m, numP l = some m → b = true ∧ n = m) ∧ (numP l = none → b = false)
def badN (l : List UInt8) : Bool := decide (l = [] ∨ 3 < l.length ∨ (l.head? = some 48 ∧ l ≠ [48]))
theorem numP_badN {l : List UInt8} (h : badN l = true) : numP l = none := by
  unfold numP
  rw [if_pos]
  rcases of_decide_eq_true h with h | h | h
  · exact Or.inl h
  · exact Or.inr (Or.inl h)
  · exact Or.inr (Or.inr (Or.inl h))
theorem numP_okN {l : List UInt8} (h : badN l = false) : l.length ≤ 3 ∧ numP l = if l.all isDig = true then some (valN l) else none := by
  have h1 := of_decide_eq_false h
  refine ⟨by omega, ?_⟩
  unfold numP
  cases ha : l.all isDig with
  | true => rw [if_neg (fun k => h1 (by rcases k with k | k | k | k; exact Or.inl k; exact Or.inr (Or.inl k); exact Or.inr (Or.inr k); exact absurd k (by simp))), if_pos rfl]
  | false => rw [if_pos (Or.inr (Or.inr (Or.inr rfl))), if_neg (by simp)]
set_option maxRecDepth 20000 in
set_option maxHeartbeats 3200000 in
theorem number102 (l : List UInt8) (hl : l.length ≤ 20000) (w : World) (s : ByteArray) (hs : s = bs l) :
    Calls Tryz.prog 162 #[.string s] w (NumG w l) := by
  have hsz : s.size = l.length := by rw [hs, bs_size]
  have Hs := hide hs
  have hls : s.data.toList = l := by rw [hs]; exact bs_list l
  have Hls := hide hls
  have Hsz := hide hsz
  have Hg := hide (show ∀ j (h : j < s.size), l[j]? = some s[j] from fun j h => by
    rw [← hls, List.getElem?_eq_getElem (by rw [size_list s]; exact h)]
    rfl)
  have hsm : s.size ≤ 20000 := by omega
  clear hs hls hsz
  go_enter Tryz.func162, Tryz.ntmps162
  go_upto_region 1 with (fail)
  go_cut [21] (fun q wx => wx = w ∧ q = .bool (badN l))
  case first =>
    cases l with
    | nil =>
      obtain rfl : s = ⟨#[]⟩ := Hs.out
      go_wp2
      go_meet
      exact ⟨rfl, rfl⟩
    | cons c r =>
      have hne : ¬ s = (⟨#[]⟩ : ByteArray) := by rw [Hs.out]; exact bs_ne c r
      have hem : s.toList.isEmpty = false := by rw [Hs.out]; exact bs_empty c r
      have h0 : 0 < s.size := by rw [Hs.out, bs_size]; simp
      have hgc : s[0] = c := by have := Hg.out 0 h0; simp at this; exact this.symm
      by_cases h3 : 3 < s.size
      · have h3' : (3 : Int) < (s.size : Int) := by omega
        have Hb := hide (show badN (c :: r) = true from decide_eq_true (Or.inr (Or.inl (by rw [← Hsz.out]; exact h3))))
        go_wp2
        go_meet
        exact ⟨rfl, by rw [Hb.out]⟩
      · have h3' : ¬ (3 : Int) < (s.size : Int) := by omega
        by_cases h48 : (c.toNat : Int) = 48
        · have hc : c = 48 := UInt8.toNat_inj.1 (by show c.toNat = 48; omega)
          have Hb := hide (show badN (c :: r) = !(s.toList == [48]) by
            rw [show s.toList = s.data.toList from ByteArray.toList_eq s, Hls.out]
            unfold badN
            rw [hc]
            rw [Bool.eq_iff_iff]
            have := Hsz.out
            simp at this ⊢
            omega)
          clear hc
          go_wp2
          go_meet
          exact ⟨rfl, by rw [Hb.out]⟩
        · have Hb := hide (show badN (c :: r) = false from decide_eq_false (by
            have := Hsz.out
            rintro (h | h | ⟨h, _⟩)
            · cases h
            · omega
            · simp at h
              rw [h] at h48
              exact h48 rfl))
          go_wp2
          go_meet
          exact ⟨rfl, by rw [Hb.out]⟩
  case rest =>
    obtain ⟨rfl, rfl⟩ := hcut
    obtain ⟨q, hq⟩ : ∃ q, badN l = q := ⟨_, rfl⟩
    have Hq := hide hq
    rw [hq]
    clear hq
    cases q with
    | true =>
      have Hn := hide (numP_badN Hq.out)
      go_wp2
      go_ret2
      exact ⟨0, false, rfl, rfl, by decide, by decide, fun m h => (by rw [Hn.out] at h; cases h), fun _ => rfl⟩
    | false =>
      have hlen := (numP_okN Hq.out).1
      have Hn := hide (numP_okN Hq.out).2
      have hsz3 : s.size ≤ 3 := by rw [Hsz.out]; exact hlen
      go_wp2
      go_loop [4, 24] (fun x y => ∃ (j : Nat) (n : Int), j ≤ s.size ∧ y = .int .i64 (j : Int) ∧ x = .int .i64 n ∧ n = valN (l.take j) ∧ (l.take j).all isDig = true ∧ 0 ≤ n ∧ n < 10 ^ j) (fun _ y => s.size - (intOf y).toNat)
      case atStart => exact ⟨0, 0, Nat.zero_le _, rfl, rfl, rfl, rfl, by decide, by decide⟩
      case round =>
        obtain ⟨j, n, hj, rfl, rfl, hn, had, hn0, hn1⟩ := hrel
        have Hnn := hide hn
        have Had := hide had
        have hp : (10 : Int) ^ j ≤ 1000 := by
          have : j = 0 ∨ j = 1 ∨ j = 2 ∨ j = 3 := by omega
          rcases this with rfl | rfl | rfl | rfl <;> decide
        have hnb : n ≤ 999 := by omega
        clear hn had
        by_cases hlt : j < s.size
        · have hc := Hg.out j hlt
          obtain ⟨x, hx⟩ : ∃ x, s[j] = x := ⟨_, rfl⟩
          rw [hx] at hc
          have hv := val_take hc
          have hji : (j : Int) < (s.size : Int) := by omega
          have hxx : x.toNat < 256 := x.toNat_lt
          have hmem : x ∈ l := List.mem_of_getElem? hc
          by_cases hdig : 48 ≤ x.toNat ∧ x.toNat ≤ 57
          · have hxd : isDig x = true := by unfold isDig; simp only [Bool.and_eq_true, decide_eq_true_eq, UInt8.le_iff_toNat_le]; exact hdig
            have hjl : j < l.length := (List.getElem?_eq_some_iff.1 hc).1
            have Ha := hide (show (l.take (j + 1)).all isDig = true by
              rw [List.take_succ_eq_append_getElem hjl, List.all_append, Had.out, Bool.true_and]
              simp
              rw [(List.getElem?_eq_some_iff.1 hc).2]
              exact hxd)
            have Hv := hide (show 10 * n + ((x.toNat : Int) - 48) = valN (l.take (j + 1)) by rw [hv, Hnn.out]; omega)
            have Hp := hide (show 10 * n + ((x.toNat : Int) - 48) < 10 ^ (j + 1) by rw [Int.pow_succ]; omega)
            clear hv hc hmem hxd hp hn1
            go_wp2
            go_round
            case rel => exact ⟨j + 1, 10 * n + ((x.toNat : Int) - 48), by omega, by go_num, by go_num, Hv.out, Ha.out, by omega, Hp.out⟩
            case measure => simp [intOf]; omega
          · have hall : l.all isDig = false := by
              cases ha : l.all isDig with
              | false => rfl
              | true =>
                have := List.all_eq_true.1 ha x hmem
                unfold isDig at this
                simp only [Bool.and_eq_true, decide_eq_true_eq, UInt8.le_iff_toNat_le] at this
                exact absurd this hdig
            have Hnone := hide (show numP l = none by rw [Hn.out, hall]; rfl)
            clear hv hc hmem hall hp hn1
            by_cases hlo : x.toNat < 48
            · have hloi : (x.toNat : Int) < 48 := by omega
              clear hdig
              go_wp2
              go_ret2
              exact ⟨0, false, rfl, rfl, by decide, by decide, fun m h => (by rw [Hnone.out] at h; cases h), fun _ => rfl⟩
            · have hloi : ¬ (x.toNat : Int) < 48 := by omega
              have hhi : (57 : Int) < (x.toNat : Int) := by omega
              clear hdig
              go_wp2
              go_ret2
              exact ⟨0, false, rfl, rfl, by decide, by decide, fun m h => (by rw [Hnone.out] at h; cases h), fun _ => rfl⟩
        · have hjs : j = l.length := by rw [← Hsz.out]; omega
          have Hyes := hide (show numP l = some n by
            have e1 := Had.out
            have e2 := Hnn.out
            rw [hjs, List.take_length] at e1 e2
            rw [Hn.out, e1, e2]
            rfl)
          have hji : ¬ (j : Int) < (s.size : Int) := by omega
          clear hjs hp hn1
          go_wp2
          go_ret2
          exact ⟨n, true, rfl, rfl, hn0, hnb, fun m h => (by rw [Hyes.out] at h; cases h; exact ⟨rfl, rfl⟩), fun h => (by rw [Hyes.out] at h; cases h)⟩
def PostD (p : Nat) (w : World) (l : List UInt8) (o : Option (Int × Int × List UInt8)) (e : Ending) (w' : World) : Prop :=
  ∃ (m n : Int) (b : Bool) (l' : List UInt8), e = .returned (.tuple #[.int .i64 m, .int .i64 n, .bool b]) ∧ PB w' p l' ∧ Bt p w w' ∧ l'.length ≤ l.length ∧ (-1 ≤ m ∧ m ≤ 999) ∧ (-1 ≤ n ∧ n ≤ 999) ∧ (∀ x y r, o = some (x, y, r) → b = true ∧ m = x ∧ n = y ∧ l' = r) ∧ (o = none → b = false)
theorem cutL_len (c : UInt8) (l : List UInt8) : (cutL c l).length ≤ l.length := by
  rw [cutL_take, List.length_take]; omega
theorem cutR_len (c : UInt8) (l : List UInt8) : (cutR c l).length ≤ l.length := by
  unfold cutR; rw [List.length_drop]; omega
def NumF (l : List UInt8) (n : Int) (b : Bool) : Prop := 0 ≤ n ∧ n ≤ 999 ∧ (∀ m, numP l = some m → b = true ∧ n = m) ∧ (numP l = none → b = false)
theorem NumF.no {l : List UInt8} {n : Int} (h : NumF l n false) : numP l = none := by
  cases ho : numP l with
  | none => rfl
  | some q => exact absurd (h.2.2.1 q ho).1 (by simp)
theorem NumF.yes {l : List UInt8} {n : Int} (h : NumF l n true) : numP l = some n := by
  cases ho : numP l with
  | none => exact absurd (h.2.2.2 ho) (by simp)
  | some q => rw [(h.2.2.1 q ho).2]
theorem bP_none {l x : List UInt8} (hx : cutL 44 (cutL 125 l) = x) (h : numP x = none) : boundsP l = none := by
  unfold boundsP; rw [hx, h]
theorem bP_one {l x : List UInt8} {g f : Bool} {m : Int} (hx : cutL 44 (cutL 125 l) = x) (hy : cutR 44 (cutL 125 l) = []) (hg : decide (125 ∈ l) = g) (hf : decide (44 ∈ cutL 125 l) = f) (h : numP x = some m) : boundsP l = if g = true then some (m, (if f = true then -1 else m), cutR 125 l) else none := by
  unfold boundsP
  rw [hx, h, hy]
  subst hg hf
  simp only [if_true, decide_eq_true_eq]
theorem bP_two {l x y : List UInt8} {g : Bool} {m : Int} (hx : cutL 44 (cutL 125 l) = x) (hy : cutR 44 (cutL 125 l) = y) (hy0 : y ≠ []) (hg : decide (125 ∈ l) = g) (h : numP x = some m) : boundsP l = match numP y with | none => none | some n => if g = true then some (m, n, cutR 125 l) else none := by
  unfold boundsP
  rw [hx, h, hy]
  subst hg
  simp only [if_neg hy0, decide_eq_true_eq]
set_option maxRecDepth 20000 in
set_option maxHeartbeats 6400000 in
theorem bounds89 (p : Nat) (l : List UInt8) (w : World) (h : PB w p l) (hl : l.length ≤ 20000) :
    Calls Tryz.prog 146 #[.pointer (some ⟨p, 0, none⟩)] w (PostD p w l (boundsS l)) := by
  rw [← bounds_P]
  obtain ⟨S, hS⟩ : ∃ S, bs l = S := ⟨_, rfl⟩
  have hc : w.cell? ⟨p, 0, none⟩ = some (.string S) := by rw [← hS]; exact h.cell
  have HC1 := hide (cut101 l 125 hl w S ⟨#[125]⟩ hS.symm rfl)
  have H := hide h
  have HC2 := hide (fun W (s : ByteArray) (hs : s = bs (cutL 125 l)) => cut101 (cutL 125 l) 44 (Nat.le_trans (cutL_len _ _) hl) W s ⟨#[44]⟩ hs rfl)
  have HN1 := hide (fun W (s : ByteArray) (hs : s = bs (cutL 44 (cutL 125 l))) => number102 (cutL 44 (cutL 125 l)) (Nat.le_trans (cutL_len _ _) (Nat.le_trans (cutL_len _ _) hl)) W s hs)
  have HN2 := hide (fun W (s : ByteArray) (hs : s = bs (cutR 44 (cutL 125 l))) => number102 (cutR 44 (cutL 125 l)) (Nat.le_trans (cutR_len _ _) (Nat.le_trans (cutL_len _ _) hl)) W s hs)
  have hrl := cutR_len 125 l
  obtain ⟨x, hx⟩ : ∃ x, cutL 44 (cutL 125 l) = x := ⟨_, rfl⟩
  obtain ⟨y, hy⟩ : ∃ y, cutR 44 (cutL 125 l) = y := ⟨_, rfl⟩
  obtain ⟨g, hg⟩ : ∃ g, decide (125 ∈ l) = g := ⟨_, rfl⟩
  obtain ⟨f, hf⟩ : ∃ f, decide (44 ∈ cutL 125 l) = f := ⟨_, rfl⟩
  rw [hx] at HN1
  rw [hy] at HN2
  unfold CutG at HC1 HC2
  rw [hg] at HC1
  rw [hf, hx, hy] at HC2
  have Hx := hide hx
  have Hy := hide hy
  have Hg := hide hg
  have Hf := hide hf
  have Hrl := hide hrl
  clear h hS hx hy hg hf hrl
  go_enter Tryz.func146, Tryz.ntmps146
  go_wp2_with fail
  with_reducible refine HC1.out.mono ?_
  rintro e w1 ⟨a1, r1, rfl, ha1, hr1, hb1⟩
  have hp1 := H.out.keep hb1
  have hc1 := hp1.cell
  have hf1 := hp1.free
  have A1 := hide ha1
  have R1 := hide hr1
  have P1 := hide hp1
  have B1 := hide hb1
  clear ha1 hr1 hp1 hb1 hc
  go_wp2_with fail
  have P2 := hide (P1.out.put r1 _ R1.out)
  have B2 := hide ((Bt.of B1.out p).trans (Bt.set w1 p 0 (.string r1)))
  obtain ⟨w2, hw2⟩ : ∃ w2, w1.setCell ⟨p, 0, none⟩ (.string r1) = w2 := ⟨_, rfl⟩
  rw [hw2] at P2 B2
  rw [hw2]
  clear hw2 hc1 hf1
  with_reducible refine (HC2.out w2 a1 A1.out).mono ?_
  rintro e w3 ⟨a2, r2, rfl, ha2, hr2, hb3⟩
  have P3 := hide (P2.out.keep hb3)
  have B3 := hide (B2.out.trans (Bt.of hb3 p))
  have A2 := hide ha2
  have R2 := hide hr2
  clear ha2 hr2 hb3
  go_wp2_with fail
  with_reducible refine (HN1.out w3 a2 A2.out).mono ?_
  rintro e w4 ⟨n1, b1, rfl, rfl, hn⟩
  have N1 : Hid (NumF x n1 b1) := hide hn
  have hn1 : n1 ≤ 999 := hn.2.1
  have hn0 : 0 ≤ n1 := hn.1
  clear hn
  cases y with
  | nil =>
    obtain rfl : r2 = ⟨#[]⟩ := R2.out
    cases b1 with
    | false =>
      have Hno := hide (bP_none Hx.out N1.out.no)
      cases f with
      | true =>
        go_wp2
        go_ret3
        exact ⟨n1, -1, false, _, rfl, P3.out, B3.out, Hrl.out, (by omega), (by omega), fun x y r h => (by rw [Hno.out] at h; cases h), fun _ => rfl⟩
      | false =>
        go_wp2
        go_ret3
        exact ⟨n1, n1, false, _, rfl, P3.out, B3.out, Hrl.out, (by omega), (by omega), fun x y r h => (by rw [Hno.out] at h; cases h), fun _ => rfl⟩
    | true =>
      have Hyes := hide (bP_one Hx.out Hy.out Hg.out Hf.out N1.out.yes)
      cases f with
      | true =>
        go_wp2
        go_ret3
        refine ⟨n1, -1, g, _, rfl, P3.out, B3.out, Hrl.out, (by omega), (by omega), fun x y r h => ?_, fun h => ?_⟩
        · rw [Hyes.out] at h
          cases g with
          | false => cases h
          | true => cases h; exact ⟨rfl, rfl, rfl, rfl⟩
        · rw [Hyes.out] at h
          cases g with
          | false => rfl
          | true => cases h
      | false =>
        go_wp2
        go_ret3
        refine ⟨n1, n1, g, _, rfl, P3.out, B3.out, Hrl.out, (by omega), (by omega), fun x y r h => ?_, fun h => ?_⟩
        · rw [Hyes.out] at h
          cases g with
          | false => cases h
          | true => cases h; exact ⟨rfl, rfl, rfl, rfl⟩
        · rw [Hyes.out] at h
          cases g with
          | false => rfl
          | true => cases h
  | cons c t =>
    have hne : ¬ r2 = (⟨#[]⟩ : ByteArray) := by rw [R2.out]; exact bs_ne c t
    have hem : r2.toList.isEmpty = false := by rw [R2.out]; exact bs_empty c t
    have hgo : ∀ z : Int, Calls Tryz.prog 162 #[.string r2] w3 (NumG w3 (c :: t)) := fun _ => HN2.out w3 r2 R2.out
    have Hgo := hide (hgo 0)
    clear hgo
    cases f with
    | true =>
      go_wp2_with fail
      with_reducible refine Hgo.out.mono ?_
      rintro e w4 ⟨n2, b2, rfl, rfl, hn⟩
      have N2 : Hid (NumF (c :: t) n2 b2) := hide hn
      have hn21 : n2 ≤ 999 := hn.2.1
      have hn20 : 0 ≤ n2 := hn.1
      clear hn
      cases b1 with
      | false =>
        have Hno := hide (bP_none Hx.out N1.out.no)
        go_wp2
        go_ret3
        exact ⟨n1, n2, false, _, rfl, P3.out, B3.out, Hrl.out, (by omega), (by omega), fun x y r h => (by rw [Hno.out] at h; cases h), fun _ => rfl⟩
      | true =>
        have Hyes := hide (bP_two Hx.out Hy.out (by simp) Hg.out N1.out.yes)
        cases b2 with
        | false =>
          have Hno := hide (Hyes.out.trans (by rw [N2.out.no]))
          go_wp2
          go_ret3
          exact ⟨n1, n2, false, _, rfl, P3.out, B3.out, Hrl.out, (by omega), (by omega), fun x y r h => (by rw [Hno.out] at h; cases h), fun _ => rfl⟩
        | true =>
          have Hys := hide (show boundsP l = if g = true then some (n1, n2, cutR 125 l) else none by rw [Hyes.out, N2.out.yes])
          go_wp2
          go_ret3
          refine ⟨n1, n2, g, _, rfl, P3.out, B3.out, Hrl.out, (by omega), (by omega), fun x y r h => ?_, fun h => ?_⟩
          · rw [Hys.out] at h
            cases g with
            | false => cases h
            | true => cases h; exact ⟨rfl, rfl, rfl, rfl⟩
          · rw [Hys.out] at h
            cases g with
            | false => rfl
            | true => cases h
    | false =>
      go_wp2_with fail
      with_reducible refine Hgo.out.mono ?_
      rintro e w4 ⟨n2, b2, rfl, rfl, hn⟩
      have N2 : Hid (NumF (c :: t) n2 b2) := hide hn
      have hn21 : n2 ≤ 999 := hn.2.1
      have hn20 : 0 ≤ n2 := hn.1
      clear hn
      cases b1 with
      | false =>
        have Hno := hide (bP_none Hx.out N1.out.no)
        go_wp2
        go_ret3
        exact ⟨n1, n2, false, _, rfl, P3.out, B3.out, Hrl.out, (by omega), (by omega), fun x y r h => (by rw [Hno.out] at h; cases h), fun _ => rfl⟩
      | true =>
        have Hyes := hide (bP_two Hx.out Hy.out (by simp) Hg.out N1.out.yes)
        cases b2 with
        | false =>
          have Hno := hide (Hyes.out.trans (by rw [N2.out.no]))
          go_wp2
          go_ret3
          exact ⟨n1, n2, false, _, rfl, P3.out, B3.out, Hrl.out, (by omega), (by omega), fun x y r h => (by rw [Hno.out] at h; cases h), fun _ => rfl⟩
        | true =>
          have Hys := hide (show boundsP l = if g = true then some (n1, n2, cutR 125 l) else none by rw [Hyes.out, N2.out.yes])
          go_wp2
          go_ret3
          refine ⟨n1, n2, g, _, rfl, P3.out, B3.out, Hrl.out, (by omega), (by omega), fun x y r h => ?_, fun h => ?_⟩
          · rw [Hys.out] at h
            cases g with
            | false => cases h
            | true => cases h; exact ⟨rfl, rfl, rfl, rfl⟩
          · rw [Hys.out] at h
            cases g with
            | false => rfl
            | true => cases h
end Go.Proofs.YtlnbjdlooghpeaaGreatDoor
namespace Go.Proofs.YtlnbjdlooghpeaaGreatDoor
open Go.RowKit
theorem depth_size : ∀ r : Rx, depthR r ≤ sizeR r := by
  intro r
  induction r using Rx.ind with
  | h k s a b l ih =>
    have key : ∀ m : List Rx, (∀ x ∈ m, depthR x ≤ sizeR x) → depthL m ≤ sizeL m := by
      intro m
      induction m with
      | nil => intro _; exact Nat.le_refl _
      | cons x m ihm =>
        intro h
        have h1 := ihm fun y hy => h y (by simp [hy])
        have h2 := h x (by simp)
        unfold depthL sizeL
        omega
    have := key l ih
    unfold depthR sizeR
    omega
theorem setS_size {l : List UInt8} {x : Rx} {r : List UInt8} (h : setS l = some (x, r)) : sizeR x = 1 := by
  unfold setS at h
  repeat' split at h
  all_goals first | (cases h; done) | (cases h; simp [sizeR, sizeL])
theorem suffix_size {x y : Rx} {l r : List UInt8} (h : suffixP x l = some (y, r)) : sizeR y ≤ sizeR x + 1 ∧ (sizeR y ≤ sizeR x ∨ r.length < l.length) := by
  cases l with
  | nil => unfold suffixP at h; cases h; simp
  | cons c l =>
    simp only [suffixP] at h
    split at h
    · cases h; refine ⟨?_, Or.inr (by simp)⟩; simp [repS, sizeR, sizeL]; omega
    · split at h
      · cases h; refine ⟨?_, Or.inr (by simp)⟩; simp [repS, sizeR, sizeL]; omega
      · split at h
        · cases h; refine ⟨?_, Or.inr (by simp)⟩; simp [repS, sizeR, sizeL]; omega
        · split at h
          · split at h
            · rename_i hb
              cases h
              have := bounds_len hb
              refine ⟨?_, Or.inr (by simp; omega)⟩; simp [repS, sizeR, sizeL]; omega
            · cases h
          · cases h; simp
theorem wrap_size (k : Int) (acc : List Rx) : sizeR (wrapS k acc) ≤ sizeL acc + 1 := by
  unfold wrapS
  split
  · simp [sizeL]
  · simp only [sizeR]; omega
theorem wrap_one (k : Int) (x : Rx) : sizeR (wrapS k ([] ++ [x])) = sizeR x := rfl
theorem parse_size : ∀ n, (∀ l x r, atomP n l = some (x, r) → sizeR x + 2 * r.length ≤ 2 * l.length) ∧ (∀ l x r, itemP n l = some (x, r) → sizeR x + 2 * r.length ≤ 2 * l.length) ∧
    (∀ acc l x r, seqP n acc l = some (x, r) → sizeR x + 2 * r.length ≤ sizeL acc + 2 * l.length + 1) ∧
    (∀ acc l x r, altP n acc l = some (x, r) → sizeR x + 2 * r.length ≤ sizeL acc + 2 * l.length + (if acc = [] then 1 else 2))
  | 0 => ⟨fun l x r h => by simp [atomP] at h, fun l x r h => by simp [itemP] at h, fun acc l x r h => by simp [seqP] at h, fun acc l x r h => by simp [altP] at h⟩
  | n + 1 => by
    obtain ⟨h1, h2, h3, h4⟩ := parse_size n
    refine ⟨fun l x r h => ?_, fun l x r h => ?_, fun acc l x r h => ?_, fun acc l x r h => ?_⟩
    · cases l with
      | nil => simp [atomP] at h
      | cons c l =>
        unfold atomP at h
        split at h
        · split at h
          · rename_i y d l' hy
            split at h
            · cases h
              have := h4 _ _ _ _ hy
              simp [sizeL] at this ⊢
              omega
            · cases h
          · cases h
        · split at h
          · have := setS_len h; have := setS_size h; simp; omega
          · split at h
            · cases h; simp [sizeR, sizeL, setR]; omega
            · split at h
              · cases h; simp [sizeR, sizeL]; omega
              · split at h
                · cases h; simp [sizeR, sizeL]; omega
                · split at h
                  · cases l with
                    | nil => simp at h
                    | cons d l' =>
                      simp only at h
                      split at h
                      · cases h; simp [sizeR, sizeL]; omega
                      · split at h
                        · cases h; simp [sizeR, sizeL, setR]; omega
                        · cases h
                  · split at h
                    · cases h
                    · cases h; simp [sizeR, sizeL, setR]; omega
    · unfold itemP at h
      split at h
      · rename_i y l' hy
        have a := h1 _ _ _ hy
        obtain ⟨b1, b2⟩ := suffix_size h
        have b3 := suffix_len h
        omega
      · cases h
    · cases l with
      | nil => unfold seqP at h; cases h; have := wrap_size 2 acc; simp; omega
      | cons c l =>
        unfold seqP at h
        split at h
        · cases h; have := wrap_size 2 acc; simp; omega
        · split at h
          · rename_i y l' hy
            have a := h2 _ _ _ hy
            have b := h3 _ _ _ _ h
            rw [sizeL_app] at b
            omega
          · cases h
    · unfold altP at h
      split at h
      · cases h
      · rename_i y l' hy
        have a := h3 _ _ _ _ hy
        simp only [sizeL] at a
        have hw : sizeR (wrapS 3 (acc ++ [y])) ≤ sizeL acc + sizeR y + (if acc = [] then 0 else 1) := by
          by_cases ha : acc = []
          · subst ha
            rw [wrap_one]; simp [sizeL]
          · rw [if_neg ha]
            have := wrap_size 3 (acc ++ [y])
            rw [sizeL_app] at this
            omega
        have hif : (if acc = [] then 0 else 1) + 1 = (if acc = [] then 1 else 2) := by split <;> rfl
        split at h
        · cases h
          simp at a ⊢
          omega
        · rename_i c l''
          simp at a
          split at h
          · have b := h4 _ _ _ _ h
            rw [sizeL_app, if_neg (by simp)] at b
            have : 1 ≤ (if acc = [] then 1 else 2) := by split <;> omega
            omega
          · cases h
            simp at a ⊢
            omega
end Go.Proofs.YtlnbjdlooghpeaaGreatDoor
namespace Go.Proofs.YtlnbjdlooghpeaaGreatDoor
open Go.RowKit
def GotX (w : World) (p : Rx × Int) (e : Ending) (w' : World) : Prop :=
  ∃ v, e = .returned (.tuple #[v, .int .i64 p.2]) ∧ RxV w' (fun g => w.heap.size ≤ g) v p.1 ∧ Below w.heap.size w w'
end Go.Proofs.YtlnbjdlooghpeaaGreatDoor
namespace Go.Proofs.YtlnbjdlooghpeaaGreatDoor
open Go.RowKit
def PostX (p : Nat) (w : World) (l : List UInt8) (o : Option (Rx × List UInt8)) (e : Ending) (w' : World) : Prop :=
  ∃ (v : Value) (b : Bool) (l' : List UInt8) (x : Rx), e = .returned (.tuple #[v, .bool b]) ∧ RxV w' (fun g => w.heap.size ≤ g) v x ∧ PB w' p l' ∧ Bt p w w' ∧ l'.length ≤ l.length ∧ (∀ y r, o = some (y, r) → b = true ∧ x = y ∧ l' = r) ∧ (o = none → b = false)
def PAltC (n : Nat) : Prop := ∀ (p : Nat) (l : List UInt8) (w : World), PB w p l → l.length ≤ 20000 → 4 * l.length + 4 ≤ n → Calls Tryz.prog 44 #[.pointer (some ⟨p, 0, none⟩)] w (PostX p w l (altP n [] l))
def PSeqC (n : Nat) : Prop := ∀ (p : Nat) (l : List UInt8) (w : World), PB w p l → l.length ≤ 20000 → 4 * l.length + 3 ≤ n → Calls Tryz.prog 89 #[.pointer (some ⟨p, 0, none⟩)] w (PostX p w l (seqP n [] l))
def PItemC (n : Nat) : Prop := ∀ (p : Nat) (l : List UInt8) (w : World), PB w p l → l.length ≤ 20000 → 4 * l.length + 2 ≤ n → Calls Tryz.prog 119 #[.pointer (some ⟨p, 0, none⟩)] w (PostX p w l (itemP n l))
def PAtomC (n : Nat) : Prop := ∀ (p : Nat) (l : List UInt8) (w : World), PB w p l → l.length ≤ 20000 → 4 * l.length + 1 ≤ n → Calls Tryz.prog 145 #[.pointer (some ⟨p, 0, none⟩)] w (PostX p w l (atomP n l))
theorem postX_fin {p : Nat} {w wN : World} {l l' : List UInt8} {o : Option (Rx × List UInt8)} {x : Rx} {b : Bool} {u0 u1 u2 u3 u4 : Value} (hlt : p < w.heap.size) (hp : PB wN p l') (hb : Bt p w wN) (hl : l'.length ≤ l.length)
    (hx : RxV wN (fun g => w.heap.size + 1 ≤ g) (.agg #[u0, u1, u2, u3, u4]) x) (hy : ∀ y r, o = some (y, r) → b = true ∧ x = y ∧ l' = r) (hn : o = none → b = false) :
    PostX p w l o (.returned (.tuple #[.agg #[u0, u1, u2, u3, u4], .bool b])) (put5 wN w.heap.size u0 u1 u2 u3 u4) := by
  have hbl : Below w.heap.size wN (put5 wN w.heap.size u0 u1 u2 u3 u4) := put5_below (Below.refl _ _) (Nat.le_refl _)
  exact ⟨_, b, l', x, rfl, put5_rxv hx (Nat.lt_succ_self _) _ (Nat.le_succ _), (hbl.block p hlt).trans hp, hb.then_below hbl (Nat.le_refl _), hl, hy, hn⟩
def parP : Option (Rx × List UInt8) → Option (Rx × List UInt8)
  | none => none
  | some (r, m) => if tkB 41 m = true then some (r, tkR 41 m) else none
theorem atom_par {l : List UInt8} (n : Nat) (h : tkB 40 l = true) : atomP (n + 1) l = parP (altP n [] (tkR 40 l)) := by
  cases l with
  | nil => cases h
  | cons c r =>
    have hc : c = 40 := of_decide_eq_true h
    rw [atom_cons, if_pos hc, show tkR 40 (c :: r) = r from if_pos hc]
    cases altP n [] r with
    | none => rfl
    | some q =>
      obtain ⟨y, m⟩ := q
      cases m with
      | nil => rfl
      | cons d m =>
        show (if d = 41 then some (y, m) else none) = if decide (d = 41) = true then some (y, if d = 41 then m else d :: m) else none
        by_cases hd : d = 41
        · rw [if_pos hd, if_pos (decide_eq_true hd), if_pos hd]
        · rw [if_neg hd, if_neg (by simp [hd])]
theorem atom_begin {l : List UInt8} (n : Nat) (h40 : tkB 40 l = false) (h : tkB 94 l = true) : atomP (n + 1) l = some (.mk 5 [] 0 0 [], tkR 94 l) := by
  cases l with
  | nil => cases h
  | cons c r =>
    have hc : c = 94 := of_decide_eq_true h
    rw [show tkR 94 (c :: r) = r from if_pos hc]
    subst hc
    rw [atom_cons]
    rfl
theorem atom_end {l : List UInt8} (n : Nat) (h : tkB 36 l = true) : atomP (n + 1) l = some (.mk 6 [] 0 0 [], tkR 36 l) := by
  cases l with
  | nil => cases h
  | cons c r =>
    have hc : c = 36 := of_decide_eq_true h
    rw [show tkR 36 (c :: r) = r from if_pos hc]
    subst hc
    rw [atom_cons]
    rfl
theorem atom_word {l : List UInt8} (n : Nat) (h : tk2B 98 l = true) : atomP (n + 1) l = some (.mk 7 [] 0 0 [], tk2R 98 l) := by
  unfold tk2R
  rw [if_pos h]
  match l, h with
  | c :: d :: r, h =>
    unfold tk2B at h
    rw [Bool.and_eq_true, decide_eq_true_eq, decide_eq_true_eq] at h
    obtain ⟨rfl, rfl⟩ := h
    rw [atom_cons]
    rfl
theorem tk2_no {d : UInt8} {l : List UInt8} (h : tk2B d l = false) : tk2R d l = l := by unfold tk2R; rw [if_neg (by simp [h])]
theorem tk2R_len (d : UInt8) (l : List UInt8) : (tk2R d l).length ≤ l.length := by
  unfold tk2R
  split
  · rw [List.length_drop]; omega
  · exact Nat.le_refl _
theorem atom_rest {l : List UInt8} (n : Nat) (h40 : tkB 40 l = false) (h94 : tkB 94 l = false) (h36 : tkB 36 l = false) (h98 : tk2B 98 l = false) : atomP (n + 1) l = (setA l).map fun q => (setR q.1, q.2) := by
  cases l with
  | nil => rfl
  | cons c r =>
    refine atom_set n c r (of_decide_eq_false h40) (of_decide_eq_false h94) (of_decide_eq_false h36) ?_
    rintro ⟨rfl, h⟩
    cases r with
    | nil => cases h
    | cons d r =>
      have hd : d = 98 := Option.some.inj h
      subst hd
      cases h98
set_option maxRecDepth 100000 in
set_option maxHeartbeats 12800000 in
theorem atom88 (n : Nat) (hA : PAltC n) : PAtomC (n + 1) := by
  intro p l w h hl hn
  have HA := hide hA
  clear hA
  have hlt := h.lt
  obtain ⟨w0, hw0⟩ : ∃ w0, w.alloc (.cells #[.int .i64 0, .slice none 0 0, .int .i64 0, .int .i64 0, .slice none 0 0] 25) = w0 := ⟨_, rfl⟩
  have HF0 := hide (show FiveF w0 w.heap.size (.int .i64 0) (.slice none 0 0) (.int .i64 0) (.int .i64 0) (.slice none 0 0) by rw [← hw0]; exact fiveF_new w _ _ _ _ _ 25)
  have hb0 : Below w.heap.size w w0 := by rw [← hw0]; exact bnew (Below.refl _ w) _
  have hs0 : w.heap.size + 1 ≤ w0.heap.size := by rw [← hw0]; simp
  have HB0 := hide (Bt.of hb0 p)
  have P0 := hide (h.keep hb0)
  have HT40 := hide (take1 p l 40 w0 P0.out ⟨#[40]⟩ rfl)
  obtain ⟨E, hE⟩ : ∃ E, atomP (n + 1) l = E := ⟨_, rfl⟩
  rw [hE]
  clear h hb0
  cases h40 : tkB 40 l with
  | true =>
    rw [atom_par n h40] at hE
    rw [h40] at HT40
    have hlen := tk_yes h40
    obtain ⟨l1, hl1⟩ : ∃ l1, tkR 40 l = l1 := ⟨_, rfl⟩
    rw [hl1] at HT40 hlen hE
    have HAl := hide (fun W (h : PB W p l1) => HA.out p l1 W h (by omega) (by omega))
    obtain ⟨o, ho⟩ : ∃ o, altP n [] l1 = o := ⟨_, rfl⟩
    rw [ho] at HAl hE
    have HE := hide hE
    clear hE ho hl1 h40
    go_enter Tryz.func145, Tryz.ntmps145
    go_wp2_with fail
    with_reducible refine HT40.out.mono ?_
    rintro e w1 ⟨rfl, hp1, hb1⟩
    have hs1 := hb1.size
    have P1 := hide hp1
    have F1 := hide (HF0.out.bt hb1 (by omega))
    have B1 := hide (HB0.out.trans hb1)
    clear hp1 hb1
    go_wp2_with fail
    with_reducible refine (HAl.out w1 P1.out).mono ?_
    rintro e w3 ⟨v3, b3, l3, x3, rfl, hx3, hp3, hb3, hl3, hy3, hn3⟩
    obtain ⟨q0, qA, qn, qc, q1, q2, qB, qm, qd, rfl⟩ := hx3.agg9
    have hs3 := hb3.size
    have F3 := F1.out.bt hb3 (by omega)
    obtain ⟨w4, hw4⟩ : ∃ w4, w3.alloc (.cells #[.int .i64 q0, .slice qA qn qc, .int .i64 q1, .int .i64 q2, .slice qB qm qd] 25) = w4 := ⟨_, rfl⟩
    have hb4 : Below w3.heap.size w3 w4 := by rw [← hw4]; exact bnew (Below.refl _ w3) _
    have hs4 : w4.heap.size = w3.heap.size + 1 := by rw [← hw4]; simp
    have G4 := hide (show Five w4 w3.heap.size (.int .i64 q0) (.slice qA qn qc) (.int .i64 q1) (.int .i64 q2) (.slice qB qm qd) by rw [← hw4]; exact five_new w3 _ _ _ _ _ 25)
    have F4 := hide (F3.at_ hb4 (by omega))
    have P4 := hide (hp3.keep hb4)
    have B4 := hide ((B1.out.trans hb3).trans (Bt.of hb4 p))
    have X4 := hide ((hx3.map (fun q hq hqlt => (hb4.cell hqlt)) (fun g hg _ => (⟨hg, Nat.le_trans hs0 (Nat.le_trans hs1 hg)⟩ : w1.heap.size ≤ g ∧ w.heap.size + 1 ≤ g))))
    have HT41 := hide (fun W (h : PB W p l3) => take1 p l3 41 W h ⟨#[41]⟩ rfl)
    have hr3 := tkR_len 41 l3
    have Hl3 := hide (show (tkR 41 l3).length ≤ l.length by omega)
    have HF := hide (show (∀ y r, E = some (y, r) → b3 = true ∧ tkB 41 l3 = true ∧ x3 = y ∧ tkR 41 l3 = r) ∧ (E = none → (b3 && tkB 41 l3) = false) by
      rw [← HE.out]
      cases o with
      | none => exact ⟨fun y r h => (by cases h), fun _ => (by rw [hn3 rfl]; rfl)⟩
      | some q =>
        obtain ⟨y0, m0⟩ := q
        obtain ⟨e1, e2, e3⟩ := hy3 y0 m0 rfl
        subst e2 e3
        show (∀ y r, (if tkB 41 l3 = true then some (x3, tkR 41 l3) else none) = some (y, r) → _) ∧ ((if tkB 41 l3 = true then some (x3, tkR 41 l3) else none) = none → _)
        by_cases ht : tkB 41 l3 = true
        · rw [if_pos ht]
          exact ⟨fun y r h => (by cases h; exact ⟨e1, ht, rfl, rfl⟩), fun h => (by cases h)⟩
        · rw [if_neg ht]
          exact ⟨fun y r h => (by cases h), fun _ => (by rw [Bool.eq_false_iff.2 ht, Bool.and_false])⟩)
    have hpw : p < w3.heap.size := by omega
    clear hx3 hp3 hb3 hl3 hy3 hn3 F3 hb4 hr3 hlen hl hn
    have g4 := G4.out
    obtain ⟨-, a0, a1, a2, a3, a4⟩ := g4
    obtain ⟨tt, htt⟩ : ∃ tt, tkB 41 l3 = tt := ⟨_, rfl⟩
    obtain ⟨l5, hl5⟩ : ∃ l5, tkR 41 l3 = l5 := ⟨_, rfl⟩
    rw [htt, hl5] at HT41 HF
    rw [hl5] at Hl3
    clear htt hl5
    have Pd := hide (show PB w4.drew p l3 from P4.out)
    have Fd := hide (F4.out.at_ (Drawn.below ⟨1, rfl⟩ w4.heap.size : Below w4.heap.size w4 w4.drew) (by omega))
    have Gd := hide (show Five w4.drew w3.heap.size (.int .i64 q0) (.slice qA qn qc) (.int .i64 q1) (.int .i64 q2) (.slice qB qm qd) from G4.out)
    have Bd := hide (B4.out.trans (Bt.of (Drawn.below ⟨1, rfl⟩ w4.heap.size : Below w4.heap.size w4 w4.drew) p))
    have Xd := hide (X4.out.map (W' := w4.drew) (fun _ _ _ => rfl) (fun g hg _ => (⟨by have := hg.1; omega, hg.2⟩ : g ≠ p ∧ w.heap.size + 1 ≤ g)))
    clear G4 F4 P4 B4 X4
    cases tt with
    | true =>
      cases b3 with
      | true =>
        go_upto_region 3 with (fail)
        clear hw4
        go_region_with (first
          | (go_at_call 90; (with_reducible refine (HT41.out _ Pd.out).mono ?_); rintro e w9 ⟨rfl, hp9, hb9⟩; have F9 := Fd.out.bt hb9 (by omega); have G9 := Gd.out.bt hb9 (by omega); have B9 := hide (Bd.out.trans hb9); have P9 := hide hp9; have X9 := hide (Xd.out.map (fun q hq hlt => hb9.cell hlt hq.1) (fun g hg _ => hg.2)); have H9 := hide F9; obtain ⟨-, g1, g2, g3, g4, g5⟩ := G9; obtain ⟨⟨-, f1, f2, f3, f4, f5⟩, f6, f7, f8, f9, f10⟩ := F9))
        all_goals
          go_wp2
          exact bodyPost_ret (res_two (fn := Tryz.f145) (p := 2) (u := 3) rfl _ _ w.heap.size _ _ _ _ _ (.bool true) rfl rfl (put5_five H9.out (.int .i64 q0) (.slice qA qn qc) (.int .i64 q1) (.int .i64 q2) (.slice qB qm qd))) rfl (postX_fin hlt P9.out B9.out Hl3.out X9.out (fun y r h => ⟨rfl, (HF.out.1 y r h).2.2⟩) (fun h => absurd (HF.out.2 h) (by simp)))
      | false =>
        go_upto_region 3 with (fail)
        clear hw4
        go_region_with (first
          | (go_at_call 90; (with_reducible refine (HT41.out _ Pd.out).mono ?_); rintro e w9 ⟨rfl, hp9, hb9⟩; have F9 := Fd.out.bt hb9 (by omega); have G9 := Gd.out.bt hb9 (by omega); have B9 := hide (Bd.out.trans hb9); have P9 := hide hp9; have X9 := hide (Xd.out.map (fun q hq hlt => hb9.cell hlt hq.1) (fun g hg _ => hg.2)); have H9 := hide F9; obtain ⟨-, g1, g2, g3, g4, g5⟩ := G9; obtain ⟨⟨-, f1, f2, f3, f4, f5⟩, f6, f7, f8, f9, f10⟩ := F9))
        all_goals
          go_wp2
          exact bodyPost_ret (res_two (fn := Tryz.f145) (p := 2) (u := 3) rfl _ _ w.heap.size _ _ _ _ _ (.bool false) rfl rfl (put5_five H9.out (.int .i64 q0) (.slice qA qn qc) (.int .i64 q1) (.int .i64 q2) (.slice qB qm qd))) rfl (postX_fin hlt P9.out B9.out Hl3.out X9.out (fun y r h => absurd (HF.out.1 y r h).1 (by simp)) (fun _ => rfl))
    | false =>
      cases b3 with
      | true =>
        go_upto_region 3 with (fail)
        clear hw4
        first
          | (go_region_with (first | (go_at_call 90; (with_reducible refine (HT41.out _ Pd.out).mono ?_); rintro e w9 ⟨rfl, hp9, hb9⟩; have F9 := Fd.out.bt hb9 (by omega); have G9 := Gd.out.bt hb9 (by omega); have B9 := hide (Bd.out.trans hb9); have P9 := hide hp9; have X9 := hide (Xd.out.map (fun q hq hlt => hb9.cell hlt hq.1) (fun g hg _ => hg.2)); have H9 := hide F9; obtain ⟨-, g1, g2, g3, g4, g5⟩ := G9; obtain ⟨⟨-, f1, f2, f3, f4, f5⟩, f6, f7, f8, f9, f10⟩ := F9)))
          | fail
        all_goals
          go_wp2
          exact bodyPost_ret (res_two (fn := Tryz.f145) (p := 2) (u := 3) rfl _ _ w.heap.size _ _ _ _ _ (.bool false) rfl rfl (put5_five H9.out (.int .i64 q0) (.slice qA qn qc) (.int .i64 q1) (.int .i64 q2) (.slice qB qm qd))) rfl (postX_fin hlt P9.out B9.out Hl3.out X9.out (fun y r h => absurd (HF.out.1 y r h).2.1 (by simp)) (fun _ => rfl))
      | false =>
        go_upto_region 3 with (fail)
        clear hw4
        first
          | (go_region_with (first | (go_at_call 90; (with_reducible refine (HT41.out _ Pd.out).mono ?_); rintro e w9 ⟨rfl, hp9, hb9⟩; have F9 := Fd.out.bt hb9 (by omega); have G9 := Gd.out.bt hb9 (by omega); have B9 := hide (Bd.out.trans hb9); have P9 := hide hp9; have X9 := hide (Xd.out.map (fun q hq hlt => hb9.cell hlt hq.1) (fun g hg _ => hg.2)); have H9 := hide F9; obtain ⟨-, g1, g2, g3, g4, g5⟩ := G9; obtain ⟨⟨-, f1, f2, f3, f4, f5⟩, f6, f7, f8, f9, f10⟩ := F9)))
          | fail
        all_goals
          go_wp2
          exact bodyPost_ret (res_two (fn := Tryz.f145) (p := 2) (u := 3) rfl _ _ w.heap.size _ _ _ _ _ (.bool false) rfl rfl (put5_five H9.out (.int .i64 q0) (.slice qA qn qc) (.int .i64 q1) (.int .i64 q2) (.slice qB qm qd))) rfl (postX_fin hlt P9.out B9.out Hl3.out X9.out (fun y r h => absurd (HF.out.1 y r h).2.1 (by simp)) (fun _ => rfl))
  | false =>
    rw [h40, tk_no h40] at HT40
    have HT94 := hide (fun W (h : PB W p l) => take1 p l 94 W h ⟨#[94]⟩ rfl)
    cases h94 : tkB 94 l with
    | true =>
      rw [atom_begin n h40 h94] at hE
      rw [h94] at HT94
      have Hlen := hide (tkR_len 94 l)
      have HE := hide hE
      clear hE h40 h94
      obtain ⟨l5, hl5⟩ : ∃ l5, tkR 94 l = l5 := ⟨_, rfl⟩
      rw [hl5] at HT94 Hlen HE
      clear hl5
      go_enter Tryz.func145, Tryz.ntmps145
      go_wp2_with fail
      with_reducible refine HT40.out.mono ?_
      rintro e w1 ⟨rfl, hp1, hb1⟩
      have hs1 := hb1.size
      have P1 := hide hp1
      have F1 := hide (HF0.out.bt hb1 (by omega))
      have B1 := hide (HB0.out.trans hb1)
      clear hp1 hb1
      go_wp2_with fail
      with_reducible refine (HT94.out w1 P1.out).mono ?_
      rintro e w2 ⟨rfl, hp2, hb2⟩
      have hs2 := hb2.size
      have P2 := hide hp2
      have F2 := hide (F1.out.bt hb2 (by omega))
      have B2 := hide (B1.out.trans hb2)
      clear hp2 hb2
      have H9 := F2
      obtain ⟨⟨-, f1, f2, f3, f4, f5⟩, f6, f7, f8, f9, f10⟩ := F2.out
      go_wp2
      exact bodyPost_ret (res_two rfl _ _ w.heap.size _ _ _ _ _ _ rfl rfl (put5_five H9.out (.int .i64 5) (.slice none 0 0) (.int .i64 0) (.int .i64 0) (.slice none 0 0))) rfl (postX_fin hlt P2.out B2.out Hlen.out (rxv_kind 5 (by omega)) (fun y r h => by rw [← HE.out] at h; cases h; exact ⟨rfl, rfl, rfl⟩) (fun h => by rw [← HE.out] at h; cases h))
    | false =>
      rw [h94, tk_no h94] at HT94
      have HT36 := hide (fun W (h : PB W p l) => take1 p l 36 W h ⟨#[36]⟩ rfl)
      cases h36 : tkB 36 l with
      | true =>
        rw [atom_end n h36] at hE
        rw [h36] at HT36
        have Hlen := hide (tkR_len 36 l)
        have HE := hide hE
        clear hE h40 h94 h36
        obtain ⟨l5, hl5⟩ : ∃ l5, tkR 36 l = l5 := ⟨_, rfl⟩
        rw [hl5] at HT36 Hlen HE
        clear hl5
        go_enter Tryz.func145, Tryz.ntmps145
        go_wp2_with fail
        with_reducible refine HT40.out.mono ?_
        rintro e w1 ⟨rfl, hp1, hb1⟩
        have hs1 := hb1.size
        have P1 := hide hp1
        have F1 := hide (HF0.out.bt hb1 (by omega))
        have B1 := hide (HB0.out.trans hb1)
        clear hp1 hb1
        go_wp2_with fail
        with_reducible refine (HT94.out w1 P1.out).mono ?_
        rintro e w2 ⟨rfl, hp2, hb2⟩
        have hs2 := hb2.size
        have P2 := hide hp2
        have F2 := hide (F1.out.bt hb2 (by omega))
        have B2 := hide (B1.out.trans hb2)
        clear hp2 hb2
        go_wp2_with fail
        with_reducible refine (HT36.out w2 P2.out).mono ?_
        rintro e w3 ⟨rfl, hp3, hb3⟩
        have hs3 := hb3.size
        have P3 := hide hp3
        have F3 := hide (F2.out.bt hb3 (by omega))
        have B3 := hide (B2.out.trans hb3)
        clear hp3 hb3
        have H9 := F3
        obtain ⟨⟨-, f1, f2, f3, f4, f5⟩, f6, f7, f8, f9, f10⟩ := F3.out
        go_wp2
        exact bodyPost_ret (res_two rfl _ _ w.heap.size _ _ _ _ _ _ rfl rfl (put5_five H9.out (.int .i64 6) (.slice none 0 0) (.int .i64 0) (.int .i64 0) (.slice none 0 0))) rfl (postX_fin hlt P3.out B3.out Hlen.out (rxv_kind 6 (by omega)) (fun y r h => by rw [← HE.out] at h; cases h; exact ⟨rfl, rfl, rfl⟩) (fun h => by rw [← HE.out] at h; cases h))
      | false =>
        rw [h36, tk_no h36] at HT36
        have HT98 := hide (fun W (h : PB W p l) => take2 p l 98 W h ⟨#[92, 98]⟩ rfl)
        cases h98 : tk2B 98 l with
        | true =>
          rw [atom_word n h98] at hE
          rw [h98] at HT98
          have Hlen := hide (tk2R_len 98 l)
          have HE := hide hE
          clear hE h40 h94 h36 h98
          obtain ⟨l5, hl5⟩ : ∃ l5, tk2R 98 l = l5 := ⟨_, rfl⟩
          rw [hl5] at HT98 Hlen HE
          clear hl5
          go_enter Tryz.func145, Tryz.ntmps145
          go_wp2_with fail
          with_reducible refine HT40.out.mono ?_
          rintro e w1 ⟨rfl, hp1, hb1⟩
          have hs1 := hb1.size
          have P1 := hide hp1
          have F1 := hide (HF0.out.bt hb1 (by omega))
          have B1 := hide (HB0.out.trans hb1)
          clear hp1 hb1
          go_wp2_with fail
          with_reducible refine (HT94.out w1 P1.out).mono ?_
          rintro e w2 ⟨rfl, hp2, hb2⟩
          have hs2 := hb2.size
          have P2 := hide hp2
          have F2 := hide (F1.out.bt hb2 (by omega))
          have B2 := hide (B1.out.trans hb2)
          clear hp2 hb2
          go_wp2_with fail
          with_reducible refine (HT36.out w2 P2.out).mono ?_
          rintro e w3 ⟨rfl, hp3, hb3⟩
          have hs3 := hb3.size
          have P3 := hide hp3
          have F3 := hide (F2.out.bt hb3 (by omega))
          have B3 := hide (B2.out.trans hb3)
          clear hp3 hb3
          go_wp2_with fail
          with_reducible refine (HT98.out w3 P3.out).mono ?_
          rintro e w4 ⟨rfl, hp4, hb4⟩
          have hs4 := hb4.size
          have P4 := hide hp4
          have F4 := hide (F3.out.bt hb4 (by omega))
          have B4 := hide (B3.out.trans hb4)
          clear hp4 hb4
          have H9 := F4
          obtain ⟨⟨-, f1, f2, f3, f4, f5⟩, f6, f7, f8, f9, f10⟩ := F4.out
          go_wp2
          exact bodyPost_ret (res_two rfl _ _ w.heap.size _ _ _ _ _ _ rfl rfl (put5_five H9.out (.int .i64 7) (.slice none 0 0) (.int .i64 0) (.int .i64 0) (.slice none 0 0))) rfl (postX_fin hlt P4.out B4.out Hlen.out (rxv_kind 7 (by omega)) (fun y r h => by rw [← HE.out] at h; cases h; exact ⟨rfl, rfl, rfl⟩) (fun h => by rw [← HE.out] at h; cases h))
        | false =>
          rw [h98, tk2_no h98] at HT98
          rw [atom_rest n h40 h94 h36 h98] at hE
          have HS := hide (fun W (h : PB W p l) => set100 p l W h hl)
          obtain ⟨o, ho⟩ : ∃ o, setA l = o := ⟨_, rfl⟩
          rw [ho] at HS hE
          have HE := hide hE
          clear hE h40 h94 h36 h98 ho
          go_enter Tryz.func145, Tryz.ntmps145
          go_wp2_with fail
          with_reducible refine HT40.out.mono ?_
          rintro e w1 ⟨rfl, hp1, hb1⟩
          have hs1 := hb1.size
          have P1 := hide hp1
          have F1 := hide (HF0.out.bt hb1 (by omega))
          have B1 := hide (HB0.out.trans hb1)
          clear hp1 hb1
          go_wp2_with fail
          with_reducible refine (HT94.out w1 P1.out).mono ?_
          rintro e w2 ⟨rfl, hp2, hb2⟩
          have hs2 := hb2.size
          have P2 := hide hp2
          have F2 := hide (F1.out.bt hb2 (by omega))
          have B2 := hide (B1.out.trans hb2)
          clear hp2 hb2
          go_wp2_with fail
          with_reducible refine (HT36.out w2 P2.out).mono ?_
          rintro e w3 ⟨rfl, hp3, hb3⟩
          have hs3 := hb3.size
          have P3 := hide hp3
          have F3 := hide (F2.out.bt hb3 (by omega))
          have B3 := hide (B2.out.trans hb3)
          clear hp3 hb3
          go_wp2_with fail
          with_reducible refine (HT98.out w3 P3.out).mono ?_
          rintro e w4 ⟨rfl, hp4, hb4⟩
          have hs4 := hb4.size
          have P4 := hide hp4
          have F4 := hide (F3.out.bt hb4 (by omega))
          have B4 := hide (B3.out.trans hb4)
          clear hp4 hb4
          go_wp2_with fail
          with_reducible refine (HS.out w4 P4.out).mono ?_
          rintro e w5 ⟨A, m, c, b, set, l', rfl, hS5, hp5, hb5, hl5, hy5, hn5⟩
          have hs5 := hb5.size
          have P5 := hide hp5
          have F5 := hide (F4.out.bt hb5 (by omega))
          have B5 := hide (B4.out.trans hb5)
          clear hp5 hb5
          have S5 := hide (hS5.map (fun _ _ _ => rfl) (fun g hg _ => (Nat.le_trans (Nat.le_trans hs0 (Nat.le_trans hs1 (Nat.le_trans hs2 (Nat.le_trans hs3 hs4)))) hg : w.heap.size + 1 ≤ g)))
          have Hlen := hide hl5
          have HF := hide (show (∀ y r, E = some (y, r) → b = true ∧ setR set = y ∧ l' = r) ∧ (E = none → b = false) by
            rw [← HE.out]
            cases o with
            | none => exact ⟨fun y r h => (by cases h), fun _ => hn5 rfl⟩
            | some q =>
              obtain ⟨h1, h2, h3⟩ := hy5 q.1 q.2 rfl
              exact ⟨fun y r h => (by cases h; exact ⟨h1, by rw [h2], h3⟩), fun h => (by cases h)⟩)
          clear hS5 hl5 hy5 hn5
          have H9 := F5
          obtain ⟨⟨-, f1, f2, f3, f4, f5⟩, f6, f7, f8, f9, f10⟩ := F5.out
          go_wp2
          exact bodyPost_ret (res_two (fn := Tryz.f145) (p := 2) (u := 3) rfl _ _ w.heap.size _ _ _ _ _ (.bool b) rfl rfl (put5_five H9.out (.int .i64 1) (.slice A m c) (.int .i64 0) (.int .i64 0) (.slice none 0 0))) rfl (postX_fin hlt P5.out B5.out Hlen.out (rxv_set S5.out) HF.out.1 HF.out.2)
theorem suf_tk (x : Rx) (l : List UInt8) : suffixP x l = if tkB 42 l = true then some (repS x 0 (-1), tkR 42 l) else if tkB 43 l = true then some (repS x 1 (-1), tkR 43 l) else if tkB 63 l = true then some (repS x 0 1, tkR 63 l) else
    if tkB 123 l = true then (match boundsS (tkR 123 l) with | some (m, n, l') => some (repS x m n, l') | none => none) else some (x, l) := by
  cases l with
  | nil => rfl
  | cons c r =>
    have key : ∀ d : UInt8, (tkB d (c :: r) = true ↔ c = d) ∧ (c = d → tkR d (c :: r) = r) := fun d => ⟨decide_eq_true_iff, fun h => if_pos h⟩
    show (if c = 42 then some (repS x 0 (-1), r) else if c = 43 then some (repS x 1 (-1), r) else if c = 63 then some (repS x 0 1, r) else if c = 123 then (match boundsS r with | some (m, n, l') => some (repS x m n, l') | none => none) else some (x, c :: r)) = _
    by_cases h1 : c = 42
    · rw [if_pos h1, if_pos ((key 42).1.2 h1), (key 42).2 h1]
    rw [if_neg h1, if_neg (fun h => h1 ((key 42).1.1 h))]
    by_cases h2 : c = 43
    · rw [if_pos h2, if_pos ((key 43).1.2 h2), (key 43).2 h2]
    rw [if_neg h2, if_neg (fun h => h2 ((key 43).1.1 h))]
    by_cases h3 : c = 63
    · rw [if_pos h3, if_pos ((key 63).1.2 h3), (key 63).2 h3]
    rw [if_neg h3, if_neg (fun h => h3 ((key 63).1.1 h))]
    by_cases h4 : c = 123
    · rw [if_pos h4, if_pos ((key 123).1.2 h4), (key 123).2 h4]
    rw [if_neg h4, if_neg (fun h => h4 ((key 123).1.1 h))]
theorem item_step (n : Nat) (l : List UInt8) : itemP (n + 1) l = match atomP n l with | some (r, l') => suffixP r l' | none => none := rfl
theorem fiveF_set2 {w : World} {b : Nat} {c0 c1 c2 c3 c4 : Value} (h : FiveF w b c0 c1 c2 c3 c4) (u : Value) : FiveF (w.setCell ⟨b, 2, none⟩ u) b c0 c1 u c3 c4 := by
  obtain ⟨⟨h0, h1, h2, h3, h4, h5⟩, f0, f1, f2, f3, f4⟩ := h
  refine ⟨⟨by simpa [World.setCell] using h0, ?_, ?_, ?_, ?_, ?_⟩, by rw [World.frozen?_setCell]; exact f0, by rw [World.frozen?_setCell]; exact f1, by rw [World.frozen?_setCell]; exact f2, by rw [World.frozen?_setCell]; exact f3, by rw [World.frozen?_setCell]; exact f4⟩
  · rw [set_off _ _ _ _ _ (by decide)]; exact h1
  · rw [set_off _ _ _ _ _ (by decide)]; exact h2
  · exact World.cell?_setCell_same _ _ _ h3
  · rw [set_off _ _ _ _ _ (by decide)]; exact h4
  · rw [set_off _ _ _ _ _ (by decide)]; exact h5
theorem fiveF_set3 {w : World} {b : Nat} {c0 c1 c2 c3 c4 : Value} (h : FiveF w b c0 c1 c2 c3 c4) (u : Value) : FiveF (w.setCell ⟨b, 3, none⟩ u) b c0 c1 c2 u c4 := by
  obtain ⟨⟨h0, h1, h2, h3, h4, h5⟩, f0, f1, f2, f3, f4⟩ := h
  refine ⟨⟨by simpa [World.setCell] using h0, ?_, ?_, ?_, ?_, ?_⟩, by rw [World.frozen?_setCell]; exact f0, by rw [World.frozen?_setCell]; exact f1, by rw [World.frozen?_setCell]; exact f2, by rw [World.frozen?_setCell]; exact f3, by rw [World.frozen?_setCell]; exact f4⟩
  · rw [set_off _ _ _ _ _ (by decide)]; exact h1
  · rw [set_off _ _ _ _ _ (by decide)]; exact h2
  · rw [set_off _ _ _ _ _ (by decide)]; exact h3
  · exact World.cell?_setCell_same _ _ _ h4
  · rw [set_off _ _ _ _ _ (by decide)]; exact h5
structure ItS (p : Nat) (w w4 W : World) (b2 b4 b6 : Nat) (m : List UInt8) (d0 d1 d2 d3 d4 c0 c1 c2 c3 c4 : Value) : Prop where
  F : FiveF W b2 (.int .i64 0) (.slice none 0 0) (.int .i64 0) (.int .i64 0) (.slice none 0 0)
  G : Five W b4 d0 d1 d2 d3 d4
  S : FiveF W b6 c0 c1 c2 c3 c4
  P : PB W p m
  B : Bt p w W
  H : ∀ q : Addr, q.block < w4.heap.size → q.block ≠ p → q.block ≠ b6 → W.cell? q = w4.cell? q
  sz : w4.heap.size ≤ W.heap.size
theorem ItS.call {p : Nat} {w w4 W W' : World} {b2 b4 b6 : Nat} {m m' : List UInt8} {d0 d1 d2 d3 d4 c0 c1 c2 c3 c4 : Value} (h : ItS p w w4 W b2 b4 b6 m d0 d1 d2 d3 d4 c0 c1 c2 c3 c4) (hp : PB W' p m') (hb : Bt p W W') (n2 : b2 ≠ p) (n4 : b4 ≠ p) (n6 : b6 ≠ p) : ItS p w w4 W' b2 b4 b6 m' d0 d1 d2 d3 d4 c0 c1 c2 c3 c4 :=
  ⟨h.F.bt hb n2, h.G.bt hb n4, h.S.bt hb n6, hp, h.B.trans hb, fun q hq h1 h2 => (hb.cell (Nat.lt_of_lt_of_le hq h.sz) h1).trans (h.H q hq h1 h2), Nat.le_trans h.sz hb.size⟩
theorem ItS.set {p : Nat} {w w4 W W' : World} {b2 b4 b6 : Nat} {m : List UInt8} {d0 d1 d2 d3 d4 c0 c1 c2 c3 c4 e0 e1 e2 e3 e4 : Value} (h : ItS p w w4 W b2 b4 b6 m d0 d1 d2 d3 d4 c0 c1 c2 c3 c4) (o : Nat) (u : Value) (hW : W' = W.setCell ⟨b6, o, none⟩ u) (hS : FiveF W' b6 e0 e1 e2 e3 e4) (n2 : b2 < b6) (n4 : b4 < b6) (np : p < b6) (hw : w.heap.size ≤ b6) : ItS p w w4 W' b2 b4 b6 m d0 d1 d2 d3 d4 e0 e1 e2 e3 e4 := by
  have hb : Below b6 W W' := by rw [hW]; exact (Below.refl b6 W).setCell (by exact Nat.le_refl _) _
  obtain ⟨g0, g1, g2, g3, g4, g5⟩ := h.G
  have key : ∀ (k : Nat) (u : Value), W.cell? ⟨b4, k, none⟩ = some u → W'.cell? ⟨b4, k, none⟩ = some u := fun k u hu => (hb.cell (p := ⟨b4, k, none⟩) n4).trans hu
  exact ⟨h.F.at_ hb n2, ⟨Nat.lt_of_lt_of_le g0 hb.size, key _ _ g1, key _ _ g2, key _ _ g3, key _ _ g4, key _ _ g5⟩, hS, (hb.block p np).trans h.P, h.B.then_below hb hw,
    fun q hq h1 h2 => (by rw [hW]; exact World.cell?_setCell_other _ _ _ _ (fun e => h2 (congrArg Addr.block e).symm) : W'.cell? q = W.cell? q).trans (h.H q hq h1 h2), Nat.le_trans h.sz hb.size⟩
set_option maxRecDepth 100000 in
set_option maxHeartbeats 12800000 in
theorem item71 (n : Nat) (hA : PAtomC n) : PItemC (n + 1) := by
  intro p l w h hl hn
  have hlt := h.lt
  obtain ⟨w0, hw0⟩ : ∃ w0, w.alloc (.cells #[.int .i64 0, .slice none 0 0, .int .i64 0, .int .i64 0, .slice none 0 0] 25) = w0 := ⟨_, rfl⟩
  have HF0 := hide (show FiveF w0 w.heap.size (.int .i64 0) (.slice none 0 0) (.int .i64 0) (.int .i64 0) (.slice none 0 0) by rw [← hw0]; exact fiveF_new w _ _ _ _ _ 25)
  have hb0 : Below w.heap.size w w0 := by rw [← hw0]; exact bnew (Below.refl _ w) _
  have hs0 : w.heap.size + 1 ≤ w0.heap.size := by rw [← hw0]; simp
  have HB0 := hide (Bt.of hb0 p)
  have P0 := hide (h.keep hb0)
  have HA0 := hide (hA p l w0 P0.out hl (by omega))
  obtain ⟨E, hE⟩ : ∃ E, itemP (n + 1) l = E := ⟨_, rfl⟩
  rw [hE]
  rw [item_step] at hE
  obtain ⟨o, ho⟩ : ∃ o, atomP n l = o := ⟨_, rfl⟩
  rw [ho] at HA0 hE
  have HE := hide hE
  clear h hb0 hA hE ho
  go_enter Tryz.func119, Tryz.ntmps119
  go_wp2_with fail
  with_reducible refine HA0.out.mono ?_
  rintro e w1 ⟨v1, b1, l1, x1, rfl, hx1, hp1, hb1, hl1, hy1, hn1⟩
  obtain ⟨q0, qA, qn, qc, q1, q2, qB, qm, qd, rfl⟩ := hx1.agg9
  have hs1 := hb1.size
  obtain ⟨w2, hw2⟩ : ∃ w2, w1.alloc (.cells #[.int .i64 q0, .slice qA qn qc, .int .i64 q1, .int .i64 q2, .slice qB qm qd] 25) = w2 := ⟨_, rfl⟩
  have hb2 : Below w1.heap.size w1 w2 := by rw [← hw2]; exact bnew (Below.refl _ w1) _
  have hs2 : w2.heap.size = w1.heap.size + 1 := by rw [← hw2]; simp
  have g2 : Five w2 w1.heap.size (.int .i64 q0) (.slice qA qn qc) (.int .i64 q1) (.int .i64 q2) (.slice qB qm qd) := by rw [← hw2]; exact five_new w1 _ _ _ _ _ 25
  have x2 : RxV w2 (fun g => w0.heap.size ≤ g) (.agg #[.int .i64 q0, .slice qA qn qc, .int .i64 q1, .int .i64 q2, .slice qB qm qd]) x1 := hx1.map (fun q _ hq => hb2.cell hq) (fun g hg _ => hg)
  have p2 := hp1.keep hb2
  have F2 := hide ((HF0.out.bt hb1 (by omega)).at_ hb2 (by omega))
  have B2 := hide ((HB0.out.trans hb1).trans (Bt.of hb2 p))
  cases b1 with
  | false =>
    have hnone : E = none := by
      rw [← HE.out]
      cases o with
      | none => rfl
      | some q => exact absurd (hy1 q.1 q.2 rfl).1 (by simp)
    have HEn := hide hnone
    have P2 := hide p2
    have Hl := hide hl1
    clear hx1 hp1 hb1 hy1 hn1 hb2 hs2 g2 x2 p2 hl1 hnone
    obtain ⟨⟨-, f1, f2, f3, f4, f5⟩, f6, f7, f8, f9, f10⟩ := F2.out
    go_wp2
    exact bodyPost_ret (res_two (fn := Tryz.f119) (p := 2) (u := 3) rfl _ _ w.heap.size _ _ _ _ _ (.bool false) rfl rfl (put5_five F2.out (.int .i64 0) (.slice none 0 0) (.int .i64 0) (.int .i64 0) (.slice none 0 0))) rfl (postX_fin hlt P2.out B2.out Hl.out rxv_zero (fun y r h => by rw [HEn.out] at h; cases h) (fun _ => rfl))
  | true =>
    have hE2 : suffixP x1 l1 = E := by
      rw [← HE.out]
      cases o with
      | none => exact absurd (hn1 rfl) (by simp)
      | some q =>
        obtain ⟨_, h1, h2⟩ := hy1 q.1 q.2 rfl
        rw [h1, h2]
    rw [suf_tk] at hE2
    have HE2 := hide hE2
    obtain ⟨w3, hw3⟩ : ∃ w3, w2.alloc (.cells #[.int .i64 q0, .slice qA qn qc, .int .i64 q1, .int .i64 q2, .slice qB qm qd] 25) = w3 := ⟨_, rfl⟩
    have hb3 : Below w2.heap.size w2 w3 := by rw [← hw3]; exact bnew (Below.refl _ w2) _
    have hs3 : w3.heap.size = w2.heap.size + 1 := by rw [← hw3]; simp
    obtain ⟨w4, hw4⟩ : ∃ w4, w3.alloc (.cells #[.int .i64 4, .slice none 0 0, .int .i64 0, .int .i64 (-1), .slice (some ⟨w2.heap.size, 0, none⟩) 1 1] 25) = w4 := ⟨_, rfl⟩
    have hb4 : Below w3.heap.size w3 w4 := by rw [← hw4]; exact bnew (Below.refl _ w3) _
    have hs4 : w4.heap.size = w3.heap.size + 1 := by rw [← hw4]; simp
    have f4 : FiveF w4 w3.heap.size (.int .i64 4) (.slice none 0 0) (.int .i64 0) (.int .i64 (-1)) (.slice (some ⟨w2.heap.size, 0, none⟩) 1 1) := by rw [← hw4]; exact fiveF_new w3 _ _ _ _ _ 25
    have RR := hide (show ∀ a b : Int, (-1 ≤ a ∧ a ≤ 1000) → (-1 ≤ b ∧ b ≤ 1000) → RxV w4 (fun g => w.heap.size + 1 ≤ g ∧ g < w3.heap.size ∧ g ≠ p) (.agg #[.int .i64 4, .slice none 0 0, .int .i64 a, .int .i64 b, .slice (some ⟨w2.heap.size, 0, none⟩) 1 1]) (repS x1 a b) from fun a b ha hb => by
      have := (ownX_lit w2 _ _ _ _ _ _ (w.heap.size + 1) (by omega) (x2.map (fun _ _ _ => rfl) (fun g hg _ => Nat.le_trans hs0 hg))).rep a b ha hb
      rw [hw3] at this
      exact this.map (fun q _ hq => hb4.cell hq) (fun g hg hlt' => ⟨hg, hlt', by omega⟩))
    have X4 := hide (show RxV w4 (fun g => w.heap.size + 1 ≤ g ∧ g < w3.heap.size ∧ g ≠ p) (.agg #[.int .i64 q0, .slice qA qn qc, .int .i64 q1, .int .i64 q2, .slice qB qm qd]) x1 from
      (x2.map (W' := w3) (ok' := fun g => w0.heap.size ≤ g) (fun q _ hq => hb3.cell hq) (fun g hg _ => hg)).map (fun q _ hq => hb4.cell hq) (fun g hg hlt' => ⟨by omega, hlt', by omega⟩))
    have I4 := hide (show ItS p w w4 w4 w.heap.size w1.heap.size w3.heap.size l1 _ _ _ _ _ _ _ _ _ _ from ⟨(F2.out.at_ hb3 (by omega)).at_ hb4 (by omega), (g2.keep hb3).keep hb4, f4, (p2.keep hb3).keep hb4, (B2.out.trans (Bt.of hb3 p)).trans (Bt.of hb4 p), fun _ _ _ _ => rfl, Nat.le_refl _⟩)
    have Hl := hide hl1
    have g2' := g2
    obtain ⟨-, a0, a1, a2, a3, a4⟩ := g2'
    have HT42 := hide (fun W (h : PB W p l1) => take1 p l1 42 W h ⟨#[42]⟩ rfl)
    have hw3p : p < w3.heap.size := by omega
    have hw3b : w.heap.size < w3.heap.size := by omega
    have hw31 : w1.heap.size < w3.heap.size := by omega
    have hn2 : w.heap.size ≠ p := by omega
    have hn4 : w1.heap.size ≠ p := by omega
    have hn6 : w3.heap.size ≠ p := by omega
    have N2 := hide hn2
    have N4 := hide hn4
    have N6 := hide hn6
    clear hx1 hp1 hb1 hy1 hn1 hb2 hs2 g2 x2 p2 hl1 hE2 hb3 hb4 f4 hs3 hs4 F2 B2 hn2 hn4 hn6
    go_wp2_with fail
    clear hw0 hw2 hw3 hw4 a0 a1 a2 a3 a4
    cases h42 : tkB 42 l1 with
    | true =>
      rw [h42] at HT42
      have HEn := hide (show E = some (repS x1 0 (-1), tkR 42 l1) by rw [← HE2.out, if_pos h42])
      have Hlen := hide (Nat.le_trans (tkR_len 42 l1) Hl.out)
      obtain ⟨l5, hl5⟩ : ∃ l5, tkR 42 l1 = l5 := ⟨_, rfl⟩
      rw [hl5] at HT42 HEn Hlen
      have HY := hide (show ∀ y r, E = some (y, r) → repS x1 0 (-1) = y ∧ l5 = r from fun y r h => by rw [HEn.out] at h; cases h; exact ⟨rfl, rfl⟩)
      have HN := hide (show ¬ E = none from fun h => by rw [HEn.out] at h; cases h)
      clear hl5
      with_reducible refine (HT42.out _ I4.out.P).mono ?_
      rintro e w5 ⟨rfl, hp5, hb5⟩
      have I5 := hide (I4.out.call hp5 hb5 N2.out N4.out N6.out)
      clear hp5 hb5
      obtain ⟨⟨-, f1, f2, f3, f4, f5⟩, f6, f7, f8, f9, f10⟩ := I5.out.F
      obtain ⟨⟨-, s1, s2, s3, s4, s5⟩, -, -, -, -, -⟩ := I5.out.S
      go_wp2
      exact bodyPost_ret (res_two (fn := Tryz.f119) (p := 2) (u := 3) rfl _ _ w.heap.size _ _ _ _ _ (.bool true) rfl rfl (put5_five I5.out.F (.int .i64 4) (.slice none 0 0) (.int .i64 0) (.int .i64 (-1)) (.slice (some ⟨w2.heap.size, 0, none⟩) 1 1))) rfl (postX_fin hlt I5.out.P I5.out.B Hlen.out ((RR.out 0 (-1) (by omega) (by omega)).map (fun q hq hl' => I5.out.H q hl' hq.2.2 (Nat.ne_of_lt hq.2.1)) (fun g hg _ => hg.1)) (fun y r h => ⟨rfl, HY.out y r h⟩) (fun h => absurd h HN.out))
    | false =>
      rw [h42, tk_no h42] at HT42
      have HT43 := hide (fun W (h : PB W p l1) => take1 p l1 43 W h ⟨#[43]⟩ rfl)
      cases h43 : tkB 43 l1 with
      | true =>
        rw [h43] at HT43
        have HEn := hide (show E = some (repS x1 1 (-1), tkR 43 l1) by rw [← HE2.out, if_neg (fun h => absurd (h42.symm.trans h) (by simp)), if_pos h43])
        have Hlen := hide (Nat.le_trans (tkR_len 43 l1) Hl.out)
        obtain ⟨l5, hl5⟩ : ∃ l5, tkR 43 l1 = l5 := ⟨_, rfl⟩
        rw [hl5] at HT43 HEn Hlen
        have HY := hide (show ∀ y r, E = some (y, r) → repS x1 1 (-1) = y ∧ l5 = r from fun y r h => by rw [HEn.out] at h; cases h; exact ⟨rfl, rfl⟩)
        have HN := hide (show ¬ E = none from fun h => by rw [HEn.out] at h; cases h)
        clear hl5
        with_reducible refine (HT42.out _ I4.out.P).mono ?_
        rintro e w5 ⟨rfl, hp5, hb5⟩
        have I5 := hide (I4.out.call hp5 hb5 N2.out N4.out N6.out)
        clear hp5 hb5
        go_wp2_with fail
        with_reducible refine (HT43.out _ I5.out.P).mono ?_
        rintro e w6 ⟨rfl, hp6, hb6⟩
        have I6 := hide (I5.out.call hp6 hb6 N2.out N4.out N6.out)
        clear hp6 hb6
        have hS := fiveF_set2 I6.out.S (.int .i64 1)
        obtain ⟨w7, hw7⟩ : ∃ x, w6.setCell ⟨w3.heap.size, 2, none⟩ (.int .i64 1) = x := ⟨_, rfl⟩
        rw [hw7] at hS
        have I7 := hide (I6.out.set 2 (.int .i64 1) hw7.symm hS hw3b hw31 hw3p (Nat.le_of_lt hw3b))
        obtain ⟨⟨-, t1, t2, t3, t4, t5⟩, t6, t7, t8, t9, t10⟩ := I6.out.S
        clear hS
        obtain ⟨⟨-, f1, f2, f3, f4, f5⟩, f6, f7, f8, f9, f10⟩ := I7.out.F
        obtain ⟨⟨-, s1, s2, s3, s4, s5⟩, -, -, -, -, -⟩ := I7.out.S
        go_wp2
        exact bodyPost_ret (res_two (fn := Tryz.f119) (p := 2) (u := 3) rfl _ _ w.heap.size _ _ _ _ _ (.bool true) rfl rfl (put5_five I7.out.F (.int .i64 4) (.slice none 0 0) (.int .i64 1) (.int .i64 (-1)) (.slice (some ⟨w2.heap.size, 0, none⟩) 1 1))) rfl (postX_fin hlt I7.out.P I7.out.B Hlen.out ((RR.out 1 (-1) (by omega) (by omega)).map (fun q hq hl' => I7.out.H q hl' hq.2.2 (Nat.ne_of_lt hq.2.1)) (fun g hg _ => hg.1)) (fun y r h => ⟨rfl, HY.out y r h⟩) (fun h => absurd h HN.out))
      | false =>
        rw [h43, tk_no h43] at HT43
        have HT63 := hide (fun W (h : PB W p l1) => take1 p l1 63 W h ⟨#[63]⟩ rfl)
        cases h63 : tkB 63 l1 with
        | true =>
          rw [h63] at HT63
          have HEn := hide (show E = some (repS x1 0 1, tkR 63 l1) by rw [← HE2.out, if_neg (fun h => absurd (h42.symm.trans h) (by simp)), if_neg (fun h => absurd (h43.symm.trans h) (by simp)), if_pos h63])
          have Hlen := hide (Nat.le_trans (tkR_len 63 l1) Hl.out)
          obtain ⟨l5, hl5⟩ : ∃ l5, tkR 63 l1 = l5 := ⟨_, rfl⟩
          rw [hl5] at HT63 HEn Hlen
          have HY := hide (show ∀ y r, E = some (y, r) → repS x1 0 1 = y ∧ l5 = r from fun y r h => by rw [HEn.out] at h; cases h; exact ⟨rfl, rfl⟩)
          have HN := hide (show ¬ E = none from fun h => by rw [HEn.out] at h; cases h)
          clear hl5
          with_reducible refine (HT42.out _ I4.out.P).mono ?_
          rintro e w5 ⟨rfl, hp5, hb5⟩
          have I5 := hide (I4.out.call hp5 hb5 N2.out N4.out N6.out)
          clear hp5 hb5
          go_wp2_with fail
          with_reducible refine (HT43.out _ I5.out.P).mono ?_
          rintro e w6 ⟨rfl, hp6, hb6⟩
          have I6 := hide (I5.out.call hp6 hb6 N2.out N4.out N6.out)
          clear hp6 hb6
          go_wp2_with fail
          with_reducible refine (HT63.out _ I6.out.P).mono ?_
          rintro e w7 ⟨rfl, hp7, hb7⟩
          have I7 := hide (I6.out.call hp7 hb7 N2.out N4.out N6.out)
          clear hp7 hb7
          have hS := fiveF_set3 I7.out.S (.int .i64 1)
          obtain ⟨w8, hw8⟩ : ∃ x, w7.setCell ⟨w3.heap.size, 3, none⟩ (.int .i64 1) = x := ⟨_, rfl⟩
          rw [hw8] at hS
          have I8 := hide (I7.out.set 3 (.int .i64 1) hw8.symm hS hw3b hw31 hw3p (Nat.le_of_lt hw3b))
          obtain ⟨⟨-, t1, t2, t3, t4, t5⟩, t6, t7, t8, t9, t10⟩ := I7.out.S
          clear hS
          obtain ⟨⟨-, f1, f2, f3, f4, f5⟩, f6, f7, f8, f9, f10⟩ := I8.out.F
          obtain ⟨⟨-, s1, s2, s3, s4, s5⟩, -, -, -, -, -⟩ := I8.out.S
          go_wp2
          exact bodyPost_ret (res_two (fn := Tryz.f119) (p := 2) (u := 3) rfl _ _ w.heap.size _ _ _ _ _ (.bool true) rfl rfl (put5_five I8.out.F (.int .i64 4) (.slice none 0 0) (.int .i64 0) (.int .i64 1) (.slice (some ⟨w2.heap.size, 0, none⟩) 1 1))) rfl (postX_fin hlt I8.out.P I8.out.B Hlen.out ((RR.out 0 1 (by omega) (by omega)).map (fun q hq hl' => I8.out.H q hl' hq.2.2 (Nat.ne_of_lt hq.2.1)) (fun g hg _ => hg.1)) (fun y r h => ⟨rfl, HY.out y r h⟩) (fun h => absurd h HN.out))
        | false =>
          rw [h63, tk_no h63] at HT63
          have HT123 := hide (fun W (h : PB W p l1) => take1 p l1 123 W h ⟨#[123]⟩ rfl)
          cases h123 : tkB 123 l1 with
          | true =>
            rw [h123] at HT123
            have hlen := Nat.le_trans (tkR_len 123 l1) Hl.out
            have HE3 := hide (show (match boundsS (tkR 123 l1) with | some (m, n, l') => some (repS x1 m n, l') | none => none) = E by rw [← HE2.out, if_neg (fun h => absurd (h42.symm.trans h) (by simp)), if_neg (fun h => absurd (h43.symm.trans h) (by simp)), if_neg (fun h => absurd (h63.symm.trans h) (by simp)), if_pos h123])
            obtain ⟨l6, hl6⟩ : ∃ l6, tkR 123 l1 = l6 := ⟨_, rfl⟩
            rw [hl6] at HT123 hlen HE3
            have HBd := hide (fun W (h : PB W p l6) => bounds89 p l6 W h (by omega))
            have Hlen6 := hide hlen
            obtain ⟨o3, ho3⟩ : ∃ o3, boundsS l6 = o3 := ⟨_, rfl⟩
            rw [ho3] at HBd HE3
            clear hl6 ho3 hlen
            with_reducible refine (HT42.out _ I4.out.P).mono ?_
            rintro e w5 ⟨rfl, hp5, hb5⟩
            have I5 := hide (I4.out.call hp5 hb5 N2.out N4.out N6.out)
            clear hp5 hb5
            go_wp2_with fail
            with_reducible refine (HT43.out _ I5.out.P).mono ?_
            rintro e w6 ⟨rfl, hp6, hb6⟩
            have I6 := hide (I5.out.call hp6 hb6 N2.out N4.out N6.out)
            clear hp6 hb6
            go_wp2_with fail
            with_reducible refine (HT63.out _ I6.out.P).mono ?_
            rintro e w7 ⟨rfl, hp7, hb7⟩
            have I7 := hide (I6.out.call hp7 hb7 N2.out N4.out N6.out)
            clear hp7 hb7
            go_wp2_with fail
            with_reducible refine (HT123.out _ I7.out.P).mono ?_
            rintro e w8 ⟨rfl, hp8, hb8⟩
            have I8 := hide (I7.out.call hp8 hb8 N2.out N4.out N6.out)
            clear hp8 hb8
            go_wp2_with fail
            with_reducible refine (HBd.out _ I8.out.P).mono ?_
            rintro e w9 ⟨m, m', b, l5, rfl, hp9, hb9, hl9, hm, hm', hy9, hn9⟩
            have I9 := hide (I8.out.call hp9 hb9 N2.out N4.out N6.out)
            have Hlen := hide (Nat.le_trans hl9 Hlen6.out)
            have HY := hide (show ∀ y r, E = some (y, r) → b = true ∧ repS x1 m m' = y ∧ l5 = r from fun y r h => by
              rw [← HE3.out] at h
              cases o3 with
              | none => cases h
              | some q =>
                obtain ⟨a1, a2, a3, a4⟩ := hy9 q.1 q.2.1 q.2.2 rfl
                cases h
                exact ⟨a1, by rw [a2, a3], a4⟩)
            have HN := hide (show E = none → b = false from fun h => by
              rw [← HE3.out] at h
              cases o3 with
              | none => exact hn9 rfl
              | some q => cases h)
            clear hp9 hb9 hl9 hy9 hn9
            have hS := fiveF_set2 I9.out.S (.int .i64 m)
            obtain ⟨w10, hw10⟩ : ∃ x, w9.setCell ⟨w3.heap.size, 2, none⟩ (.int .i64 m) = x := ⟨_, rfl⟩
            rw [hw10] at hS
            have I10 := hide (I9.out.set 2 (.int .i64 m) hw10.symm hS hw3b hw31 hw3p (Nat.le_of_lt hw3b))
            obtain ⟨⟨-, t1, t2, t3, t4, t5⟩, t6, t7, t8, t9, t10⟩ := I9.out.S
            clear hS
            have hS := fiveF_set3 I10.out.S (.int .i64 m')
            obtain ⟨w11, hw11⟩ : ∃ x, w10.setCell ⟨w3.heap.size, 3, none⟩ (.int .i64 m') = x := ⟨_, rfl⟩
            rw [hw11] at hS
            have I11 := hide (I10.out.set 3 (.int .i64 m') hw11.symm hS hw3b hw31 hw3p (Nat.le_of_lt hw3b))
            obtain ⟨⟨-, y1, y2, y3, y4, y5⟩, y6, y7, y8, y9, y10⟩ := I10.out.S
            clear hS
            obtain ⟨⟨-, f1, f2, f3, f4, f5⟩, f6, f7, f8, f9, f10⟩ := I11.out.F
            obtain ⟨⟨-, s1, s2, s3, s4, s5⟩, -, -, -, -, -⟩ := I11.out.S
            go_wp2
            exact bodyPost_ret (res_two (fn := Tryz.f119) (p := 2) (u := 3) rfl _ _ w.heap.size _ _ _ _ _ (.bool b) rfl rfl (put5_five I11.out.F (.int .i64 4) (.slice none 0 0) (.int .i64 m) (.int .i64 m') (.slice (some ⟨w2.heap.size, 0, none⟩) 1 1))) rfl (postX_fin hlt I11.out.P I11.out.B Hlen.out ((RR.out m m' (by omega) (by omega)).map (fun q hq hl' => I11.out.H q hl' hq.2.2 (Nat.ne_of_lt hq.2.1)) (fun g hg _ => hg.1)) HY.out HN.out)
          | false =>
            rw [h123, tk_no h123] at HT123
            have HEn := hide (show E = some (x1, l1) by rw [← HE2.out, if_neg (fun h => absurd (h42.symm.trans h) (by simp)), if_neg (fun h => absurd (h43.symm.trans h) (by simp)), if_neg (fun h => absurd (h63.symm.trans h) (by simp)), if_neg (fun h => absurd (h123.symm.trans h) (by simp))])
            have Hlen := Hl
            have HY := hide (show ∀ y r, E = some (y, r) → x1 = y ∧ l1 = r from fun y r h => by rw [HEn.out] at h; cases h; exact ⟨rfl, rfl⟩)
            have HN := hide (show ¬ E = none from fun h => by rw [HEn.out] at h; cases h)
            with_reducible refine (HT42.out _ I4.out.P).mono ?_
            rintro e w5 ⟨rfl, hp5, hb5⟩
            have I5 := hide (I4.out.call hp5 hb5 N2.out N4.out N6.out)
            clear hp5 hb5
            go_wp2_with fail
            with_reducible refine (HT43.out _ I5.out.P).mono ?_
            rintro e w6 ⟨rfl, hp6, hb6⟩
            have I6 := hide (I5.out.call hp6 hb6 N2.out N4.out N6.out)
            clear hp6 hb6
            go_wp2_with fail
            with_reducible refine (HT63.out _ I6.out.P).mono ?_
            rintro e w7 ⟨rfl, hp7, hb7⟩
            have I7 := hide (I6.out.call hp7 hb7 N2.out N4.out N6.out)
            clear hp7 hb7
            go_wp2_with fail
            with_reducible refine (HT123.out _ I7.out.P).mono ?_
            rintro e w8 ⟨rfl, hp8, hb8⟩
            have I8 := hide (I7.out.call hp8 hb8 N2.out N4.out N6.out)
            clear hp8 hb8
            obtain ⟨⟨-, f1, f2, f3, f4, f5⟩, f6, f7, f8, f9, f10⟩ := I8.out.F
            obtain ⟨-, s1, s2, s3, s4, s5⟩ := I8.out.G
            go_wp2
            exact bodyPost_ret (res_two (fn := Tryz.f119) (p := 2) (u := 3) rfl _ _ w.heap.size _ _ _ _ _ (.bool true) rfl rfl (put5_five I8.out.F (.int .i64 q0) (.slice qA qn qc) (.int .i64 q1) (.int .i64 q2) (.slice qB qm qd))) rfl (postX_fin hlt I8.out.P I8.out.B Hlen.out (X4.out.map (fun q hq hl' => I8.out.H q hl' hq.2.2 (Nat.ne_of_lt hq.2.1)) (fun g hg _ => hg.1)) (fun y r h => ⟨rfl, HY.out y r h⟩) (fun h => absurd h HN.out))
set_option maxRecDepth 100000 in
set_option maxHeartbeats 12800000 in
theorem seq54 (n : Nat) (hI : ∀ n', n' ≤ n → PItemC n') : PSeqC (n + 1) := by
  intro p l w h hl hn
  obtain ⟨i0, hi, hz0, hz1, hz2⟩ := info_parts infoX
  have HI := hide hI
  have hlt := h.lt
  obtain ⟨w0, hw0⟩ : ∃ w0, w.alloc (.cells #[.int .i64 0, .slice none 0 0, .int .i64 0, .int .i64 0, .slice none 0 0] 25) = w0 := ⟨_, rfl⟩
  have HF0 := hide (show FiveF w0 w.heap.size (.int .i64 0) (.slice none 0 0) (.int .i64 0) (.int .i64 0) (.slice none 0 0) by rw [← hw0]; exact fiveF_new w _ _ _ _ _ 25)
  have hb0 : Below w.heap.size w w0 := by rw [← hw0]; exact bnew (Below.refl _ w) _
  have hs0 : w.heap.size + 1 ≤ w0.heap.size := by rw [← hw0]; simp
  have HB0 := hide (Bt.of hb0 p)
  have P0 := hide (h.keep hb0)
  obtain ⟨E, hE⟩ : ∃ E, seqP (n + 1) [] l = E := ⟨_, rfl⟩
  rw [hE]
  have HE := hide hE
  clear h hb0 hI hE
  go_enter Tryz.func89, Tryz.ntmps89
  go_wp2_with fail
  go_loopw [4] (fun u wr => ∃ (n' : Nat) (acc : List Rx) (m : List UInt8), OwnX wr (w.heap.size + 1) u acc ∧ PB wr p m ∧ Bt p w wr ∧ w0.heap.size ≤ wr.heap.size ∧ FiveF wr w.heap.size (.int .i64 0) (.slice none 0 0) (.int .i64 0) (.int .i64 0) (.slice none 0 0) ∧
    seqP n' acc m = E ∧ 4 * m.length + 3 ≤ n' ∧ n' ≤ n + 1 ∧ acc.length + m.length ≤ l.length) (fun _ wr => restN p wr)
  case atStart => exact ⟨n + 1, [], l, OwnX.nil _ _, P0.out, HB0.out, Nat.le_refl _, HF0.out, HE.out, hn, Nat.le_refl _, by simp⟩
  case round =>
    clear HE P0 HB0 HF0
    obtain ⟨n', acc, m, hown, hp, hb, hsz, hf, hseq, hf1, hf2, hal⟩ := hrel
    obtain ⟨w2, hw2⟩ : ∃ w2, w2 = wr := ⟨wr, rfl⟩
    subst hw2
    obtain ⟨u, huu⟩ : ∃ u, u = u4 := ⟨u4, rfl⟩
    subst huu
    obtain ⟨n', rfl⟩ : ∃ q, n' = q + 1 := ⟨n' - 1, by omega⟩
    have OE := hide hown
    have PE := hide hp
    have BE := hide hb
    have FE := hide hf
    have HL := hide (show m.length ≤ l.length by omega)
    have Hrest := hide hp.rest
    obtain ⟨S, hS⟩ : ∃ S, bs m = S := ⟨_, rfl⟩
    have hc : w2.cell? ⟨p, 0, none⟩ = some (.string S) := by rw [← hS]; exact hp.cell
    clear hown hp hb hf
    cases m with
    | nil =>
      unfold seqP at hseq
      have HEq := hide hseq.symm
      obtain rfl : ⟨#[]⟩ = S := hS
      clear hseq
      obtain ⟨XA, XM, XD, vs, rfl, hxm, hvs, hrx⟩ := OE.out.s
      have hxc := hvs.1
      by_cases hone : XM = 1
      · obtain ⟨xo, hxo⟩ : ∃ xq, acc = [xq] := one_of_len (by rw [← hxm, hone])
        have HEn := hide (show E = some (xo, []) by rw [HEq.out, hxo]; rfl)
        have hq1 : ((XM : Int) == 1) = true := by rw [hone]; rfl
        have kx : (0 : Int) < (XM : Int) := by omega
        obtain ⟨g, o, d0, d1, d2, d3, d4, rfl, hv0, a0, a1, a2, a3, a4⟩ := hvs.at_ (i := 0) (by omega)
        simp only [Nat.zero_mul, Nat.add_zero] at a0 a1 a2 a3 a4
        have hr0 := hrx 0 _ xo hv0 (by rw [hxo]; rfl)
        obtain ⟨z0, zA, zn, zc, z1, z2, zB, zm, zd, hag⟩ := hr0.agg9
        injection hag with hag
        injection hag with hag
        simp only [List.cons.injEq, and_true] at hag
        obtain ⟨rfl, rfl, rfl, rfl, rfl⟩ := hag
        have RE := hide hr0
        clear hvs hrx hv0 hr0 hxo hxm OE HEq
        obtain ⟨⟨-, f1, f2, f3, f4, f5⟩, f6, f7, f8, f9, f10⟩ := FE.out
        go_wp2
        exact bodyPost_ret (res_two (fn := Tryz.f89) (p := 2) (u := 3) rfl _ _ w.heap.size _ _ _ _ _ (.bool true) rfl rfl (put5_five FE.out (.int .i64 z0) (.slice zA zn zc) (.int .i64 z1) (.int .i64 z2) (.slice zB zm zd))) rfl (postX_fin hlt PE.out BE.out HL.out RE.out (fun y r h => by rw [HEn.out] at h; cases h; exact ⟨rfl, rfl, rfl⟩) (fun h => by rw [HEn.out] at h; cases h))
      · have HEn := hide (show E = some (.mk 2 [] 0 0 acc, []) by rw [HEq.out, wrapS_two 2 _ (by omega)])
        have hq1 : ((XM : Int) == 1) = false := beq_eq_false_iff_ne.2 (by omega)
        have RE := hide (OE.out.rx 2 (by omega))
        clear hvs hrx hxm OE HEq
        obtain ⟨⟨-, f1, f2, f3, f4, f5⟩, f6, f7, f8, f9, f10⟩ := FE.out
        go_wp2
        exact bodyPost_ret (res_two (fn := Tryz.f89) (p := 2) (u := 3) rfl _ _ w.heap.size _ _ _ _ _ (.bool true) rfl rfl (put5_five FE.out (.int .i64 2) (.slice none 0 0) (.int .i64 0) (.int .i64 0) (.slice XA XM XD))) rfl (postX_fin hlt PE.out BE.out HL.out RE.out (fun y r h => by rw [HEn.out] at h; cases h; exact ⟨rfl, rfl, rfl⟩) (fun h => by rw [HEn.out] at h; cases h))
    | cons c m =>
      have hne : ¬ S = (⟨#[]⟩ : ByteArray) := by rw [← hS]; exact bs_ne c m
      have hem : S.toList.isEmpty = false := by rw [← hS]; exact bs_empty c m
      obtain ⟨h0, hg0, -⟩ := bs_cons c m
      rw [hS] at h0
      have hgc : S[0] = c := by subst hS; exact hg0 h0
      have e124 : ((c.toNat : Int) != 124) = !decide (c = 124) := u8_ne rfl
      have e41 : ((c.toNat : Int) != 41) = !decide (c = 41) := u8_ne rfl
      have h0' : (0 : Int) < (S.size : Int) := by omega
      clear hS hg0
      unfold seqP at hseq
      by_cases h124 : c = 124
      · rw [if_pos (Or.inl h124)] at hseq
        rw [decide_eq_true h124] at e124
        have HEq := hide hseq.symm
        clear hseq h124 e41
        obtain ⟨XA, XM, XD, vs, rfl, hxm, hvs, hrx⟩ := OE.out.s
        have hxc := hvs.1
        by_cases hone : XM = 1
        · obtain ⟨xo, hxo⟩ : ∃ xq, acc = [xq] := one_of_len (by rw [← hxm, hone])
          have HEn := hide (show E = some (xo, c :: m) by rw [HEq.out, hxo]; rfl)
          have hq1 : ((XM : Int) == 1) = true := by rw [hone]; rfl
          have kx : (0 : Int) < (XM : Int) := by omega
          obtain ⟨g, o, d0, d1, d2, d3, d4, rfl, hv0, a0, a1, a2, a3, a4⟩ := hvs.at_ (i := 0) (by omega)
          simp only [Nat.zero_mul, Nat.add_zero] at a0 a1 a2 a3 a4
          have hr0 := hrx 0 _ xo hv0 (by rw [hxo]; rfl)
          obtain ⟨z0, zA, zn, zc, z1, z2, zB, zm, zd, hag⟩ := hr0.agg9
          injection hag with hag
          injection hag with hag
          simp only [List.cons.injEq, and_true] at hag
          obtain ⟨rfl, rfl, rfl, rfl, rfl⟩ := hag
          have RE := hide hr0
          clear hvs hrx hv0 hr0 hxo hxm OE HEq
          obtain ⟨⟨-, f1, f2, f3, f4, f5⟩, f6, f7, f8, f9, f10⟩ := FE.out
          go_wp2
          exact bodyPost_ret (res_two (fn := Tryz.f89) (p := 2) (u := 3) rfl _ _ w.heap.size _ _ _ _ _ (.bool true) rfl rfl (put5_five FE.out (.int .i64 z0) (.slice zA zn zc) (.int .i64 z1) (.int .i64 z2) (.slice zB zm zd))) rfl (postX_fin hlt PE.out BE.out HL.out RE.out (fun y r h => by rw [HEn.out] at h; cases h; exact ⟨rfl, rfl, rfl⟩) (fun h => by rw [HEn.out] at h; cases h))
        · have HEn := hide (show E = some (.mk 2 [] 0 0 acc, c :: m) by rw [HEq.out, wrapS_two 2 _ (by omega)])
          have hq1 : ((XM : Int) == 1) = false := beq_eq_false_iff_ne.2 (by omega)
          have RE := hide (OE.out.rx 2 (by omega))
          clear hvs hrx hxm OE HEq
          obtain ⟨⟨-, f1, f2, f3, f4, f5⟩, f6, f7, f8, f9, f10⟩ := FE.out
          go_wp2
          exact bodyPost_ret (res_two (fn := Tryz.f89) (p := 2) (u := 3) rfl _ _ w.heap.size _ _ _ _ _ (.bool true) rfl rfl (put5_five FE.out (.int .i64 2) (.slice none 0 0) (.int .i64 0) (.int .i64 0) (.slice XA XM XD))) rfl (postX_fin hlt PE.out BE.out HL.out RE.out (fun y r h => by rw [HEn.out] at h; cases h; exact ⟨rfl, rfl, rfl⟩) (fun h => by rw [HEn.out] at h; cases h))
      by_cases h41 : c = 41
      · rw [if_pos (Or.inr h41)] at hseq
        rw [decide_eq_false h124] at e124
        rw [decide_eq_true h41] at e41
        have HEq := hide hseq.symm
        clear hseq h124 h41
        obtain ⟨XA, XM, XD, vs, rfl, hxm, hvs, hrx⟩ := OE.out.s
        have hxc := hvs.1
        by_cases hone : XM = 1
        · obtain ⟨xo, hxo⟩ : ∃ xq, acc = [xq] := one_of_len (by rw [← hxm, hone])
          have HEn := hide (show E = some (xo, c :: m) by rw [HEq.out, hxo]; rfl)
          have hq1 : ((XM : Int) == 1) = true := by rw [hone]; rfl
          have kx : (0 : Int) < (XM : Int) := by omega
          obtain ⟨g, o, d0, d1, d2, d3, d4, rfl, hv0, a0, a1, a2, a3, a4⟩ := hvs.at_ (i := 0) (by omega)
          simp only [Nat.zero_mul, Nat.add_zero] at a0 a1 a2 a3 a4
          have hr0 := hrx 0 _ xo hv0 (by rw [hxo]; rfl)
          obtain ⟨z0, zA, zn, zc, z1, z2, zB, zm, zd, hag⟩ := hr0.agg9
          injection hag with hag
          injection hag with hag
          simp only [List.cons.injEq, and_true] at hag
          obtain ⟨rfl, rfl, rfl, rfl, rfl⟩ := hag
          have RE := hide hr0
          clear hvs hrx hv0 hr0 hxo hxm OE HEq
          obtain ⟨⟨-, f1, f2, f3, f4, f5⟩, f6, f7, f8, f9, f10⟩ := FE.out
          go_wp2
          exact bodyPost_ret (res_two (fn := Tryz.f89) (p := 2) (u := 3) rfl _ _ w.heap.size _ _ _ _ _ (.bool true) rfl rfl (put5_five FE.out (.int .i64 z0) (.slice zA zn zc) (.int .i64 z1) (.int .i64 z2) (.slice zB zm zd))) rfl (postX_fin hlt PE.out BE.out HL.out RE.out (fun y r h => by rw [HEn.out] at h; cases h; exact ⟨rfl, rfl, rfl⟩) (fun h => by rw [HEn.out] at h; cases h))
        · have HEn := hide (show E = some (.mk 2 [] 0 0 acc, c :: m) by rw [HEq.out, wrapS_two 2 _ (by omega)])
          have hq1 : ((XM : Int) == 1) = false := beq_eq_false_iff_ne.2 (by omega)
          have RE := hide (OE.out.rx 2 (by omega))
          clear hvs hrx hxm OE HEq
          obtain ⟨⟨-, f1, f2, f3, f4, f5⟩, f6, f7, f8, f9, f10⟩ := FE.out
          go_wp2
          exact bodyPost_ret (res_two (fn := Tryz.f89) (p := 2) (u := 3) rfl _ _ w.heap.size _ _ _ _ _ (.bool true) rfl rfl (put5_five FE.out (.int .i64 2) (.slice none 0 0) (.int .i64 0) (.int .i64 0) (.slice XA XM XD))) rfl (postX_fin hlt PE.out BE.out HL.out RE.out (fun y r h => by rw [HEn.out] at h; cases h; exact ⟨rfl, rfl, rfl⟩) (fun h => by rw [HEn.out] at h; cases h))
      rw [if_neg (by simp [h124, h41])] at hseq
      rw [decide_eq_false h124] at e124
      rw [decide_eq_false h41] at e41
      have HIt := hide (HI.out n' (by omega) p (c :: m) w2 PE.out (by have := HL.out; omega) (by omega))
      obtain ⟨o, ho⟩ : ∃ o, itemP n' (c :: m) = o := ⟨_, rfl⟩
      rw [ho] at HIt hseq
      have Ho := hide ho
      have Hseq := hide hseq
      have hml : (c :: m).length = m.length + 1 := rfl
      clear h124 h41 ho hseq
      go_wp2_with fail
      with_reducible refine HIt.out.mono ?_
      rintro e w3 ⟨v3, b3, l3, x3, rfl, hx3, hp3, hb3, hl3, hy3, hn3⟩
      obtain ⟨q0, qA, qn, qc, q1, q2, qB, qm, qd, rfl⟩ := hx3.agg9
      have hs3 := hb3.size
      obtain ⟨w4, hw4⟩ : ∃ w4, w3.alloc (.cells #[.int .i64 q0, .slice qA qn qc, .int .i64 q1, .int .i64 q2, .slice qB qm qd] 25) = w4 := ⟨_, rfl⟩
      have hb4 : Below w3.heap.size w3 w4 := by rw [← hw4]; exact bnew (Below.refl _ w3) _
      have hs4 : w4.heap.size = w3.heap.size + 1 := by rw [← hw4]; simp
      have g4 : Five w4 w3.heap.size (.int .i64 q0) (.slice qA qn qc) (.int .i64 q1) (.int .i64 q2) (.slice qB qm qd) := by rw [← hw4]; exact five_new w3 _ _ _ _ _ 25
      obtain ⟨-, b0, b1, b2, b3', b4⟩ := g4
      have F4 := hide ((FE.out.bt hb3 (by omega)).at_ hb4 (by omega))
      have P4 := hide (hp3.keep hb4)
      have B4 := hide ((BE.out.trans hb3).trans (Bt.of hb4 p))
      have O4 := hide ((OE.out.bt hb3 (by omega)).below hb4)
      have hul : ∀ g, u.ownBlock = some g → g < w2.heap.size := fun g hg => by
        obtain ⟨cs, vs, h1, _⟩ := OE.out
        exact (h1.lt g hg).2
      have R4 := hide (hx3.map (W' := w4) (fun q _ hq => hb4.cell hq) fun g hg _ => (⟨by omega, fun e => by have := hul g e; omega⟩ : w.heap.size + 1 ≤ g ∧ u.ownBlock ≠ some g))
      have hs4' : w.heap.size + 1 ≤ w4.heap.size := by omega
      cases b3 with
      | false =>
        have HEn := hide (show E = none by
          rw [← Hseq.out]
          cases o with
          | none => rfl
          | some q => exact absurd (hy3 q.1 q.2 rfl).1 (by simp))
        have HLn := hide (show l3.length ≤ l.length by have := HL.out; omega)
        clear hx3 hp3 hb3 hy3 hn3 hb4 hs4 hul
        obtain ⟨⟨-, f1, f2, f3, f4, f5⟩, f6, f7, f8, f9, f10⟩ := F4.out
        go_wp2
        exact bodyPost_ret (res_two (fn := Tryz.f89) (p := 2) (u := 3) rfl _ _ w.heap.size _ _ _ _ _ (.bool false) rfl rfl (put5_five F4.out (.int .i64 0) (.slice none 0 0) (.int .i64 0) (.int .i64 0) (.slice none 0 0))) rfl (postX_fin hlt P4.out B4.out HLn.out rxv_zero (fun y r h => by rw [HEn.out] at h; cases h) (fun _ => rfl))
      | true =>
        have hso : o = some (x3, l3) := by
          cases o with
          | none => exact absurd (hn3 rfl) (by simp)
          | some q =>
            obtain ⟨_, h1, h2⟩ := hy3 q.1 q.2 rfl
            rw [h1, h2]
        have hlen := (parse_len n').2.1 _ _ _ (Ho.out.trans hso)
        have hnx : seqP n' (acc ++ [x3]) l3 = E := by rw [← Hseq.out, hso]
        have Hnx := hide hnx
        have Hs34 := hide hs4
        clear hx3 hp3 hb3 hy3 hn3 hb4 hs4 hul hso hnx
        go_wp2_with (first
          | (at_builtin; refine wp_push_rx rfl (.tmp 36) (.tmp 38) 23 rfl i0 _ 72 Tryz.underlying23 hi hz0 hz1 hz2 rfl (w.heap.size + 1) u acc rfl w4 _ _ _ _ _ x3 O4.out hs4' _ rfl rfl R4.out (by omega) (by unfold maxLen; omega) ?_; intro v7 w7 hown7 hb7; have O7 := hide hown7; have B7 := hide hb7; clear hown7 hb7)
          | fail)
        have P7 : Hid (PB w7 p l3) := hide ((B7.out.block p (by omega)).trans P4.out)
        have F7 := hide (F4.out.at_ B7.out (Nat.lt_succ_self _))
        have Bt7 := hide (B4.out.then_below B7.out (Nat.le_succ _))
        have Hsz7 := hide (show w0.heap.size ≤ w7.heap.size by have := B7.out.size; have := Hs34.out; omega)
        have Hrest7 := hide P7.out.rest
        go_roundw
        case rel => exact ⟨n', acc ++ [x3], l3, O7.out, P7.out, Bt7.out, Hsz7.out, F7.out, Hnx.out, by omega, by omega, by rw [List.length_append]; simp; omega⟩
        case measure => show restN p w7 < restN p w2; rw [Hrest.out, Hrest7.out]; exact hlen
theorem alt_tk (n : Nat) (acc : List Rx) (l : List UInt8) : altP (n + 1) acc l = match seqP n [] l with | none => none | some (r, l') => if tkB 124 l' = true then altP n (acc ++ [r]) (tkR 124 l') else some (wrapS 3 (acc ++ [r]), l') := by
  conv => lhs; unfold altP
  cases seqP n [] l with
  | none => rfl
  | some q =>
    obtain ⟨r, l'⟩ := q
    cases l' with
    | nil => rfl
    | cons c m =>
      show (if c = 124 then altP n (acc ++ [r]) m else some (wrapS 3 (acc ++ [r]), c :: m)) = if decide (c = 124) = true then altP n (acc ++ [r]) (if c = 124 then m else c :: m) else some (wrapS 3 (acc ++ [r]), c :: m)
      by_cases h : c = 124
      · rw [if_pos h, if_pos (decide_eq_true h), if_pos h]
      · rw [if_neg h, if_neg (by simp [h])]
set_option maxRecDepth 100000 in
set_option maxHeartbeats 12800000 in
theorem alt39 (n : Nat) (hS : ∀ n', n' ≤ n → PSeqC n') : PAltC (n + 1) := by
  intro p l w h hl hn
  obtain ⟨i0, hi, hz0, hz1, hz2⟩ := info_parts infoX
  have HS := hide hS
  have hlt := h.lt
  obtain ⟨w0, hw0⟩ : ∃ w0, w.alloc (.cells #[.int .i64 0, .slice none 0 0, .int .i64 0, .int .i64 0, .slice none 0 0] 25) = w0 := ⟨_, rfl⟩
  have HF0 := hide (show FiveF w0 w.heap.size (.int .i64 0) (.slice none 0 0) (.int .i64 0) (.int .i64 0) (.slice none 0 0) by rw [← hw0]; exact fiveF_new w _ _ _ _ _ 25)
  have hb0 : Below w.heap.size w w0 := by rw [← hw0]; exact bnew (Below.refl _ w) _
  have hs0 : w.heap.size + 1 ≤ w0.heap.size := by rw [← hw0]; simp
  have HB0 := hide (Bt.of hb0 p)
  have P0 := hide (h.keep hb0)
  obtain ⟨E, hE⟩ : ∃ E, altP (n + 1) [] l = E := ⟨_, rfl⟩
  rw [hE]
  have HE := hide hE
  clear h hb0 hS hE
  go_enter Tryz.func44, Tryz.ntmps44
  go_wp2_with fail
  go_loopw [4] (fun u wr => ∃ (n' : Nat) (acc : List Rx) (m : List UInt8), OwnX wr (w.heap.size + 1) u acc ∧ PB wr p m ∧ Bt p w wr ∧ w0.heap.size ≤ wr.heap.size ∧ FiveF wr w.heap.size (.int .i64 0) (.slice none 0 0) (.int .i64 0) (.int .i64 0) (.slice none 0 0) ∧
    altP n' acc m = E ∧ 4 * m.length + 4 ≤ n' ∧ n' ≤ n + 1 ∧ acc.length + m.length ≤ l.length) (fun _ wr => restN p wr)
  case atStart => exact ⟨n + 1, [], l, OwnX.nil _ _, P0.out, HB0.out, Nat.le_refl _, HF0.out, HE.out, hn, Nat.le_refl _, by simp⟩
  case round =>
    clear HE P0 HB0 HF0
    obtain ⟨n', acc, m, hown, hp, hb, hsz, hf, hseq, hf1, hf2, hal⟩ := hrel
    obtain ⟨w2, hw2⟩ : ∃ w2, w2 = wr := ⟨wr, rfl⟩
    subst hw2
    obtain ⟨u, huu⟩ : ∃ u, u = u4 := ⟨u4, rfl⟩
    subst huu
    obtain ⟨n', rfl⟩ : ∃ q, n' = q + 1 := ⟨n' - 1, by omega⟩
    have OE := hide hown
    have PE := hide hp
    have BE := hide hb
    have FE := hide hf
    have hml : m.length ≤ l.length := by omega
    have Hrest := hide hp.rest
    rw [alt_tk] at hseq
    have HIt := hide (HS.out n' (by omega) p m w2 PE.out (by omega) (by omega))
    obtain ⟨o, ho⟩ : ∃ o, seqP n' [] m = o := ⟨_, rfl⟩
    rw [ho] at HIt hseq
    have Ho := hide ho
    have Hseq := hide hseq
    clear hown hp hb hf ho hseq
    go_wp2_with fail
    with_reducible refine HIt.out.mono ?_
    rintro e w3 ⟨v3, b3, l3, x3, rfl, hx3, hp3, hb3, hl3, hy3, hn3⟩
    obtain ⟨q0, qA, qn, qc, q1, q2, qB, qm, qd, rfl⟩ := hx3.agg9
    have hs3 := hb3.size
    obtain ⟨w4, hw4⟩ : ∃ w4, w3.alloc (.cells #[.int .i64 q0, .slice qA qn qc, .int .i64 q1, .int .i64 q2, .slice qB qm qd] 25) = w4 := ⟨_, rfl⟩
    have hb4 : Below w3.heap.size w3 w4 := by rw [← hw4]; exact bnew (Below.refl _ w3) _
    have hs4 : w4.heap.size = w3.heap.size + 1 := by rw [← hw4]; simp
    have g4 : Five w4 w3.heap.size (.int .i64 q0) (.slice qA qn qc) (.int .i64 q1) (.int .i64 q2) (.slice qB qm qd) := by rw [← hw4]; exact five_new w3 _ _ _ _ _ 25
    obtain ⟨-, b0, b1, b2, b3', b4⟩ := g4
    have F4 := hide ((FE.out.bt hb3 (by omega)).at_ hb4 (by omega))
    have P4 := hide (hp3.keep hb4)
    have B4 := hide ((BE.out.trans hb3).trans (Bt.of hb4 p))
    have O4 := hide ((OE.out.bt hb3 (by omega)).below hb4)
    have hul : ∀ g, u.ownBlock = some g → g < w2.heap.size := fun g hg => by
      obtain ⟨cs, vs, h1, _⟩ := OE.out
      exact (h1.lt g hg).2
    have R4 := hide (hx3.map (W' := w4) (fun q _ hq => hb4.cell hq) fun g hg _ => (⟨by omega, fun e => by have := hul g e; omega⟩ : w.heap.size + 1 ≤ g ∧ u.ownBlock ≠ some g))
    have hs4' : w.heap.size + 1 ≤ w4.heap.size := by omega
    cases b3 with
    | false =>
      have HEn := hide (show E = none by
        rw [← Hseq.out]
        cases o with
        | none => rfl
        | some q => exact absurd (hy3 q.1 q.2 rfl).1 (by simp))
      have HLn := hide (show l3.length ≤ l.length by omega)
      clear hx3 hp3 hb3 hy3 hn3 hb4 hs4 hul
      obtain ⟨⟨-, f1, f2, f3, f4, f5⟩, f6, f7, f8, f9, f10⟩ := F4.out
      go_wp2
      exact bodyPost_ret (res_two (fn := Tryz.f44) (p := 2) (u := 3) rfl _ _ w.heap.size _ _ _ _ _ (.bool false) rfl rfl (put5_five F4.out (.int .i64 0) (.slice none 0 0) (.int .i64 0) (.int .i64 0) (.slice none 0 0))) rfl (postX_fin hlt P4.out B4.out HLn.out rxv_zero (fun y r h => by rw [HEn.out] at h; cases h) (fun _ => rfl))
    | true =>
      have hso : o = some (x3, l3) := by
        cases o with
        | none => exact absurd (hn3 rfl) (by simp)
        | some q =>
          obtain ⟨_, h1, h2⟩ := hy3 q.1 q.2 rfl
          rw [h1, h2]
      have hnx : (if tkB 124 l3 = true then altP n' (acc ++ [x3]) (tkR 124 l3) else some (wrapS 3 (acc ++ [x3]), l3)) = E := by rw [← Hseq.out, hso]
      have Hnx := hide hnx
      have Hs34 := hide hs4
      have HT := hide (fun W (h : PB W p l3) => take1 p l3 124 W h ⟨#[124]⟩ rfl)
      have hl3l : l3.length ≤ l.length := by omega
      clear hx3 hp3 hb3 hy3 hn3 hb4 hs4 hul hso hnx
      go_wp2_with (first
        | (at_builtin; refine wp_push_rx rfl (.tmp 15) (.tmp 17) 23 rfl i0 _ 72 Tryz.underlying23 hi hz0 hz1 hz2 rfl (w.heap.size + 1) u acc rfl w4 _ _ _ _ _ x3 O4.out hs4' _ rfl rfl R4.out (by omega) (by unfold maxLen; omega) ?_; intro v7 w7 hown7 hb7; have O7 := hide hown7; have B7 := hide hb7; obtain ⟨XA, XM, XD, -, hv7, -⟩ := hown7.s; subst hv7; clear hown7 hb7)
        | fail)
      have P7 : Hid (PB w7 p l3) := hide ((B7.out.block p (by omega)).trans P4.out)
      have F7 := hide (F4.out.at_ B7.out (Nat.lt_succ_self _))
      have Bt7 := hide (B4.out.then_below B7.out (Nat.le_succ _))
      have hsz7 : w0.heap.size ≤ w7.heap.size := by have := B7.out.size; have := Hs34.out; omega
      with_reducible refine (HT.out _ P7.out).mono ?_
      rintro e w9 ⟨rfl, hp9, hb9⟩
      have P9 := hide hp9
      have F9 := hide (F7.out.bt hb9 (by omega))
      have Bt9 := hide (Bt7.out.trans hb9)
      have O9 := hide (O7.out.bt hb9 (by omega))
      have hs9 := hb9.size
      clear hp9 hb9
      cases h124 : tkB 124 l3 with
      | true =>
        have hnx := Hnx.out
        rw [if_pos h124] at hnx
        have hty := tk_yes h124
        have Hnx2 := hide hnx
        have Hrest9 := hide P9.out.rest
        have Hsz9 := hide (Nat.le_trans hsz7 hs9)
        obtain ⟨l5, hl5⟩ : ∃ l5, tkR 124 l3 = l5 := ⟨_, rfl⟩
        rw [hl5] at hty Hnx2 Hrest9 P9
        clear hnx h124 hl5
        go_wp2
        go_roundw
        case rel => exact ⟨n', acc ++ [x3], l5, O9.out, P9.out, Bt9.out, Hsz9.out, F9.out, Hnx2.out, by omega, by omega, by rw [List.length_append]; simp; omega⟩
        case measure => show restN p w9 < restN p w2; rw [Hrest.out, Hrest9.out]; omega
      | false =>
        have hnx := Hnx.out
        rw [if_neg (by simp [h124])] at hnx
        have HEq := hide hnx.symm
        have hno := tk_no h124
        rw [hno] at P9
        have HL := hide hl3l
        clear hnx h124 hno
        obtain ⟨YA, YM, YD, vs, hvx, hxm, hvs, hrx⟩ := O9.out.s
        obtain ⟨rfl, rfl, rfl⟩ : YA = XA ∧ YM = XM ∧ YD = XD := by cases hvx; exact ⟨rfl, rfl, rfl⟩
        have hxc := hvs.1
        by_cases hone : YM = 1
        · obtain ⟨xo, hxo⟩ : ∃ xq, (acc ++ [x3]) = [xq] := one_of_len (by rw [← hxm, hone])
          have HEn := hide (show E = some (xo, l3) by rw [HEq.out, hxo]; rfl)
          have hq1 : ((YM : Int) == 1) = true := by rw [hone]; rfl
          have kx : (0 : Int) < (YM : Int) := by omega
          obtain ⟨g, o, d0, d1, d2, d3, d4, rfl, hv0, a0, a1, a2, a3, a4⟩ := hvs.at_ (i := 0) (by omega)
          simp only [Nat.zero_mul, Nat.add_zero] at a0 a1 a2 a3 a4
          have hr0 := hrx 0 _ xo hv0 (by rw [hxo]; rfl)
          obtain ⟨z0, zA, zn, zc, z1, z2, zB, zm, zd, hag⟩ := hr0.agg9
          injection hag with hag
          injection hag with hag
          simp only [List.cons.injEq, and_true] at hag
          obtain ⟨rfl, rfl, rfl, rfl, rfl⟩ := hag
          have RE := hide hr0
          clear hvs hrx hv0 hr0 hxo hxm O9 HEq
          obtain ⟨⟨-, f1, f2, f3, f4, f5⟩, f6, f7, f8, f9, f10⟩ := F9.out
          go_wp2
          exact bodyPost_ret (res_two (fn := Tryz.f44) (p := 2) (u := 3) rfl _ _ w.heap.size _ _ _ _ _ (.bool true) rfl rfl (put5_five F9.out (.int .i64 z0) (.slice zA zn zc) (.int .i64 z1) (.int .i64 z2) (.slice zB zm zd))) rfl (postX_fin hlt P9.out Bt9.out HL.out RE.out (fun y r h => by rw [HEn.out] at h; cases h; exact ⟨rfl, rfl, rfl⟩) (fun h => by rw [HEn.out] at h; cases h))
        · have HEn := hide (show E = some (.mk 3 [] 0 0 (acc ++ [x3]), l3) by rw [HEq.out, wrapS_two 3 _ (by omega)])
          have hq1 : ((YM : Int) == 1) = false := beq_eq_false_iff_ne.2 (by omega)
          have RE := hide (O9.out.rx 3 (by omega))
          clear hvs hrx hxm O9 HEq
          obtain ⟨⟨-, f1, f2, f3, f4, f5⟩, f6, f7, f8, f9, f10⟩ := F9.out
          go_wp2
          exact bodyPost_ret (res_two (fn := Tryz.f44) (p := 2) (u := 3) rfl _ _ w.heap.size _ _ _ _ _ (.bool true) rfl rfl (put5_five F9.out (.int .i64 3) (.slice none 0 0) (.int .i64 0) (.int .i64 0) (.slice YA YM YD))) rfl (postX_fin hlt P9.out Bt9.out HL.out RE.out (fun y r h => by rw [HEn.out] at h; cases h; exact ⟨rfl, rfl, rfl⟩) (fun h => by rw [HEn.out] at h; cases h))
theorem pparsers : ∀ n m, m ≤ n → PAtomC m ∧ PItemC m ∧ PSeqC m ∧ PAltC m := by
  intro n
  induction n with
  | zero =>
    intro m hm
    obtain rfl : m = 0 := by omega
    exact ⟨fun p l w _ _ h => by omega, fun p l w _ _ h => by omega, fun p l w _ _ h => by omega, fun p l w _ _ h => by omega⟩
  | succ n ih =>
    intro m hm
    by_cases h : m ≤ n
    · exact ih m h
    · obtain rfl : m = n + 1 := by omega
      exact ⟨atom88 n (ih n (Nat.le_refl _)).2.2.2, item71 n (ih n (Nat.le_refl _)).1, seq54 n fun n' h' => (ih n' h').2.1, alt39 n fun n' h' => (ih n' h').2.2.1⟩
theorem parse_end' (l : List UInt8) (h : ¬ 300 < l.length) : parseS l = match altP (4 * l.length + 4) [] l with | some (r, m) => (if m = [] then (if rightR r = 0 then (r, 0) else (rx0, rightR r)) else (rx0, 3)) | none => (rx0, 3) := by
  unfold parseS
  rw [if_neg h]
  cases altP (4 * l.length + 4) [] l with
  | none => rfl
  | some q =>
    obtain ⟨r, m⟩ := q
    cases m with
    | nil => rfl
    | cons c m => rfl
set_option maxRecDepth 100000 in
set_option maxHeartbeats 12800000 in
theorem pparse16 (s : ByteArray) (hs : s.size ≤ 9223372036854775807) (w : World) : Calls Tryz.prog 14 #[.string s] w (GotX w (parseS s.data.toList)) := by
  obtain ⟨E, hE⟩ : ∃ E, parseS s.data.toList = E := ⟨_, rfl⟩
  rw [hE]
  obtain ⟨w0, hw0⟩ : ∃ w0, w.alloc (.cells #[.int .i64 0, .slice none 0 0, .int .i64 0, .int .i64 0, .slice none 0 0] 25) = w0 := ⟨_, rfl⟩
  have HF0 := hide (show FiveF w0 w.heap.size (.int .i64 0) (.slice none 0 0) (.int .i64 0) (.int .i64 0) (.slice none 0 0) by rw [← hw0]; exact fiveF_new w _ _ _ _ _ 25)
  have HB0 := hide (show Below w.heap.size w w0 by rw [← hw0]; exact bnew (Below.refl _ w) _)
  have hs1 : w.heap.size + 1 ≤ w0.heap.size := by rw [← hw0]; simp
  have hsb : (s.size : Int) ≤ 9223372036854775807 := by omega
  by_cases h300 : 300 < s.size
  · have h3 : (300 : Int) < (s.size : Int) := by omega
    have HEn := hide (show E = (rx0, 4) by rw [← hE]; unfold parseS; rw [if_pos (by simpa using h300)])
    clear hE
    go_enter Tryz.func14, Tryz.ntmps14
    obtain ⟨⟨-, f1, f2, f3, f4, f5⟩, f6, f7, f8, f9, f10⟩ := HF0.out
    go_wp2
    exact bodyPost_ret (res_two (fn := Tryz.f14) (p := 2) (u := 3) rfl _ _ w.heap.size _ _ _ _ _ (.int .i64 4) rfl rfl (put5_five HF0.out (.int .i64 0) (.slice none 0 0) (.int .i64 0) (.int .i64 0) (.slice none 0 0))) rfl ⟨_, by (rw [HEn.out] <;> rfl), by rw [HEn.out]; exact rxv_zero, put5_below HB0.out (Nat.le_refl _)⟩
  have h3 : ¬ (300 : Int) < (s.size : Int) := by omega
  obtain ⟨w1, hw1⟩ : ∃ w1, w0.alloc (.cells #[.string s] 77) = w1 := ⟨_, rfl⟩
  have hb1 : Below w0.heap.size w0 w1 := by rw [← hw1]; exact bnew (Below.refl _ w0) _
  have hs11 : w1.heap.size = w0.heap.size + 1 := by rw [← hw1]; simp
  obtain ⟨l, hl⟩ : ∃ l, s.data.toList = l := ⟨_, rfl⟩
  have hbs : bs l = s := ba_ext (by rw [bs_list, hl])
  have hll : l.length = s.size := by rw [← hl]; simp
  have P1 : PB w1 w0.heap.size l := by unfold PB; rw [hbs, ← hw1]; exact heap_alloc_new w0 _
  have HA := hide ((pparsers (4 * l.length + 4) _ (Nat.le_refl _)).2.2.2 w0.heap.size l w1 P1 (by omega) (Nat.le_refl _))
  have F1 := HF0.out.at_ hb1 (by omega)
  rw [hl, parse_end' l (by omega)] at hE
  have hsz0 := fun x r => (parse_size (4 * l.length + 4)).2.2.2 [] l x r
  obtain ⟨o, ho⟩ : ∃ o, altP (4 * l.length + 4) [] l = o := ⟨_, rfl⟩
  rw [ho] at HA hE
  have hsz1 : ∀ x r, o = some (x, r) → sizeR x ≤ 601 := fun x r h => by
    have := hsz0 x r (ho.trans h)
    rw [if_pos rfl] at this
    simp only [sizeL] at this
    omega
  have HE := hide hE
  have Hsz := hide hsz1
  have HF1 := hide F1
  have HB1 := hide (HB0.out.trans (hb1.mono (by omega)))
  clear hE ho hsz0 hsz1 F1 P1 hb1 hbs hll hl
  go_enter Tryz.func14, Tryz.ntmps14
  go_wp2_with fail
  with_reducible refine HA.out.mono ?_
  rintro e w3 ⟨v3, b3, l3, x3, rfl, hx3, hp3, hb3, hl3, hy3, hn3⟩
  obtain ⟨q0, qA, qn, qc, q1, q2, qB, qm, qd, rfl⟩ := hx3.agg9
  have hs3 := hb3.size
  obtain ⟨w4, hw4⟩ : ∃ w4, w3.alloc (.cells #[.int .i64 q0, .slice qA qn qc, .int .i64 q1, .int .i64 q2, .slice qB qm qd] 25) = w4 := ⟨_, rfl⟩
  have hb4 : Below w3.heap.size w3 w4 := by rw [← hw4]; exact bnew (Below.refl _ w3) _
  have hs4 : w4.heap.size = w3.heap.size + 1 := by rw [← hw4]; simp
  have g4 : Five w4 w3.heap.size (.int .i64 q0) (.slice qA qn qc) (.int .i64 q1) (.int .i64 q2) (.slice qB qm qd) := by rw [← hw4]; exact five_new w3 _ _ _ _ _ 25
  have G4 := hide g4
  have p4 := hp3.keep hb4
  have B4 := hide (HB1.out.trans ((hb3.up (B := w.heap.size) (by omega) (by omega)).trans (hb4.mono (by omega))))
  have F4 := hide ((HF1.out.bt hb3 (by omega)).at_ hb4 (by omega))
  have R4 := hide (hx3.map (W' := w4) (ok' := fun g => w.heap.size + 1 ≤ g) (fun q _ hq => hb4.cell hq) fun g hg _ => by omega)
  obtain ⟨-, b0, b1, b2, b3', b4⟩ := g4
  have hw43 : w.heap.size ≤ w4.heap.size := by omega
  have hw44 : w.heap.size + 1 ≤ w4.heap.size := by omega
  have hw34 : w3.heap.size < w4.heap.size := by omega
  obtain ⟨S, hS⟩ : ∃ S, bs l3 = S := ⟨_, rfl⟩
  have hcS : w4.cell? ⟨w0.heap.size, 0, none⟩ = some (.string S) := by rw [← hS]; exact p4.cell
  cases b3 with
  | false =>
    have HEn := hide (show E = (rx0, 3) by
      rw [← HE.out]
      cases o with
      | none => rfl
      | some q => exact absurd (hy3 q.1 q.2 rfl).1 (by simp))
    clear hx3 hp3 hb3 hy3 hn3 hb4 hs4 p4 hS
    obtain ⟨⟨-, f1, f2, f3, f4, f5⟩, f6, f7, f8, f9, f10⟩ := F4.out
    go_wp2
    exact bodyPost_ret (res_two (fn := Tryz.f14) (p := 2) (u := 3) rfl _ _ w.heap.size _ _ _ _ _ (.int .i64 3) rfl rfl (put5_five F4.out (.int .i64 0) (.slice none 0 0) (.int .i64 0) (.int .i64 0) (.slice none 0 0))) rfl ⟨_, by (rw [HEn.out] <;> rfl), by rw [HEn.out]; exact rxv_zero, put5_below B4.out (Nat.le_refl _)⟩
  | true =>
    have hso : o = some (x3, l3) := by
      cases o with
      | none => exact absurd (hn3 rfl) (by simp)
      | some q =>
        obtain ⟨_, h1, h2⟩ := hy3 q.1 q.2 rfl
        rw [h1, h2]
    have hsx := Hsz.out _ _ hso
    have hdx := depth_size x3
    have hE2 : (if l3 = [] then (if rightR x3 = 0 then (x3, 0) else (rx0, rightR x3)) else (rx0, 3)) = E := by rw [← HE.out, hso]
    have HR := hide (fun (W : World) (ok : Nat → Prop) (v : Value) (h : RxV W ok v x3) => pright27 h (by omega) (by omega))
    clear hx3 hp3 hb3 hy3 hn3 hb4 hs4 p4 hso hsx hdx
    cases l3 with
    | cons c m =>
      have hne : ¬ S = (⟨#[]⟩ : ByteArray) := by rw [← hS]; exact bs_ne c m
      have hem : S.toList.isEmpty = false := by rw [← hS]; exact bs_empty c m
      rw [if_neg (by simp)] at hE2
      have HEn := hide hE2.symm
      clear hE2 hS
      obtain ⟨⟨-, f1, f2, f3, f4, f5⟩, f6, f7, f8, f9, f10⟩ := F4.out
      go_wp2
      exact bodyPost_ret (res_two (fn := Tryz.f14) (p := 2) (u := 3) rfl _ _ w.heap.size _ _ _ _ _ (.int .i64 3) rfl rfl (put5_five F4.out (.int .i64 0) (.slice none 0 0) (.int .i64 0) (.int .i64 0) (.slice none 0 0))) rfl ⟨_, by (rw [HEn.out] <;> rfl), by rw [HEn.out]; exact rxv_zero, put5_below B4.out (Nat.le_refl _)⟩
    | nil =>
      obtain rfl : ⟨#[]⟩ = S := hS
      rw [if_pos rfl] at hE2
      obtain ⟨R, hRR⟩ : ∃ R, rightR x3 = R := ⟨_, rfl⟩
      rw [hRR] at HR hE2
      by_cases h0 : R = 0
      · rw [if_pos h0] at hE2
        have HEn := hide hE2.symm
        have hr0 : (R != 0) = false := by rw [h0]; rfl
        clear hE2 h0 hRR
        go_wp2_with fail
        with_reducible refine (HR.out _ _ _ R4.out).mono ?_
        rintro e w5 ⟨rfl, hbR⟩
        have F5 := hide (F4.out.at_ hbR (by omega))
        have g5 := G4.out.keep hbR
        obtain ⟨-, c0, c1, c2, c3, c4⟩ := g5
        have R5 := hide (R4.out.map (W' := w5) (ok' := fun g => w.heap.size + 1 ≤ g) (fun q _ hq => hbR.cell hq) fun g hg _ => hg)
        have B5 := hide (B4.out.trans (hbR.mono hw43))
        clear hbR
        obtain ⟨⟨-, f1, f2, f3, f4, f5⟩, f6, f7, f8, f9, f10⟩ := F5.out
        go_wp2
        exact bodyPost_ret (res_two (fn := Tryz.f14) (p := 2) (u := 3) rfl _ _ w.heap.size _ _ _ _ _ (.int .i64 0) rfl rfl (put5_five F5.out (.int .i64 q0) (.slice qA qn qc) (.int .i64 q1) (.int .i64 q2) (.slice qB qm qd))) rfl ⟨_, by (rw [HEn.out] <;> rfl), by rw [HEn.out]; exact put5_rxv R5.out (Nat.lt_succ_self _) _ (Nat.le_succ _), put5_below B5.out (Nat.le_refl _)⟩
      · rw [if_neg h0] at hE2
        have HEn := hide hE2.symm
        have hr0 : (R != 0) = true := bne_iff_ne.2 h0
        clear hE2 h0 hRR
        go_wp2_with fail
        with_reducible refine (HR.out _ _ _ R4.out).mono ?_
        rintro e w5 ⟨rfl, hbR⟩
        have F5 := hide (F4.out.at_ hbR (by omega))
        have B5 := hide (B4.out.trans (hbR.mono hw43))
        clear hbR
        obtain ⟨⟨-, f1, f2, f3, f4, f5⟩, f6, f7, f8, f9, f10⟩ := F5.out
        go_wp2
        exact bodyPost_ret (res_two (fn := Tryz.f14) (p := 2) (u := 3) rfl _ _ w.heap.size _ _ _ _ _ (.int .i64 R) rfl rfl (put5_five F5.out (.int .i64 0) (.slice none 0 0) (.int .i64 0) (.int .i64 0) (.slice none 0 0))) rfl ⟨_, by (rw [HEn.out] <;> rfl), by rw [HEn.out]; exact rxv_zero, put5_below B5.out (Nat.le_refl _)⟩
end Go.Proofs.YtlnbjdlooghpeaaGreatDoor
