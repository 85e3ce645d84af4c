/- Layer 10: what the laws ask of the program; the laws of Literals and Of over it. -/
import Derived.Test.YtlnbjdlooghpeaaQm
import Derived.Test.YtlnbjdlooghpeaaN3
import Derived.Deep.RegionWith
namespace Go.Proofs.Ytlnbjdlooghpeaa
open Go.RowKit

/-- A condition, wherever it lies. -/
def GotA (W : World) (n : Nd) (e : Ending) (w' : World) : Prop := ∃ v, e = .returned v ∧ NdV w' (fun _ => True) v n ∧ Below W.heap.size W w'
theorem GotN.a {W w' : World} {n : Nd} {e : Ending} (h : GotN W n e w') : GotA W n e w' := by
  obtain ⟨v, rfl, h1, h2⟩ := h
  exact ⟨v, rfl, h1.weak fun _ _ => trivial, h2⟩
theorem GotM.a {W w' : World} {ok : Nat → Prop} {n : Nd} {e : Ending} (h : GotM W ok n e w') : GotA W n e w' := by
  obtain ⟨v, rfl, h1, h2⟩ := h
  exact ⟨v, rfl, h1.weak fun _ _ => trivial, h2⟩
theorem NdV.any {W : World} {ok : Nat → Prop} {v : Value} {n : Nd} (h : NdV W ok v n) : NdV W (fun _ => True) v n := h.weak fun _ _ => trivial
/-- Ints that an int holds. -/
def WfL (cs : List Int) : Prop := ∀ z ∈ cs, (Lit.int .i64 z).wf = true
/-- What the laws ask of the program. -/
structure Cs : Prop where
  lit : ∀ {W : World} {ok : Nat → Prop} {v : Value} {r : Rx}, RxV W ok v r → sizeR r ≤ 1000000 → depthR r ≤ 1000000 → Calls Try.prog 10 #[v] W (GotL W (literalsS r))
  of_ : ∀ {W : World} {ok : Nat → Prop} {v : Value} {r : Rx}, RxV W ok v r → sizeR r ≤ 1000000 → depthR r ≤ 1000000 → Calls Try.prog 22 #[v] W (GotA W (needS r))
  right : ∀ {W : World} {ok : Nat → Prop} {v : Value} {r : Nd}, NdV W ok v r → sizeN r ≤ 1000000 → ∀ q, rightN 1 r = q → Calls Try.prog 14 #[v] W fun e w' => e = .returned (.bool q) ∧ Below W.heap.size W w'
  eval : ∀ {W : World} {ok : Nat → Prop} {v : Value} {r : Nd} {A : Option Addr} {n c : Nat} {cs : List Int}, NdV W ok v r → sizeN r ≤ 1000000 → cs.length ≤ 2000000 → WfL cs → Sl W A n c (numCells cs) → ∀ q, evalS r cs = q → Calls Try.prog 16 #[v, .slice A n c] W fun e w' => e = .returned (.bool q) ∧ Below W.heap.size W w'
  simp : ∀ {W : World} {ok : Nat → Prop} {v : Value} {r : Nd}, NdV W ok v r → sizeN r ≤ 1000000 → Calls Try.prog 19 #[v] W (GotA W (simplifyS r))
  same : ∀ {W : World} {ok ok' : Nat → Prop} {v v' : Value} {r r' : Nd}, NdV W ok v r → NdV W ok' v' r' → sizeN r ≤ 1000000 → ∀ q : Bool, (q = true ↔ r = r') → Calls Try.prog 21 #[v, v'] W fun e w' => e = .returned (.bool q) ∧ Below W.heap.size W w'
  fold : ∀ {W : World} {ok : Nat → Prop} {v : Value} {r : Rx}, RxV W ok v r → rightR r = 0 → Calls Try.prog 24 #[v] W fun e w' => ∃ v', e = .returned v' ∧ RxV w' (fun _ => True) v' (foldR r) ∧ Below W.heap.size W w'
def AliveC : Prop := ∀ w : World, Calls Try.prog 8 #[] w fun e w' => e = .returned (.bool true) ∧ Below w.heap.size w w'
theorem gotL_ex {W w' : World} {o : Option (List (List UInt8))} {e : Ending} (h : GotL W o e w') {q : Bool} (hq : o.isSome = q) {N : Nat} (hN : (o.getD []).length = N) : ∃ A c, e = .returned (.tuple #[.slice A N c, .bool q]) ∧ Sl w' A N c (strCells (o.getD [])) ∧ Below W.heap.size W w' := by
  obtain ⟨A, n, c, rfl, rfl, hs, hb⟩ := h
  subst hq hN
  exact ⟨A, c, rfl, hs, hb⟩
theorem lit_len8 (r : Rx) : ((literalsS r).getD []).length ≤ 8 := by
  unfold literalsS
  split
  · cases h : litR false r with
    | none => simp
    | some p => exact (litR_good r p h).2.1
  · simp
theorem depth_le' (r : Rx) : depthR r ≤ sizeR r := by
  induction r using Rx.ind with
  | h k s a b l ih =>
    rw [depthR_mk, sizeR_mk]
    have : ∀ q : List Rx, (∀ x ∈ q, depthR x ≤ sizeR x) → depthL q ≤ sizeL q := by
      intro q
      induction q with
      | nil => intro _; simp [depthL]
      | cons x q iq =>
        intro h
        rw [sizeL_cons]
        unfold depthL
        have h1 := h x (by simp)
        have h2 := iq fun y hy => h y (by simp [hy])
        omega
    have := this l ih
    omega

set_option maxRecDepth 100000 in
set_option maxHeartbeats 6400000 in
theorem law3 (A : AliveC) (C : Cs) {ok : Nat → Prop} {v : Value} {r : Rx} (hsz : weightR r ≤ 1000000) (w : World) (hv : RxV w ok v r) :
    Calls Try.prog 3 #[v] w fun e w' => e = .returned (.bool true) ∧ Below w.heap.size w w' := by
  have hs1 : sizeR r ≤ 1000000 := Nat.le_trans (size_weight r) hsz
  have hd1 : depthR r ≤ 1000000 := Nat.le_trans (depth_le' r) hs1
  obtain ⟨k, a, b, A', B, n, c, m, d, rfl⟩ := rxv_shape hv
  have hb1 := bel_alloc w (.cells #[.int .i64 k, .slice A' n c, .int .i64 a, .int .i64 b, .slice B m d] 25)
  have F := hide (five_new w (.int .i64 k) (.slice A' n c) (.int .i64 a) (.int .i64 b) (.slice B m d) 25)
  have V := hide (hv.kept hb1)
  have B1 := hide hb1
  have HA := hide (A (w.alloc (.cells #[.int .i64 k, .slice A' n c, .int .i64 a, .int .i64 b, .slice B m d] 25)))
  obtain ⟨N, hN⟩ : ∃ N, ((literalsS r).getD []).length = N := ⟨_, rfl⟩
  have hN8 : N ≤ 8 := by rw [← hN]; exact lit_len8 r
  obtain ⟨q, hq⟩ : ∃ q, (literalsS r).isSome = q := ⟨_, rfl⟩
  obtain ⟨z, hz⟩ : ∃ z, szR 200 r = z := ⟨_, rfl⟩
  have hzb : z ≤ 1000000 := by rw [← hz]; have := (sz_ok r 200).2; omega
  have HS := hide (fun (W : World) (h : RxV W ok (.agg #[.int .i64 k, .slice A' n c, .int .i64 a, .int .i64 b, .slice B m d]) r) => (show Calls Try.prog 9 #[.agg #[.int .i64 k, .slice A' n c, .int .i64 a, .int .i64 b, .slice B m d], .int .i64 200] W fun e w' => e = .returned (.int .i64 (z : Int)) ∧ Below W.heap.size W w' from by rw [← hz]; exact rsize r W ok _ 200 h (by omega) (by omega)))
  have HL := hide (fun (W : World) (h : RxV W ok (.agg #[.int .i64 k, .slice A' n c, .int .i64 a, .int .i64 b, .slice B m d]) r) => (C.lit h hs1 hd1).mono (R' := fun e w' => ∃ A c, e = .returned (.tuple #[.slice A N c, .bool q]) ∧ Sl w' A N c (strCells ((literalsS r).getD [])) ∧ Below W.heap.size W w') fun e w' h => gotL_ex h hq hN)
  have HR := hide (fun (W : World) (h : RxV W ok (.agg #[.int .i64 k, .slice A' n c, .int .i64 a, .int .i64 b, .slice B m d]) r) => (rLiterals h hs1 hd1).mono (R' := fun e w' => ∃ A c, e = .returned (.tuple #[.slice A N c, .bool q]) ∧ Sl w' A N c (strCells ((literalsS r).getD [])) ∧ Below W.heap.size W w') fun e w' h => gotL_ex h hq hN)
  have Hlen := hide (show ((literalsS r).getD []).length ≤ 1000000 by omega)
  clear hv hb1 A C hN hz hsz hs1 hd1 hq
  go_enter Try.func3, Try.ntmps3
  go_wp2_with fail
  with_reducible refine HA.out.mono ?_
  rintro e w1 ⟨rfl, hb⟩
  have F1 := hide (F.out.keep hb)
  have V1 := hide (V.out.kept hb)
  have B2 := hide (bgo B1.out hb)
  obtain ⟨-, t0, t1, t2, t3, t4⟩ := F1.out
  clear hb HA
  go_wp2_with fail
  with_reducible refine (HS.out _ V1.out).mono ?_
  rintro e w2 ⟨rfl, hb⟩
  have F2 := hide (F1.out.keep hb)
  have V2 := hide (V1.out.kept hb)
  have B3 := hide (bgo B2.out hb)
  obtain ⟨-, t0, t1, t2, t3, t4⟩ := F2.out
  clear hb HS
  by_cases hbig : 200 < z
  · have hbig' : (200 : Int) < (z : Int) := by omega
    go_wp2
    go_ret
    exact ⟨rfl, B3.out⟩
  have hbig' : ¬ (200 : Int) < (z : Int) := by omega
  go_wp2_with fail
  with_reducible refine (HL.out _ V2.out).mono ?_
  rintro e w3 ⟨A3, c3, rfl, hs3, hb⟩
  have F3 := hide (F2.out.keep hb)
  have V3 := hide (V2.out.kept hb)
  have B4 := hide (bgo B3.out hb)
  have S3 := hide hs3
  obtain ⟨-, t0, t1, t2, t3, t4⟩ := F3.out
  clear hb HL hs3
  go_wp2_with fail
  with_reducible refine (HR.out _ V3.out).mono ?_
  rintro e w4 ⟨A4, c4, rfl, hs4, hb⟩
  have B5 := hide (bgo B4.out hb)
  have HE := hide (rStrings (S3.out.below hb) hs4 true (by simp) Hlen.out)
  have hqq : (q == q) = true := by simp
  clear hb HR hs4
  go_wp2_with fail
  with_reducible refine HE.out.mono ?_
  rintro e w5 ⟨rfl, hb⟩
  have B6 := hide (bgo B5.out hb)
  clear hb
  go_wp2
  go_ret
  exact ⟨rfl, B6.out⟩
end Go.Proofs.Ytlnbjdlooghpeaa
