/- Walks of layer 8's reference: inner, canonical. -/
import Derived.Test.YtmiegjefmebpdaaGreatDoorKA
namespace Go.Proofs.YtmiegjefmebpdaaGreatDoor
open Go.RowKit

/-- What canonical does at an expression. -/
def CanC (x : Rx) : Prop := ∀ (W : World) (ok : Nat → Prop) (v : Value), RxV W ok v x → Calls Tryz.prog 42 #[v] W fun e w' =>
  ∃ X : ByteArray, e = .returned (.tuple #[.string X, .bool (osB (canR x))]) ∧ (∀ s, canR x = some s → X = bs s) ∧ X.size + 100 ≤ 1400 * sizeR x ∧ Below W.heap.size W w'

set_option maxRecDepth 100000 in
set_option maxHeartbeats 12800000 in
theorem inner61 {x : Rx} (hx : CanC x) (o : Int) (ho : o = 2 ∨ o = 3 ∨ o = 4) {W : World} {ok : Nat → Prop} {v : Value} (hv : RxV W ok v x) (hsz : sizeR x ≤ 10000) :
    Calls Tryz.prog 61 #[.int .i64 o, v] W fun e w' => ∃ X : ByteArray, e = .returned (.tuple #[.string X, .bool (osB (canR x))]) ∧ (∀ s, canR x = some s → X = bs (wrapP o x.kind s)) ∧ X.size + 98 ≤ 1400 * sizeR x ∧ Below W.heap.size W w' := by
  have hv0 := hv
  cases hv with
  | mk k a b A B n c m d s vs l hset hvs hlen hk ha hb hr =>
  have hB := bnew (Below.refl _ W) (.cells #[.int .i64 k, .slice A n c, .int .i64 a, .int .i64 b, .slice B m d] 25)
  have BB := hide hB
  have F := hide (five_new W (.int .i64 k) (.slice A n c) (.int .i64 a) (.int .i64 b) (.slice B m d) 25)
  have hkind : (Rx.mk k s a b l).kind = k := rfl
  obtain ⟨x, hxe⟩ : ∃ x, Rx.mk k s a b l = x := ⟨_, rfl⟩
  rw [hxe] at hx hv0 hsz hkind ⊢
  have HC := hide (hx _ ok _ (hv0.kept hB))
  obtain ⟨T, hT⟩ : ∃ T, osB (canR x) = T := ⟨_, rfl⟩
  obtain ⟨Z, hZ⟩ : ∃ Z, 1400 * sizeR x = Z := ⟨_, rfl⟩
  have hZ2 : Z ≤ 14000000 := by omega
  obtain ⟨z3, h3⟩ : ∃ z, (k == 3) = z := ⟨_, rfl⟩
  obtain ⟨z2, h2⟩ : ∃ z, (k == 2) = z := ⟨_, rfl⟩
  obtain ⟨z4, h4⟩ : ∃ z, (k == 4) = z := ⟨_, rfl⟩
  have e3 : decide (k = 3) = z3 := by rw [← h3]; rfl
  have e2 : decide (k = 2) = z2 := by rw [← h2]; rfl
  have e4 : decide (k = 4) = z4 := by rw [← h4]; rfl
  have hp : paren o k = (z3 || (decide (o = 2) && z2) || (decide (o = 4) && (z2 || z4))) := by unfold paren; rw [e3, e2, e4]
  have HP := hide (show ∀ s, wrapP o x.kind s = if (z3 || (decide (o = 2) && z2) || (decide (o = 4) && (z2 || z4))) = true then 40 :: s ++ [41] else s from fun s => by unfold wrapP; rw [hkind, hp])
  have HS := hide (show ∀ s, canR x = some s → ∀ X : ByteArray, X = bs s → (⟨#[40]⟩ : ByteArray) ++ X ++ (⟨#[41]⟩ : ByteArray) = bs (40 :: s ++ [41]) from fun s _ X hX => by
    rw [hX, show (⟨#[40]⟩ : ByteArray) = bs [40] from rfl, show (⟨#[41]⟩ : ByteArray) = bs [41] from rfl, bs_app, bs_app]; rfl)
  unfold Hid at HC
  rw [hT, hZ] at HC
  have HC := hide HC
  rw [hT, hZ]
  clear hset hvs hlen hk ha hb hr hB hv0 hx hsz hkind hT hZ e3 e2 e4 hp hxe
  go_enter Tryz.func61, Tryz.ntmps61
  go_wp2_with fail
  with_reducible refine HC.out.mono ?_
  rintro e w2 ⟨X, rfl, hX, hXb, hb2⟩
  have HX := hide hX
  have B2 := hide (bgo BB.out hb2)
  obtain ⟨_, t0, t1, t2, t3, t4⟩ := F.out.keep hb2
  have hXs : X.size ≤ 14000000 := by omega
  have hX1 : ((⟨#[40]⟩ : ByteArray) ++ X).size ≤ 14000001 := by simp only [ByteArray.size_append]; have : (⟨#[40]⟩ : ByteArray).size = 1 := rfl; omega
  have hsz2 : ((⟨#[40]⟩ : ByteArray) ++ X ++ (⟨#[41]⟩ : ByteArray)).size = X.size + 2 := by simp only [ByteArray.size_append]; have : (⟨#[40]⟩ : ByteArray).size = 1 := rfl; have : (⟨#[41]⟩ : ByteArray).size = 1 := rfl; omega
  have Hsz := hide hsz2
  clear hb2 F HC hX hsz2
  rcases ho with rfl | rfl | rfl
  · cases z3 <;> cases z2
    all_goals
      go_wp2
      go_ret2
      first
        | exact ⟨X, rfl, fun s hs => by rw [HP.out s, if_neg (by simp)]; exact HX.out s hs, by omega, B2.out⟩
        | exact ⟨_, rfl, fun s hs => by rw [HP.out s, if_pos (by simp)]; exact HS.out s hs X (HX.out s hs), by have := Hsz.out; omega, B2.out⟩
  · cases z3
    all_goals
      go_wp2
      go_ret2
      first
        | exact ⟨X, rfl, fun s hs => by rw [HP.out s, if_neg (by simp)]; exact HX.out s hs, by omega, B2.out⟩
        | exact ⟨_, rfl, fun s hs => by rw [HP.out s, if_pos (by simp)]; exact HS.out s hs X (HX.out s hs), by have := Hsz.out; omega, B2.out⟩
  · cases z3 <;> cases z2 <;> cases z4
    all_goals
      go_wp2
      go_ret2
      first
        | exact ⟨X, rfl, fun s hs => by rw [HP.out s, if_neg (by simp)]; exact HX.out s hs, by omega, B2.out⟩
        | exact ⟨_, rfl, fun s hs => by rw [HP.out s, if_pos (by simp)]; exact HS.out s hs X (HX.out s hs), by have := Hsz.out; omega, B2.out⟩

end Go.Proofs.YtmiegjefmebpdaaGreatDoor
