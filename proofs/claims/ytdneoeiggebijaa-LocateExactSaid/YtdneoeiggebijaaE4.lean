/- The borders of what is sought, in the closure's words. -/
import Derived.Test.YtdneoeiggebijaaE2
namespace Go.Proofs.Ytdneoeiggebijaa
open Go.RowKit

theorem ext_bord (t : ByteArray) (k : Nat) (hk : k < t.size) : ∃ Q, Ext t (bords t.data.toList (k + 1)) t[k] (bord t.data.toList (k + 1)) Q ∧ Q (bord t.data.toList k) := by
  have ls := size_list t
  have gd := getD_byte t
  obtain ⟨e, he⟩ : ∃ e, t.data.toList = e := ⟨_, rfl⟩
  rw [he] at ls gd ⊢
  cases k with
  | zero =>
    refine ⟨fun z => z = -1, ⟨fun z hz => by omega, fun j hj => by omega, fun j b _ hj => by omega, fun j _ hj => by omega, fun _ => bord_one e⟩, rfl⟩
  | succ m =>
    have hy : (e.drop 1).getD m 0 = t[m + 1] := by rw [drop_at]; exact gd (m + 1) hk
    refine ⟨Pre (e.drop 1) e m, ⟨fun z hz => hz.1, fun j hj => ?_, fun j b h hj hne hb => ?_, fun j h hj heq => ?_, fun hz => ?_⟩, pre_bord e m (by omega)⟩
    · have h1 := (hj.2.2.1 j rfl).1
      have h2 := hj.2.1
      rw [bords_len]
      constructor <;> omega
    · have h1 := (hj.2.2.1 j rfl).1
      rw [bords_at e (m + 1 + 1) j (by omega)] at hb
      obtain rfl : bord e j = b := by simpa using hb
      refine ⟨hj.next ?_, bord_hi e j⟩
      rw [hy, gd j h]
      exact fun h' => hne h'.symm
    · rw [bord_next e (m + 1)]
      exact hj.done (by rw [hy, gd j h, heq])
    · rw [bord_next e (m + 1)]
      exact hz.none
theorem ext_lng (s t : ByteArray) (m : Nat) (hm : m < s.size) : Ext t (bords t.data.toList (t.size + 1)) s[m] (lng s.data.toList t.data.toList (m + 1)) (Pre s.data.toList t.data.toList m) := by
  have ls := size_list t
  have gd := getD_byte t
  have hy := getD_byte s m hm
  obtain ⟨e, he⟩ : ∃ e, t.data.toList = e := ⟨_, rfl⟩
  obtain ⟨d, hd⟩ : ∃ d, s.data.toList = d := ⟨_, rfl⟩
  rw [he] at ls gd ⊢
  rw [hd] at hy ⊢
  refine ⟨fun z hz => hz.1, fun j hj => ?_, fun j b h hj hne hb => ?_, fun j h hj heq => ?_, fun hz => hz.none⟩
  · have h2 := hj.2.1
    rw [bords_len]
    constructor <;> omega
  · rw [bords_at e (t.size + 1) j (by omega)] at hb
    obtain rfl : bord e j = b := by simpa using hb
    refine ⟨hj.next ?_, bord_hi e j⟩
    rw [hy, gd j h]
    exact fun h' => hne h'.symm
  · exact hj.done (by rw [hy, gd j h, heq])

theorem own_heap {w W : World} {B e : Nat} {sz n : Nat} {v : Value} {xs : List Value} (h : w.ownsRow B e sz v n xs) (hw : W.heap = w.heap) : W.ownsRow B e sz v n xs := by
  obtain ⟨h1, h2⟩ := h
  refine ⟨h1, ?_⟩
  rcases h2 with h2 | ⟨g, cap, cur, hv, hg, hh, r⟩
  · exact Or.inl h2
  · exact Or.inr ⟨g, cap, cur, hv, hg, by rw [hw]; exact hh, r⟩
theorem sl_heap {w W : World} {A : Option Addr} {n c : Nat} {xs : List Value} (h : Sl w A n c xs) (hw : W.heap = w.heap) : Sl W A n c xs := by
  obtain ⟨h1, h2, h3, h4⟩ := h
  refine ⟨h1, h2, h3, h4.1, fun k u hu => ?_⟩
  obtain ⟨ad, e, hb, hc⟩ := h4.2 k u hu
  refine ⟨ad, e, by rw [hw]; exact hb, ?_⟩
  rw [← hc]
  exact World.cell?_of_block (by rw [hw])
/-- Borders in a row of the call's own, behind a captured variable: what the closure is told. -/
theorem cap_sl {B Bl n : Nat} {T : TypeId} {bs : List Int} {w : World} (h : Cap B Bl T 3 1 n (numCells bs) w) (hn : 0 < n) : ∃ g cap, w.heap[Bl]? = some (.cells #[.slice (some ⟨g, 0, none⟩) n cap] T (0, 0)) ∧ w.ownsRow B 3 1 (.slice (some ⟨g, 0, none⟩) n cap) n (numCells bs) ∧ Sl w (some ⟨g, 0, none⟩) n cap (numCells bs) ∧ B ≤ g ∧ g < w.heap.size := by
  obtain ⟨_, v, hv, ho⟩ := h
  obtain ⟨g, cap, rfl, h1, h2⟩ := ho.form hn
  have hl : (numCells bs).length = n := by have := ho.1; omega
  have ho' : Own w B 3 (.slice (some ⟨g, 0, none⟩) n cap) (numCells bs) := by unfold Own; rw [hl]; exact ho
  obtain ⟨A, c, e, hs⟩ := ho'.sl
  rw [hl] at hs e
  cases e
  exact ⟨g, cap, hv, ho, hs, h1, h2⟩

end Go.Proofs.Ytdneoeiggebijaa
