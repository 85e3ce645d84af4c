/- Walks of layer 7's program: Find, Count, Codes. -/
import Derived.Test.YtdneoeiggebijaaE3
import Derived.Test.YtdneoeiggebijaaU4
namespace Go.Proofs.Ytdneoeiggebijaa
open Go.RowKit

theorem run27 (xs : Array Value) (W : World) : (callFunc 27 xs).run Try.prog W = .ok (.enter 27 xs) W := by
  kernel_rfl
theorem run29 (xs : Array Value) (W : World) : (callFunc 29 xs).run Try.prog W = .ok (.enter 29 xs) W := by
  kernel_rfl

set_option maxRecDepth 20000 in
set_option maxHeartbeats 1600000 in
theorem find12 (s t : ByteArray) (f : Bool) (w : World) (hs : s.size ≤ 1000) (ht : t.size ≤ 1000) : Calls Try.prog 12 #[.string s, .string t, .bool f] w (GotI w (findS f s.data.toList t.data.toList)) := by
  have hb0 : Below w.heap.size w (w.alloc (.cells #[.slice none 0 0] 24)) := bnew (Below.refl _ w) _
  have hn0 := heap_alloc_new w (.cells #[.slice none 0 0] 24)
  have hsz : (w.alloc (.cells #[.slice none 0 0] 24)).heap.size = w.heap.size + 1 := by simp
  have HE := hide (each26 27 #[.pointer (some ⟨w.heap.size, 0, none⟩)] (StF w w.heap.size) s t f (w.alloc (.cells #[.slice none 0 0] 24)) (by omega) (by omega) run27
    (fun W hb hlt => by
      rw [hsz] at hb hlt
      exact ⟨by omega, Nat.le_refl _, ⟨_, (hb.block _ (by omega)).trans hn0, World.ownsRow_nil _ _ _ _⟩, hb0.trans (hb.mono (by omega))⟩)
    (fun X W l k z hz h hl _ => by
      subst hz
      rw [hsz]
      exact visit27 w w.heap.size X W l k h hl))
  clear hb0 hn0 hsz
  go_enter Try.func12, Try.ntmps12
  go_wp2_with fail
  with_reducible refine HE.out.mono ?_
  rintro e w1 ⟨rfl, X, hBX, hX, ⟨v, hv, ho⟩, hb⟩
  have hc := cell_of_one hv
  obtain ⟨A, m, c, rfl, hm, hs⟩ := ho.slI
  subst hm
  have Hs := hide hs
  have B := hide hb
  clear hv ho hs hb HE
  go_wp2
  go_ret
  exact ⟨_, _, _, rfl, Hs.out, B.out⟩

set_option maxRecDepth 20000 in
set_option maxHeartbeats 1600000 in
theorem count14 (s t : ByteArray) (f : Bool) (w : World) (hs : s.size ≤ 1000) (ht : t.size ≤ 1000) : Calls Try.prog 14 #[.string s, .string t, .bool f] w fun e w' => e = .returned (.int .i64 ((countS f s.data.toList t.data.toList : Nat) : Int)) ∧ Below w.heap.size w w' := by
  obtain ⟨w0, hw0⟩ : ∃ w0, w0 = ((w.alloc (.cells #[.string t] 9)).alloc (.cells #[.int .i64 0] 3)).alloc (.cells #[.int .i64 0] 3) := ⟨_, rfl⟩
  have hb0 : Below w.heap.size w w0 := by rw [hw0]; exact bnew (bnew (bnew (Below.refl _ w) _) _) _
  have hsz : w0.heap.size = w.heap.size + 3 := by rw [hw0]; simp
  have h0 : w0.heap[w.heap.size]? = some (.cells #[.string t] 9 (0, 0)) := by
    rw [hw0]
    exact (Below.heap_alloc _ _ _ (by simp; omega)).trans ((Below.heap_alloc _ _ _ (by simp)).trans (heap_alloc_new w _))
  have h1 : w0.heap[w.heap.size + 1]? = some (.cells #[.int .i64 0] 3 (0, 0)) := by
    rw [hw0]
    refine (Below.heap_alloc _ _ _ (by simp)).trans ?_
    have := heap_alloc_new (w.alloc (.cells #[.string t] 9)) (.cells #[.int .i64 0] 3)
    simpa using this
  have h2 : w0.heap[w.heap.size + 2]? = some (.cells #[.int .i64 0] 3 (0, 0)) := by
    rw [hw0]
    have := heap_alloc_new ((w.alloc (.cells #[.string t] 9)).alloc (.cells #[.int .i64 0] 3)) (.cells #[.int .i64 0] 3)
    simpa using this
  have HE := hide (each26 29 #[.pointer (some ⟨w.heap.size + 2, 0, none⟩), .pointer (some ⟨w.heap.size + 1, 0, none⟩), .pointer (some ⟨w.heap.size, 0, none⟩)] (StC w w.heap.size t.size) s t f w0 (by omega) (by omega) run29
    (fun W hb hlt => by
      rw [hsz] at hb hlt
      exact ⟨by omega, Nat.le_refl _, ⟨t, rfl, (hb.block _ (by omega)).trans h0⟩, (hb.block _ (by omega)).trans h1, (hb.block _ (by omega)).trans h2, ⟨Int.le_refl 0, (by decide : (0 : Int) ≤ 200000)⟩, hb0.trans (hb.mono (by omega))⟩)
    (fun X W l k z hz h hl hk => by
      subst hz
      rw [hsz]
      exact visit29 w w.heap.size t.size X W l k h hl (by omega) hk))
  rw [hw0] at HE
  have hap := apart f s.data.toList t.data.toList
  rw [size_list] at hap
  obtain ⟨R, hR⟩ : ∃ R, countS f s.data.toList t.data.toList = R := ⟨_, rfl⟩
  rw [hR] at hap ⊢
  have Hap := hide hap
  have hcl := cell_of_one h0
  rw [hw0] at hcl
  clear hb0 hsz h0 h1 h2 hR hap hw0
  go_enter Try.func14, Try.ntmps14
  go_wp2_with fail
  with_reducible refine HE.out.mono ?_
  rintro e w1 ⟨rfl, X, hBX, hX, -, hv1, -, -, hb⟩
  rw [Hap.out] at hv1
  have hc := cell_of_one hv1
  have B := hide hb
  clear hv1 hb HE
  go_wp2
  go_ret
  exact ⟨rfl, B.out⟩

theorem codes16 (t : ByteArray) (w : World) (ht : t.size ≤ 1000) : Calls Try.prog 16 #[.string t] w (GotI w (ofS t.data.toList)) := by
  go_enter Try.func16, Try.ntmps16
  go_wp2_with fail
  refine (of25 t w (by omega)).mono ?_
  rintro e w' ⟨A, n, c, rfl, h, hb⟩
  have H := hide h
  have B := hide hb
  clear h hb
  go_wp2
  go_ret
  exact ⟨_, _, _, rfl, H.out, B.out⟩

end Go.Proofs.Ytdneoeiggebijaa
