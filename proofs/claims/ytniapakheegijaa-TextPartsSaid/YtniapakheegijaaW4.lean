/- The closures that gather starts and lines; eachLine; Starts and Lines. -/
import Derived.Test.YtniapakheegijaaW3
import Derived.Test.YtniapakheegijaaShelf
import Derived.OneCell
namespace Go.Proofs.Ytniapakheegijaa
open Go.RowKit

/-- Block Bl is a captured slice variable that owns the cells xs. -/
def Cap (B Bl : Nat) (T e : TypeId) (sz n : Nat) (xs : List Value) (w : World) : Prop :=
  B ≤ Bl ∧ ∃ v, w.heap[Bl]? = some (.cells #[v] T (0, 0)) ∧ w.ownsRow B e sz v n xs

theorem cap_push {B Bl : Nat} {T e : TypeId} {sz n m : Nat} {xs ys : List Value} {wr W0 w1 : World} {v v' : Value} (hB : B ≤ Bl) (hTe : T ≠ e) (hn : 0 < m)
    (hv : wr.heap[Bl]? = some (.cells #[v] T (0, 0))) (hown : wr.ownsRow B e sz v n xs) (hb0 : Below wr.heap.size wr W0)
    (hown' : w1.ownsRow B e sz v' m ys) (hgrow : W0.grownBy w1 v.ownBlock) :
    (∃ g' cap', v' = .slice (some ⟨g', 0, none⟩) m cap') ∧ w1.cell? ⟨Bl, 0, none⟩ = some v ∧ w1.frozen? ⟨Bl, 0, none⟩ = false ∧ Cap B Bl T e sz m ys (w1.setCell ⟨Bl, 0, none⟩ v') ∧ Below B wr (w1.setCell ⟨Bl, 0, none⟩ v') := by
  have hBl := lt_of_block hv
  have hne : some Bl ≠ v.ownBlock := fun e => by
    rcases hown.2 with ⟨rfl, _⟩ | ⟨g, cap, cur, rfl, hg, hh, _⟩
    · simp [Value.ownBlock] at e
    · simp only [Value.ownBlock, Option.some.injEq] at e
      subst e
      rw [hh] at hv
      simp at hv
      exact hTe hv.2.symm
  have hlo : ∀ k, v.ownBlock = some k → B ≤ k := fun k hk => (hown.lt k hk).1
  have hbel : Below B wr w1 := by
    refine (hb0.mono (by omega)).trans ⟨hgrow.os, hgrow.tape, hgrow.output, hgrow.size, fun k hk => hgrow.block k (by have := hb0.size; omega) fun e => ?_⟩
    have := hlo k e.symm
    omega
  have hv1 : w1.heap[Bl]? = some (.cells #[v] T (0, 0)) := (hgrow.block Bl (by have := hb0.size; omega) hne).trans ((hb0.block Bl hBl).trans hv)
  have hne' : v'.ownBlock ≠ some Bl := fun e => by
    rcases hown'.2 with ⟨rfl, _⟩ | ⟨g, cap, cur, rfl, hg, hh, _⟩
    · simp [Value.ownBlock] at e
    · simp only [Value.ownBlock, Option.some.injEq] at e
      subst e
      rw [hh] at hv1
      simp at hv1
      exact hTe hv1.2.symm
  have hex : ∃ g' cap', v' = .slice (some ⟨g', 0, none⟩) m cap' := by
    rcases hown'.2 with ⟨_, h0⟩ | ⟨g', cap', _, h, _⟩
    · omega
    · exact ⟨g', cap', h⟩
  exact ⟨hex, cell_of_one hv1, free_of_one hv1, ⟨hB, v', one_setCell hv1, ownsRow_setCell_other hown' hne' v'⟩, hbel.setCell (by exact hB) _⟩

theorem c1_at (w : World) (x : Value) (T : TypeId) (g : Nat) (hg : g = w.heap.size) : ∀ (j : Nat) (u : Value), [x][j]? = some u → (w.alloc (.cells #[x] T)).cell? ((⟨g, 0, none⟩ : Addr).add j) = some u := by
  subst hg; exact c1_one w x T

set_option maxHeartbeats 400000 in
theorem push37 (B Bl n : Nat) (xs : List Value) (a : Nat) (b : Int) (w : World) (hn : n ≤ 100000) (hc : Cap B Bl 29 3 1 n xs w) :
    Calls Try.prog 37 #[.agg #[.int .i64 a, .int .i64 b], .pointer (some ⟨Bl, 0, none⟩)] w fun e w' => e = .returned (.tuple #[]) ∧ Cap B Bl 29 3 1 (n + 1) (xs ++ [.int .i64 a]) w' ∧ Below B w w' := by
  obtain ⟨i0, hi, hz0, hz1, hz2⟩ := info_parts Try.info3
  obtain ⟨hB, v, hv, hown⟩ := hc
  have hBl := lt_of_block hv
  have hcell : (w.alloc (.cells #[.int .i64 a, .int .i64 b] 42)).cell? ⟨Bl, 0, none⟩ = some v := by
    rw [World.cell?_alloc_lt _ _ _ hBl]; exact cell_of_one hv
  have hb0 : Below w.heap.size w ((w.alloc (.cells #[.int .i64 (a : Int), .int .i64 b] 42)).alloc (.cells #[.int .i64 (a : Int)] 3)) := ((Below.refl _ _).alloc (Nat.le_refl _) _).alloc (by simp) _
  have Hb0 := hide hb0
  clear hb0
  go_enter Try.func37, Try.ntmps37
  go_wp2_with (at_builtin; refine wpList_append_own _ rfl (.tmp 3) (.tmp 6) 29 rfl B 3 i0 (.int .i64 0) 1 8 Try.underlying29 hi hz0 hz1 hz2 rfl (by decide) _ _ _ rfl ((hown.alloc _).alloc _) ⟨w.heap.size + 1, 0, none⟩ 1 1 [.int .i64 (a : Int)] rfl rfl (c1_at (w.alloc _) _ _ _ (by simp)) (c2_one _ _) (by unfold maxLen; omega) (by omega) (by simp; omega) ?_)
  intro v' w1 hown' hgrow _
  obtain ⟨⟨g', cap', rfl⟩, hc1, hf1, hinv, hbel⟩ := cap_push hB (by decide) (by omega) hv hown Hb0.out hown' hgrow
  clear hown' hgrow hown
  have Hinv := hide hinv
  clear hinv
  go_wp2
  go_end0
  exact ⟨rfl, Hinv.out, hbel⟩

theorem toList_extract_end (s : ByteArray) (a : Nat) : (s.extract a s.size).data.toList = s.data.toList.drop a := by
  simp
  rw [List.take_of_length_le (by simp)]

theorem idx (s : ByteArray) (a : Nat) (ha : a ≤ s.size) :
    (Lib.indexByte (s.extract a s.size).data.toList 10 = -1 ∧ lineEnd s.data.toList a = s.size) ∨
    (∃ o : Nat, Lib.indexByte (s.extract a s.size).data.toList 10 = o ∧ lineEnd s.data.toList a = a + o ∧ a + o < s.size) := by
  rw [toList_extract_end]
  have hge := Lib.indexByte_ge (s.data.toList.drop a) 10
  by_cases h : Lib.indexByte (s.data.toList.drop a) 10 = -1
  · refine Or.inl ⟨h, ?_⟩
    have h1 := tw_none (Lib.indexByte_none h)
    unfold lineEnd lineAt
    rw [h1, List.length_drop, size_list]
    omega
  · obtain ⟨o, ho⟩ : ∃ o : Nat, Lib.indexByte (s.data.toList.drop a) 10 = o := ⟨(Lib.indexByte (s.data.toList.drop a) 10).toNat, by omega⟩
    obtain ⟨h1, h2⟩ := Lib.indexByte_some ho
    have h3 := tw_some h1 h2
    refine Or.inr ⟨o, ho, ?_, ?_⟩
    · unfold lineEnd lineAt
      rw [h3]
    · have := (List.getElem?_eq_some_iff.1 h1).1
      rw [List.length_drop, size_list] at this
      omega

theorem idx_none (s : ByteArray) (a : Nat) (w : World) (h : Lib.indexByte (s.extract a s.size).data.toList 10 = -1) :
    Calls Try.prog 46 #[.string (s.extract a s.size), .int .u8 10] w fun e w' => e = .returned (.int .i64 (-1)) ∧ w = w' :=
  (Try.strings_IndexByte _ 10 w).mono fun e w' ⟨h1, h2⟩ => ⟨by rw [h1, show (10 : Int).toNat.toUInt8 = 10 from rfl, h], h2.symm⟩

theorem idx_some (s : ByteArray) (a o : Nat) (w : World) (h : Lib.indexByte (s.extract a s.size).data.toList 10 = o) :
    Calls Try.prog 46 #[.string (s.extract a s.size), .int .u8 10] w fun e w' => e = .returned (.int .i64 o) ∧ w = w' :=
  (Try.strings_IndexByte _ 10 w).mono fun e w' ⟨h1, h2⟩ => ⟨by rw [h1, show (10 : Int).toNat.toUInt8 = 10 from rfl, h], h2.symm⟩

def StInv (B Bl : Nat) (s : ByteArray) (w : World) (k : Nat) (wr : World) : Prop :=
  (k < s.size → isStart s.data.toList k = true) ∧ Cap B Bl 29 3 1 (starts s.data.toList (min k s.size)).length (nums (starts s.data.toList (min k s.size))) wr ∧ Below B w wr

theorem StInv.step {B Bl : Nat} {s : ByteArray} {w wr w1 : World} {k e : Nat} (h : StInv B Bl s w k wr) (hk : k < s.size) (he : lineEnd s.data.toList k = e)
    (hc : Cap B Bl 29 3 1 ((starts s.data.toList (min k s.size)).length + 1) (nums (starts s.data.toList (min k s.size)) ++ [.int .i64 (k : Int)]) w1) (hb : Below B wr w1) : StInv B Bl s w (e + 1) w1 := by
  obtain ⟨h1, _, h3⟩ := h
  have hl := starts_line s.data.toList k (by simpa using hk) (h1 hk)
  have hst : stopN s.data.toList k = min (e + 1) s.size := by unfold stopN; rw [he, size_list]
  rw [hst] at hl
  rw [show min k s.size = k by omega] at hc
  refine ⟨fun hlt => ?_, ?_, h3.trans hb⟩
  · have := stop_start s.data.toList k (by rw [hst, size_list]; omega)
    rwa [hst, show min (e + 1) s.size = e + 1 by omega] at this
  · rw [hl, List.length_append]
    simpa [nums] using hc

set_option maxHeartbeats 1000000 in
theorem each37 (B Bl : Nat) (s : ByteArray) (w : World) (hs : s.size ≤ 100000) (hc : Cap B Bl 29 3 1 0 [] w) :
    Calls Try.prog 34 #[.string s, .func (.func 37) #[] #[.pointer (some ⟨Bl, 0, none⟩)]] w fun e w' => e = .returned (.tuple #[]) ∧ Cap B Bl 29 3 1 (starts s.data.toList s.size).length (nums (starts s.data.toList s.size)) w' ∧ Below B w w' := by
  go_enter Try.func34, Try.ntmps34
  go_wp2
  go_loopw [4] (fun i wr => ∃ k : Nat, k ≤ s.size + 1 ∧ i = .int .i64 k ∧ StInv B Bl s w k wr) (fun i _ => s.size + 1 - (intOf i).toNat)
  case atStart => exact ⟨0, Nat.zero_le _, rfl, fun _ => rfl, by simpa [starts, upto, nums] using hc, Below.refl _ _⟩
  case round =>
    obtain ⟨k, hk, rfl, hinv⟩ := hrel
    by_cases hlt : k < s.size
    · have hn : (starts s.data.toList (min k s.size)).length ≤ 100000 := Nat.le_trans (upto_len _ _) (by omega)
      have hstep := fun e w1 => hinv.step (e := e) (w1 := w1) hlt
      have Hstep := hide hstep
      have hcap := hinv.2.1
      have Hcap := hide hcap
      clear hstep hcap hinv
      rcases idx s k (by omega) with ⟨h1, h2⟩ | ⟨o, h1, h2, h3⟩
      · have H1 := hide h1
        have H2 := hide h2
        clear h1 h2
        go_wp2_with (first | (go_at_call 46; refine (idx_none _ _ _ H1.out).mono ?_; rintro e w' ⟨rfl, rfl⟩) | (go_at_call 37; refine (push37 B Bl _ _ _ _ _ hn Hcap.out).mono ?_; rintro e w1 ⟨rfl, hc1, hb1⟩))
        go_roundw
        case rel => exact ⟨s.size + 1, by omega, by go_num, Hstep.out _ _ H2.out hc1 hb1⟩
        case measure => simp [intOf]; omega
      · have H1 := hide h1
        have H2 := hide h2
        clear h1 h2
        go_wp2_with (first | (go_at_call 46; refine (idx_some _ _ o _ H1.out).mono ?_; rintro e w' ⟨rfl, rfl⟩) | (go_at_call 37; refine (push37 B Bl _ _ _ _ _ hn Hcap.out).mono ?_; rintro e w1 ⟨rfl, hc1, hb1⟩))
        go_roundw
        case rel => exact ⟨k + o + 1, by omega, by go_num, Hstep.out _ _ H2.out hc1 hb1⟩
        case measure => simp [intOf]; omega
    · go_wp2
      go_end0
      have h1 := hinv.2.1
      rw [show min k s.size = s.size by omega] at h1
      exact ⟨rfl, h1, hinv.2.2⟩

end Go.Proofs.Ytniapakheegijaa
