/- The closure that gathers lines; Lines and Starts. -/
import Derived.Test.YtniapakheegijaaW4
import Derived.Deep.RegionHeld3
import Derived.Deep.AppendLies
import Derived.Deep.RegionLaw
import Derived.BigRegion
namespace Go.Proofs.Ytniapakheegijaa
open Go.RowKit

theorem own_far {w : World} {B e : Nat} {sz n b : Nat} {T : TypeId} {v : Value} {xs : List Value} {cs : Array Value} {fr : Nat × Nat} (hown : w.ownsRow B e sz v n xs) (hb : w.heap[b]? = some (.cells cs T fr)) (hTe : T ≠ e) : v.ownBlock ≠ some b := fun h => by
  rcases hown.2 with ⟨rfl, _⟩ | ⟨g, cap, cur, rfl, hg, hh, _⟩
  · simp [Value.ownBlock] at h
  · simp only [Value.ownBlock, Option.some.injEq] at h
    subst h
    rw [hh] at hb
    simp at hb
    exact hTe hb.2.1.symm

set_option maxRecDepth 100000 in
set_option maxHeartbeats 1600000 in
theorem push35 (B Bl Bs n : Nat) (xs : List Value) (s : ByteArray) (a b : Nat) (bi : Int) (hbi : bi = b) (w : World) (hn : n ≤ 100000) (hc : Cap B Bl 26 9 1 n xs w) (hBB : Bs < B) (hs : w.heap[Bs]? = some (.cells #[.string s] 9 (0, 0))) (hab : a ≤ b) (hb : b ≤ s.size) :
    Calls Try.prog 35 #[.agg #[.int .i64 a, .int .i64 bi], .pointer (some ⟨Bl, 0, none⟩), .pointer (some ⟨Bs, 0, none⟩)] w fun e w' => e = .returned (.tuple #[]) ∧ Cap B Bl 26 9 1 (n + 1) (xs ++ [.string (s.extract a b)]) w' ∧ Below B w w' := by
  subst hbi
  obtain ⟨i0, hi, hz0, hz1, hz2⟩ := info_parts Try.info9
  obtain ⟨hB, v, hv, hown⟩ := hc
  have hBl := lt_of_block hv
  have hBs := lt_of_block hs
  have hcell : (w.alloc (.cells #[.int .i64 a, .int .i64 b] 42)).cell? ⟨Bl, 0, none⟩ = some v := by
    rw [World.cell?_alloc_lt _ _ _ hBl]; exact cell_of_one hv
  have hcs : (w.alloc (.cells #[.int .i64 a, .int .i64 b] 42)).cell? ⟨Bs, 0, none⟩ = some (.string s) := by
    rw [World.cell?_alloc_lt _ _ _ hBs]; exact cell_of_one hs
  have hca : (w.alloc (.cells #[.int .i64 a, .int .i64 b] 42)).cell? ⟨w.heap.size, 0, none⟩ = some (.int .i64 a) := by
    rw [World.cell?_alloc_mark]; rfl
  have hcb : (w.alloc (.cells #[.int .i64 a, .int .i64 b] 42)).cell? ⟨w.heap.size, 1, none⟩ = some (.int .i64 b) := by
    rw [World.cell?_alloc_mark]; rfl
  have nl := own_far hown hv (by decide)
  have ns : v.ownBlock ≠ some Bs := fun e => by have := (hown.lt _ e).1; omega
  have nw : v.ownBlock ≠ some w.heap.size := fun e => by have := (hown.lt _ e).2; omega
  have hfz : (((w.alloc (.cells #[.int .i64 (a : Int), .int .i64 (b : Int)] 42)).alloc (.cells #[.string (s.extract a b)] 9)).drew).frozen? ⟨Bl, 0, none⟩ = false := by
    refine Eq.trans (World.frozen?_of_block (w := w) ?_) (free_of_one hv)
    exact (Below.heap_alloc _ _ _ (by simp; omega)).trans (Below.heap_alloc _ _ _ hBl)
  have hcz : (((w.alloc (.cells #[.int .i64 (a : Int), .int .i64 (b : Int)] 42)).alloc (.cells #[.string (s.extract a b)] 9)).drew).cell? ⟨Bl, 0, none⟩ = some v := by
    refine Eq.trans (World.cell?_of_block (w := w) ?_) (cell_of_one hv)
    exact (Below.heap_alloc _ _ _ (by simp; omega)).trans (Below.heap_alloc _ _ _ hBl)
  have hb0 : Below w.heap.size w (((w.alloc (.cells #[.int .i64 (a : Int), .int .i64 (b : Int)] 42)).alloc (.cells #[.string (s.extract a b)] 9)).drew) := (((Below.refl _ _).alloc (Nat.le_refl _) _).alloc (by simp) _).drew
  have Hb0 := hide hb0
  clear hb0
  go_enter Try.func35, Try.ntmps35
  go_wp2_with fail
  go_region_law ((refine step_append_lies _ (by rfl) (.tmp 4) (.tmp 11) 26 (by rfl) B 9 i0 _ 1 16 Try.underlying26 hi hz0 hz1 hz2 rfl (by omega) v n xs (by rfl) ((hown.alloc _).alloc _).drew ⟨w.heap.size + 1, 0, none⟩ 1 1 [.string (s.extract a b)] (by rfl) (by rfl) (c1_at (w.alloc _) _ _ _ (by simp)) (c2_str _) (by omega) (by unfold maxLen; omega) (by omega) (by simp; omega) (w.heap.size + 2) (by simp) ?_; intro gg cap w1 hown1 hgrow hat hlt; have hf1 : w1.frozen? ⟨Bl, 0, none⟩ = false := (hgrow.frozen_far _ (by simp; omega) (Ne.symm nl)).trans hfz; have hc1 : w1.cell? ⟨Bl, 0, none⟩ = some v := (hgrow.cell_far _ (by simp; omega) (Ne.symm nl)).trans hcz))
  all_goals
    go_end0
    have R := cap_push hB (by decide) (by omega) hv hown Hb0.out hown1 hgrow
    exact ⟨rfl, R.2.2.2.1, R.2.2.2.2⟩

def lineStr (s : ByteArray) (a : Nat) : ByteArray := s.extract a (lineEnd s.data.toList a)
def strs (s : ByteArray) (k : Nat) : List Value := (starts s.data.toList k).map fun a => Value.string (lineStr s a)

def LinInv (B Bl : Nat) (s : ByteArray) (w : World) (k : Nat) (wr : World) : Prop :=
  (k < s.size → isStart s.data.toList k = true) ∧ Cap B Bl 26 9 1 (starts s.data.toList (min k s.size)).length (strs s (min k s.size)) wr ∧ Below B w wr

theorem LinInv.step {B Bl : Nat} {s : ByteArray} {w wr w1 : World} {k e : Nat} (h : LinInv B Bl s w k wr) (hk : k < s.size) (he : lineEnd s.data.toList k = e)
    (hc : Cap B Bl 26 9 1 ((starts s.data.toList (min k s.size)).length + 1) (strs s (min k s.size) ++ [.string (s.extract k e)]) w1) (hb : Below B wr w1) : LinInv B Bl s w (e + 1) w1 := by
  obtain ⟨h1, _, h3⟩ := h
  have hl := starts_line s.data.toList k (by simpa using hk) (h1 hk)
  have hst : stopN s.data.toList k = min (e + 1) s.size := by unfold stopN; rw [he, size_list]
  rw [hst] at hl
  rw [show min k s.size = k by omega] at hc
  refine ⟨fun hlt => ?_, ?_, h3.trans hb⟩
  · have := stop_start s.data.toList k (by rw [hst, size_list]; omega)
    rwa [hst, show min (e + 1) s.size = e + 1 by omega] at this
  · have hs : strs s (min (e + 1) s.size) = strs s k ++ [.string (s.extract k e)] := by
      unfold strs
      rw [hl, List.map_append]
      simp [lineStr, he]
    rw [hs, hl, List.length_append]
    exact hc

set_option maxHeartbeats 1000000 in
theorem each35 (B Bl Bs : Nat) (s : ByteArray) (w : World) (hsz : s.size ≤ 100000) (hBB : Bs < B) (hs : w.heap[Bs]? = some (.cells #[.string s] 9 (0, 0))) (hc : Cap B Bl 26 9 1 0 [] w) :
    Calls Try.prog 34 #[.string s, .func (.func 35) #[] #[.pointer (some ⟨Bl, 0, none⟩), .pointer (some ⟨Bs, 0, none⟩)]] w fun e w' => e = .returned (.tuple #[]) ∧ Cap B Bl 26 9 1 (starts s.data.toList s.size).length (strs s s.size) w' ∧ Below B w w' := by
  go_enter Try.func34, Try.ntmps34
  go_wp2
  go_loopw [4] (fun i wr => ∃ k : Nat, k ≤ s.size + 1 ∧ i = .int .i64 k ∧ LinInv B Bl s w k wr) (fun i _ => s.size + 1 - (intOf i).toNat)
  case atStart => exact ⟨0, Nat.zero_le _, rfl, fun _ => rfl, by simpa [starts, upto, strs] using hc, Below.refl _ _⟩
  case round =>
    obtain ⟨k, hk, rfl, hinv⟩ := hrel
    by_cases hlt : k < s.size
    · have hn : (starts s.data.toList (min k s.size)).length ≤ 100000 := Nat.le_trans (upto_len _ _) (by omega)
      have hstep := fun e w1 => hinv.step (e := e) (w1 := w1) hlt
      have Hstep := hide hstep
      have hcap := hinv.2.1
      have Hcap := hide hcap
      have hs1 := (hinv.2.2.block Bs hBB).trans hs
      have Hs1 := hide hs1
      have Hs := hide hs
      clear hstep hcap hinv hs1 hs
      rcases idx s k (by omega) with ⟨h1, h2⟩ | ⟨o, h1, h2, h3⟩
      · have H1 := hide h1
        have H2 := hide h2
        clear h1 h2
        go_wp2_with (first | (go_at_call 46; refine (idx_none _ _ _ H1.out).mono ?_; rintro e w' ⟨rfl, rfl⟩) | (go_at_call 35; refine (push35 B Bl Bs _ _ s k s.size _ rfl _ hn Hcap.out hBB Hs1.out (by omega) (Nat.le_refl _)).mono ?_; rintro e w1 ⟨rfl, hc1, hb1⟩))
        go_roundw
        case rel => exact ⟨s.size + 1, by omega, by go_num, Hstep.out _ _ H2.out hc1 hb1⟩
        case measure => simp [intOf]; omega
      · have H1 := hide h1
        have H2 := hide h2
        clear h1 h2
        go_wp2_with (first | (go_at_call 46; refine (idx_some _ _ o _ H1.out).mono ?_; rintro e w' ⟨rfl, rfl⟩) | (go_at_call 35; refine (push35 B Bl Bs _ _ s k (k + o) _ (by omega) _ hn Hcap.out hBB Hs1.out (by omega) (by omega)).mono ?_; rintro e w1 ⟨rfl, hc1, hb1⟩))
        go_roundw
        case rel => exact ⟨k + o + 1, by omega, by go_num, Hstep.out _ _ H2.out hc1 hb1⟩
        case measure => simp [intOf]; omega
    · go_wp2
      go_end0
      have h1 := hinv.2.1
      rw [show min k s.size = s.size by omega] at h1
      exact ⟨rfl, h1, hinv.2.2⟩

theorem owns_mono {w : World} {B B' e : Nat} {sz n : Nat} {v : Value} {xs : List Value} (h : w.ownsRow B e sz v n xs) (hB : B' ≤ B) : w.ownsRow B' e sz v n xs := by
  obtain ⟨h1, h2⟩ := h
  refine ⟨h1, ?_⟩
  rcases h2 with h2 | ⟨g, cap, cur, hv, hg, r⟩
  · exact Or.inl h2
  · exact Or.inr ⟨g, cap, cur, hv, by omega, r⟩

set_option maxHeartbeats 400000 in
theorem starts20 (s : ByteArray) (w : World) (hs : s.size ≤ 100000) : Calls Try.prog 20 #[.string s] w fun e w' => (∃ v, e = .returned v ∧ w'.ownsRow w.heap.size 3 1 v (starts s.data.toList s.size).length (nums (starts s.data.toList s.size))) ∧ Below w.heap.size w w' := by
  have hcap : Cap w.heap.size w.heap.size 29 3 1 0 [] (w.alloc (.cells #[.slice none 0 0] 29)) := ⟨Nat.le_refl _, _, heap_alloc_new w _, World.ownsRow_nil _ _ _ _⟩
  have Hcap := hide hcap
  clear hcap
  go_enter Try.func20, Try.ntmps20
  go_wp2_with fail
  refine (each37 _ _ s _ hs Hcap.out).mono ?_
  rintro e w1 ⟨rfl, ⟨hB, v, hv, hown⟩, hb1⟩
  have hc1 := cell_of_one hv
  go_wp2
  go_ret
  exact ⟨⟨v, rfl, hown⟩, ((Below.refl _ _).alloc (Nat.le_refl _) _).trans hb1⟩

set_option maxHeartbeats 400000 in
theorem lines17 (s : ByteArray) (w : World) (hs : s.size ≤ 100000) : Calls Try.prog 17 #[.string s] w fun e w' => (∃ v, e = .returned v ∧ w'.ownsRow w.heap.size 9 1 v (starts s.data.toList s.size).length (strs s s.size)) ∧ Below w.heap.size w w' := by
  have hcap : Cap (w.heap.size + 1) (w.heap.size + 1) 26 9 1 0 [] ((w.alloc (.cells #[.string s] 9)).alloc (.cells #[.slice none 0 0] 26)) :=
    ⟨Nat.le_refl _, _, (show _ = _ from by have := heap_alloc_new (w.alloc (.cells #[.string s] 9)) (.cells #[.slice none 0 0] 26); simpa using this), World.ownsRow_nil _ _ _ _⟩
  have hbs : ((w.alloc (.cells #[.string s] 9)).alloc (.cells #[.slice none 0 0] 26)).heap[w.heap.size]? = some (.cells #[.string s] 9 (0, 0)) :=
    (Below.heap_alloc _ _ _ (by simp)).trans (heap_alloc_new w _)
  have Hcap := hide hcap
  have Hbs := hide hbs
  clear hcap hbs
  go_enter Try.func17, Try.ntmps17
  go_wp2_with fail
  refine (each35 _ _ _ s _ hs (Nat.lt_succ_self _) Hbs.out Hcap.out).mono ?_
  rintro e w1 ⟨rfl, ⟨hB, v, hv, hown⟩, hb1⟩
  have hc1 := cell_of_one hv
  go_wp2
  go_ret
  exact ⟨⟨v, rfl, owns_mono hown (by omega)⟩, (((Below.refl _ _).alloc (Nat.le_refl _) _).alloc (by simp) _).trans (hb1.mono (by omega))⟩

end Go.Proofs.Ytniapakheegijaa
